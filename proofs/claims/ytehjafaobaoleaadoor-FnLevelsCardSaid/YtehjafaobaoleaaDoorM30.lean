/-
  Texts of this proof: CpW.
-/
import Derived.Test.YtehjafaobaoleaaDoorM25
import Derived.Test.YtehjafaobaoleaaDoorM27
import Derived.Test.YtehjafaobaoleaaDoorM28
import Derived.Test.YtehjafaobaoleaaDoorM08
import Derived.Lib.SliceRun
import Derived.Test.YtehjafaobaoleaaDoorM29
namespace Go.Proofs.YtehjafaobaoleaaDoor
open Go.RowKit
set_option linter.all false
theorem place_small {L : Rowz} (h : levelB L = true) (P : Nat) : ∃ x y : Int, placeT (startT L P) = (x, y) ∧ 0 ≤ x ∧ x ≤ 1000 ∧ 0 ≤ y ∧ y ≤ 1000 := by
 obtain ⟨r, c, h1, h2, h3, -⟩ := start_place h P
 exact ⟨_, _, h3, by omega, by omega, by omega, by omega⟩
def freshS (L : Rowz) (k : Nat) : Bd := ⟨0, (k : Int), (startI L (k : Int)).1, (startI L (k : Int)).2, 0, 0, 1, 3, 0⟩
theorem freshS_eq {L : Rowz} {k : Nat} (h : levelB L = true) (hk : k ≤ 3) : freshS L k = freshB L k := by
 unfold freshS freshB
 rw [startI_yes h ((inR_iff _ _ _).2 ⟨by omega, by omega⟩)]
set_option maxHeartbeats 2000000 in
theorem fresh_spec {w : World} {v : Value} {L : Rowz} (h : RdS w v L) (hs : Sane L) (k : Nat) :
  Calls Tryd.prog 36 #[.agg #[v], .int .i64 (k : Int)] w fun e w' => e = .returned (bdV (freshS L k)) ∧ Below w.heap.size w w' := by
 have hst := fun {W : World} {v : Value} (h1 : RdS W v L) => startOf_spec h1 hs (k : Int)
 obtain ⟨a, cap, rfl, -⟩ := id h
 obtain ⟨W0, hW, hA, hB, hB0, hS0⟩ := rows2 w #[.slice a L.length cap] z9 26 57
 unfold z9 at hW
 have cA := rowCells hA
 have HF : Hid (freshS L k = ⟨0, (k : Int), (startI L (k : Int)).1, (startI L (k : Int)).2, 0, 0, 1, 3, 0⟩) := Lib.hid rfl
 generalize startI L (k : Int) = p at *
 obtain ⟨px, py⟩ := p
 go_enter Tryd.func36, Tryd.ntmps36
 go_wp2_with (fail)
 try rw [hW]
 clear hW
 refine (hst (h.keep hB0)).mono ?_
 rintro e w1 ⟨rfl, hb1⟩
 have hB1 := keepHeap hb1 hB
 have cB := rowCells hB1
 unfold z9 at cB
 have fB := fun j => frozenHeap hB1 j
 clear cA
 unfold retXY
 go_wp2_with (fail)
 have hP := putB_heap hB1 rfl ⟨0, (k : Int), px, py, 0, 0, 1, 3, 0⟩ px py 0 0
 have hbP := putB_below (hB0.trans (hb1.mono hB0.size)) (c := w.heap.size + 1) (by omega) ⟨0, (k : Int), px, py, 0, 0, 1, 3, 0⟩ px py 0 0
 unfold putB at hP hbP
 refine bodyPost_ret (results_cell_row rfl _ _ (w.heap.size + 1) 57 #[.int .i64 0, .int .i64 (k : Int), .int .i64 px, .int .i64 py, .int .i64 0, .int .i64 0, .int .i64 1, .int .i64 3, .int .i64 0] (0, 0) ?d ?hp ?hg ?hu ?hd ?hi) rfl ?_
 case hp => rfl
 case hg => exact hP
 case hu => exact Tryd.underlying57
 case hd => rfl
 case hi => kernel_rfl
 exact ⟨by rw [HF.out]; rfl, hbP⟩
def OwnRB (w : World) (B : Nat) (v : Value) (X : List Bd) : Prop := w.ownsRow B 57 9 v X.length (X.map bdL).flatten
theorem flatL_at : ∀ (l : List Bd) (j i : Nat) (hj : j < l.length) (hi : i < 9), (l.map bdL).flatten[j * 9 + i]? = some ((bdL l[j])[i]'(by rw [bdL_len]; exact hi))
 | [], _, _, hj, _ => by simp at hj
 | b :: r, 0, i, _, hi => by
  rw [List.map_cons, List.flatten_cons, List.getElem?_append_left (by rw [bdL_len]; omega)]
  rw [show 0 * 9 + i = i by omega, List.getElem?_eq_getElem (by rw [bdL_len]; exact hi)]
  rfl
 | b :: r, j + 1, i, hj, hi => by
  rw [List.map_cons, List.flatten_cons, List.getElem?_append_right (by rw [bdL_len]; omega), bdL_len]
  rw [show (j + 1) * 9 + i - 9 = j * 9 + i by omega]
  have := flatL_at r j i (by simpa using hj) hi
  rw [this]
  rfl
theorem OwnRB.nil (w : World) (B : Nat) : OwnRB w B (.slice none 0 0) [] := World.ownsRow_nil w B _ 9
theorem OwnRB.keep {w w' : World} {B C : Nat} {v : Value} {X : List Bd} (h : OwnRB w B v X) (hb : Below C w w') (hC : w.heap.size ≤ C) : OwnRB w' B v X :=
 World.ownsRow.kept h (row := none) ⟨hb.os, hb.tape, hb.output, hb.size, fun k hk _ => hb.block k (by omega)⟩ (by cases v.ownBlock <;> simp)
theorem OwnRB.capd {w : World} {B : Nat} {v : Value} {X : List Bd} (h : OwnRB w B v X) : CapI v := by
 rcases h.2 with ⟨rfl, h0⟩ | ⟨g, cap, cur, rfl, hB, hg, hn, hc, -⟩
 ·exact ⟨_, _, _, rfl, Nat.le_refl _⟩
 ·exact ⟨_, _, _, rfl, hn⟩
theorem OwnRB.own {w : World} {B : Nat} {v : Value} {X : List Bd} (h : OwnRB w B v X) : OwnBd w B v X := by
 obtain ⟨h1, h2⟩ := h
 rcases h2 with ⟨rfl, h0⟩ | ⟨g, cap, cur, rfl, hB, hg, hn, hc, hsz, htk⟩
 ·have : X = [] := List.eq_nil_of_length_eq_zero h0
  subst this
  exact ⟨none, 0, rfl, .inl rfl⟩
 ·have hcell : ∀ j (hj : j < X.length) i (hi : i < 9), w.cell? ⟨g, j * 9 + i, none⟩ = some ((bdL X[j])[i]'(by rw [bdL_len]; exact hi)) := by
   intro j hj i hi
   rw [cell_of_row w g (j * 9 + i) cur _ (0, 0) hg]
   have h3 := flatL_at X j i hj hi
   rw [← htk, List.getElem?_take, if_pos (by omega)] at h3
   simpa using h3
  refine ⟨_, cap, rfl, .inr ⟨g, hB, rfl, fun j hj => ⟨fun i v hv => ?_, fun i hi => ?_⟩⟩⟩
  ·obtain ⟨hi, hv'⟩ := List.getElem?_eq_some_iff.1 hv
   rw [bdL_len] at hi
   rw [hcell j hj i hi, hv']
  ·exact ⟨by rw [hcell j hj i hi]; rfl, by simp [World.frozen?, hg]⟩
theorem OwnRB.notBox {W : World} {B p : Nat} {v : Value} {X : List Bd} {cs : Array Value} {T : TypeId} {fz : Nat × Nat} (h : OwnRB W B v X) (hp : W.heap[p]? = some (.cells cs T fz)) (hT : T ≠ 57) : v.ownBlock ≠ some p := by
 rcases h.2 with ⟨rfl, -⟩ | ⟨g, cap, cur, rfl, -, hg, -⟩
 ·intro e; cases e
 ·intro e
  obtain rfl := Option.some.inj e
  rw [show W.heap[g]? = some (.cells cur 57 (0, 0)) from hg] at hp
  have := Obj.cells.inj (Option.some.inj hp)
  exact hT this.2.1.symm
theorem OwnRB.aside {W : World} {B : Nat} {v : Value} {X : List Bd} (h : OwnRB W B v X) {p : Addr} (hne : v.ownBlock ≠ some p.block) (u : Value) : OwnRB (W.setCell p u) B v X :=
 ownsRow_setCell_other h hne u
theorem step_body {ops : Array Oper} {o : Oper} {a : Act} {W : World} {K : Act → World → Prop} {Q : Exit → Act → World → Prop} {E : Prop} (hgd : o.guard = none) (s x : Operand)
  (ho : o.op = .call { callee := .builtin .append, args := #[s, x], argTypes := #[28, 28] })
  (B : Nat) (v : Value) (X : List Bd) (hs : a.eval s = v) (hown : OwnRB W B v X) (ad : Nat) (b : Bd) (hx : a.eval x = .slice (some ⟨ad, 0, none⟩) 1 1)
  (hc0 : W.rangeAt ad 0 (bdL b)) (hlen : X.length + 1 ≤ 1048576) (hbase : B ≤ W.heap.size)
  (h : ∀ v' w', OwnRB w' B v' (X ++ [b]) → Below B W w' → W.grownBy w' v.ownBlock → K (a.put o.dst v') w') : if Region.wanted o (yielded ops a.tmps) = true then Oper.wp Tryd.prog o a W K Q else E := by
 obtain ⟨i0, hi, hz0, hz1, hz2⟩ := info_parts info_BodyS
 have hcell : ∀ j u, (bdL b)[j]? = some u → W.cell? ((⟨ad, 0, none⟩ : Addr).add j) = some u := by
  intro j u hj
  rw [Addr.add_lit]
  exact hc0 j u hj
 rw [if_pos (by simp [Region.wanted, hgd])]
 refine wp_append_own W s x 28 ho B 57 i0 (.agg z9) 9 72 Tryd.underlying28 hi hz0 hz1 hz2 (by rfl) (by decide) v X.length (X.map bdL).flatten hs hown ⟨ad, 0, none⟩ 1 1 (bdL b) hx (by rfl) hcell (bdL_one b) (by unfold maxLen; omega) (by omega) hbase ?_
 intro v' w' hown' hgrow _
 refine h v' w' ?_ ?_ hgrow
 ·unfold OwnRB; rw [List.length_append, List.map_append, List.flatten_append]; simpa using hown'
 ·exact (Below.refl B W).grown hgrow hbase fun k hk => (World.ownsRow.lt hown k hk).1
end Go.Proofs.YtehjafaobaoleaaDoor
