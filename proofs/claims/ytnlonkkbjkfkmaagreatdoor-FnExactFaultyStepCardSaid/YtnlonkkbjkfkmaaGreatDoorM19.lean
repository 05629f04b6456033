/-
  Texts of this proof: CpW, Rep0, Cln, Cpy.
-/
import Derived.Test.YtnlonkkbjkfkmaaGreatDoorM14
import Derived.Test.YtnlonkkbjkfkmaaGreatDoorM17
import Derived.Test.YtnlonkkbjkfkmaaGreatDoorM18
import Derived.Lib.SliceRun
import Derived.Test.YtnlonkkbjkfkmaaGreatDoorM02
import Derived.Test.YtnlonkkbjkfkmaaGreatDoorM00
import Derived.Laws.CopyOwn
import Derived.Deep.RegionLaw
import Derived.Test.YtnlonkkbjkfkmaaGreatDoorM03
import Derived.Lib.AppendZeros
import Derived.Test.YtnlonkkbjkfkmaaGreatDoorM16
namespace Go.Proofs.YtnlonkkbjkfkmaaGreatDoor
open Go.RowKit
set_option linter.all false
set_option maxHeartbeats 2000000 in
theorem newPlayer_impl {w : World} {v : Value} {L : Rowz} (h : RdS w v L) (hg : Good L) (k : Nat) (hk : k ≤ 3) :
  Calls Tryz.prog 71 #[.agg #[v], .int .i64 (k : Int)] w fun e w' => e = .returned (bdV (freshB L k)) ∧ Below w.heap.size w w' := by
 have hst := fun {W : World} {v : Value} (h1 : RdS W v L) => startIn_any h1 hg k hk
 obtain ⟨a, cap, rfl, -⟩ := id h
 obtain ⟨W0, hW, hA, hB, hB0, hS0⟩ := rows2 w #[.slice a L.length cap] z9 26 100
 unfold z9 at hW
 have cA := rowCells hA
 have HF : Hid (freshB L k = ⟨0, (k : Int), (placeT (startT L k)).1, (placeT (startT L k)).2, 0, 0, 1, 3, 0⟩) := Lib.hid rfl
 generalize placeT (startT L k) = p at *
 obtain ⟨px, py⟩ := p
 go_enter Tryz.func71, Tryz.ntmps71
 go_wp2_with (fail)
 try rw [hW]
 clear hW
 refine (hst (h.keep hB0)).mono ?_
 rintro e w1 ⟨rfl, hb1⟩
 have hB1 := keepHeap hb1 hB
 have cB := rowCells hB1
 unfold z9 at cB
 have fB := fun j => frozenHeap hB1 j
 clear cA
 unfold retXY
 go_wp2_with (fail)
 have hP := putB_heap hB1 rfl ⟨0, (k : Int), px, py, 0, 0, 1, 3, 0⟩ px py 0 0
 have hbP := putB_below (hB0.trans (hb1.mono hB0.size)) (c := w.heap.size + 1) (by omega) ⟨0, (k : Int), px, py, 0, 0, 1, 3, 0⟩ px py 0 0
 unfold putB at hP hbP
 refine bodyPost_ret (results_cell_row rfl _ _ (w.heap.size + 1) 100 #[.int .i64 0, .int .i64 (k : Int), .int .i64 px, .int .i64 py, .int .i64 0, .int .i64 0, .int .i64 1, .int .i64 3, .int .i64 0] (0, 0) ?d ?hp ?hg ?hu ?hd ?hi) rfl ?_
 case hp => rfl
 case hg => exact hP
 case hu => exact Tryz.underlying100
 case hd => rfl
 case hi => kernel_rfl
 exact ⟨by rw [HF.out]; rfl, hbP⟩
def freshS (L : Rowz) (k : Nat) : Bd := ⟨0, (k : Int), (startI L (k : Int)).1, (startI L (k : Int)).2, 0, 0, 1, 3, 0⟩
theorem freshS_eq {L : Rowz} {k : Nat} (h : levelB L = true) (hk : k ≤ 3) : freshS L k = freshB L k := by
 unfold freshS freshB
 rw [startI_yes h ((inR_iff _ _ _).2 ⟨by omega, by omega⟩)]
set_option maxHeartbeats 2000000 in
theorem fresh_spec {w : World} {v : Value} {L : Rowz} (h : RdS w v L) (hs : Sane L) (k : Nat) :
  Calls Tryz.prog 135 #[.agg #[v], .int .i64 (k : Int)] w fun e w' => e = .returned (bdV (freshS L k)) ∧ Below w.heap.size w w' := by
 have hst := fun {W : World} {v : Value} (h1 : RdS W v L) => startOf_spec h1 hs (k : Int)
 obtain ⟨a, cap, rfl, -⟩ := id h
 obtain ⟨W0, hW, hA, hB, hB0, hS0⟩ := rows2 w #[.slice a L.length cap] z9 26 100
 unfold z9 at hW
 have cA := rowCells hA
 have HF : Hid (freshS L k = ⟨0, (k : Int), (startI L (k : Int)).1, (startI L (k : Int)).2, 0, 0, 1, 3, 0⟩) := Lib.hid rfl
 generalize startI L (k : Int) = p at *
 obtain ⟨px, py⟩ := p
 go_enter Tryz.func135, Tryz.ntmps135
 go_wp2_with (fail)
 try rw [hW]
 clear hW
 refine (hst (h.keep hB0)).mono ?_
 rintro e w1 ⟨rfl, hb1⟩
 have hB1 := keepHeap hb1 hB
 have cB := rowCells hB1
 unfold z9 at cB
 have fB := fun j => frozenHeap hB1 j
 clear cA
 unfold retXY
 go_wp2_with (fail)
 have hP := putB_heap hB1 rfl ⟨0, (k : Int), px, py, 0, 0, 1, 3, 0⟩ px py 0 0
 have hbP := putB_below (hB0.trans (hb1.mono hB0.size)) (c := w.heap.size + 1) (by omega) ⟨0, (k : Int), px, py, 0, 0, 1, 3, 0⟩ px py 0 0
 unfold putB at hP hbP
 refine bodyPost_ret (results_cell_row rfl _ _ (w.heap.size + 1) 100 #[.int .i64 0, .int .i64 (k : Int), .int .i64 px, .int .i64 py, .int .i64 0, .int .i64 0, .int .i64 1, .int .i64 3, .int .i64 0] (0, 0) ?d ?hp ?hg ?hu ?hd ?hi) rfl ?_
 case hp => rfl
 case hg => exact hP
 case hu => exact Tryz.underlying100
 case hd => rfl
 case hi => kernel_rfl
 exact ⟨by rw [HF.out]; rfl, hbP⟩
def OwnRB (w : World) (B : Nat) (v : Value) (X : List Bd) : Prop := w.ownsRow B 100 9 v X.length (X.map bdL).flatten
theorem flatL : ∀ l : List Bd, (l.map bdL).flatten.length = l.length * 9
 | [] => rfl
 | b :: r => by rw [List.map_cons, List.flatten_cons, List.length_append, flatL r, bdL_len, List.length_cons]; omega
theorem flatL_at : ∀ (l : List Bd) (j i : Nat) (hj : j < l.length) (hi : i < 9), (l.map bdL).flatten[j * 9 + i]? = some ((bdL l[j])[i]'(by rw [bdL_len]; exact hi))
 | [], _, _, hj, _ => by simp at hj
 | b :: r, 0, i, _, hi => by
  rw [List.map_cons, List.flatten_cons, List.getElem?_append_left (by rw [bdL_len]; omega)]
  rw [show 0 * 9 + i = i by omega, List.getElem?_eq_getElem (by rw [bdL_len]; exact hi)]
  rfl
 | b :: r, j + 1, i, hj, hi => by
  rw [List.map_cons, List.flatten_cons, List.getElem?_append_right (by rw [bdL_len]; omega), bdL_len]
  rw [show (j + 1) * 9 + i - 9 = j * 9 + i by omega]
  have := flatL_at r j i (by simpa using hj) hi
  rw [this]
  rfl
theorem OwnRB.nil (w : World) (B : Nat) : OwnRB w B (.slice none 0 0) [] := World.ownsRow_nil w B _ 9
theorem OwnRB.keep {w w' : World} {B C : Nat} {v : Value} {X : List Bd} (h : OwnRB w B v X) (hb : Below C w w') (hC : w.heap.size ≤ C) : OwnRB w' B v X :=
 World.ownsRow.kept h (row := none) ⟨hb.os, hb.tape, hb.output, hb.size, fun k hk _ => hb.block k (by omega)⟩ (by cases v.ownBlock <;> simp)
theorem OwnRB.capd {w : World} {B : Nat} {v : Value} {X : List Bd} (h : OwnRB w B v X) : CapI v := by
 rcases h.2 with ⟨rfl, h0⟩ | ⟨g, cap, cur, rfl, hB, hg, hn, hc, -⟩
 ·exact ⟨_, _, _, rfl, Nat.le_refl _⟩
 ·exact ⟨_, _, _, rfl, hn⟩
theorem OwnRB.own {w : World} {B : Nat} {v : Value} {X : List Bd} (h : OwnRB w B v X) : OwnBd w B v X := by
 obtain ⟨h1, h2⟩ := h
 rcases h2 with ⟨rfl, h0⟩ | ⟨g, cap, cur, rfl, hB, hg, hn, hc, hsz, htk⟩
 ·have : X = [] := List.eq_nil_of_length_eq_zero h0
  subst this
  exact ⟨none, 0, rfl, .inl rfl⟩
 ·have hcell : ∀ j (hj : j < X.length) i (hi : i < 9), w.cell? ⟨g, j * 9 + i, none⟩ = some ((bdL X[j])[i]'(by rw [bdL_len]; exact hi)) := by
   intro j hj i hi
   rw [cell_of_row w g (j * 9 + i) cur _ (0, 0) hg]
   have h3 := flatL_at X j i hj hi
   rw [← htk, List.getElem?_take, if_pos (by omega)] at h3
   simpa using h3
  refine ⟨_, cap, rfl, .inr ⟨g, hB, rfl, fun j hj => ⟨fun i v hv => ?_, fun i hi => ?_⟩⟩⟩
  ·obtain ⟨hi, hv'⟩ := List.getElem?_eq_some_iff.1 hv
   rw [bdL_len] at hi
   rw [hcell j hj i hi, hv']
  ·exact ⟨by rw [hcell j hj i hi]; rfl, by simp [World.frozen?, hg]⟩
theorem OwnRB.notBox {W : World} {B p : Nat} {v : Value} {X : List Bd} {cs : Array Value} {T : TypeId} {fz : Nat × Nat} (h : OwnRB W B v X) (hp : W.heap[p]? = some (.cells cs T fz)) (hT : T ≠ 100) : v.ownBlock ≠ some p := by
 rcases h.2 with ⟨rfl, -⟩ | ⟨g, cap, cur, rfl, -, hg, -⟩
 ·intro e; cases e
 ·intro e
  obtain rfl := Option.some.inj e
  rw [show W.heap[g]? = some (.cells cur 100 (0, 0)) from hg] at hp
  have := Obj.cells.inj (Option.some.inj hp)
  exact hT this.2.1.symm
theorem OwnRB.aside {W : World} {B : Nat} {v : Value} {X : List Bd} (h : OwnRB W B v X) {p : Addr} (hne : v.ownBlock ≠ some p.block) (u : Value) : OwnRB (W.setCell p u) B v X :=
 ownsRow_setCell_other h hne u
end Go.Proofs.YtnlonkkbjkfkmaaGreatDoor
namespace Go.Proofs.YtnlonkkbjkfkmaaGreatDoor
open Go.RowKit
set_option linter.all false
end Go.Proofs.YtnlonkkbjkfkmaaGreatDoor
namespace Go.Proofs.YtnlonkkbjkfkmaaGreatDoor
open Go.RowKit
set_option linter.all false
theorem OwnR.capd {w : World} {B : Nat} {v : Value} {xs : List Int} (h : OwnR w B v xs) : CapI v := by
 rcases h.2 with ⟨rfl, h0⟩ | ⟨g, cap, cur, rfl, hB, hg, hn, hc, -⟩
 ·exact ⟨_, _, _, rfl, Nat.le_refl _⟩
 ·exact ⟨_, _, _, rfl, hn⟩
end Go.Proofs.YtnlonkkbjkfkmaaGreatDoor
namespace Go.Proofs.YtnlonkkbjkfkmaaGreatDoor
open Go.RowKit
set_option linter.all false
theorem OwnR.far {w : World} {B : Nat} {v : Value} {xs : List Int} (h : OwnR w B v xs) {p : Addr} (hp : p.block < B) (u : Value) : OwnR (w.setCell p u) B v xs := ownsRow_setCell_below h hp u
theorem OwnR.low {w : World} {B C : Nat} {v : Value} {xs : List Int} (h : OwnR w B v xs) (hC : C ≤ B) : OwnR w C v xs := by
 refine ⟨h.1, ?_⟩
 rcases h.2 with h | ⟨g, cap, cur, hv, hB, rest⟩
 ·exact .inl h
 ·exact .inr ⟨g, cap, cur, hv, Nat.le_trans hC hB, rest⟩
end Go.Proofs.YtnlonkkbjkfkmaaGreatDoor
