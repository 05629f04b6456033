/-
  Texts of this proof: AppI, StI, CpL.
-/
import Derived.Test.YtnlonkkbjkfkmaaGreatDoorM02
import Derived.Test.YtnlonkkbjkfkmaaGreatDoorM03
import Derived.Lib.AppendIntMem
import Derived.Laws.AppendOwnNone
import Derived.BigQuiet
import Derived.Test.YtnlonkkbjkfkmaaGreatDoorM00
import Derived.Deep.RegionLaw
import Derived.OneCell
import Derived.Test.YtnlonkkbjkfkmaaGreatDoorM15
import Derived.Test.YtnlonkkbjkfkmaaGreatDoorM05
import Derived.Lib.SliceRun
namespace Go.Proofs.YtnlonkkbjkfkmaaGreatDoor
open Go.RowKit
set_option linter.all false
def OwnR (w : World) (B : Nat) (v : Value) (xs : List Int) : Prop := w.ownsRow B 3 1 v xs.length (xs.map (Value.int .i64))
theorem OwnR.row {w : World} {B : Nat} {v : Value} {xs : List Int} (h : OwnR w B v xs) : w.ownsRow B 3 1 v xs.length (xs.map (Value.int .i64)) := h
theorem OwnR.keep {w w' : World} {B C : Nat} {v : Value} {xs : List Int} (h : OwnR w B v xs) (hb : Below C w w') (hC : w.heap.size ≤ C) : OwnR w' B v xs :=
 World.ownsRow.kept h (row := none) ⟨hb.os, hb.tape, hb.output, hb.size, fun k hk _ => hb.block k (by omega)⟩ (by cases v.ownBlock <;> simp)
theorem OwnR.made (w : World) (cur : Array Value) (B : Nat) (hB : B ≤ w.heap.size) (hm : cur.size ≤ maxLen) : OwnR (w.alloc (.cells cur 3)) B (.slice (some ⟨w.heap.size, 0, none⟩) 0 cur.size) [] :=
 World.ownsRow_made w cur cur.size hB hm (by simp)
theorem OwnR.own {w : World} {B : Nat} {v : Value} {xs : List Int} (h : OwnR w B v xs) : OwnI w B v xs := by
 obtain ⟨h1, h2⟩ := h
 rcases h2 with ⟨rfl, h0⟩ | ⟨g, cap, cur, rfl, hB, hg, hn, hc, hsz, htk⟩
 ·have : xs = [] := List.eq_nil_of_length_eq_zero h0
  subst this
  exact ⟨none, 0, rfl, .inl rfl⟩
 ·refine ⟨_, cap, rfl, .inr ⟨g, hB, rfl, fun j hj => ?_, fun j hj => ?_⟩⟩
  ·rw [cell_of_row w g j cur _ (0, 0) hg]
   have hjc : (xs.map (Value.int .i64))[j]? = some (.int .i64 xs[j]) := by simp [hj]
   rw [← htk, List.getElem?_take] at hjc
   split at hjc
   ·simpa using hjc
   ·cases hjc
  ·simp [World.frozen?, hg]
theorem run_append_none {P : Program} {w : World} (base : Nat) (t ty e : TypeId) (i : TypeInfo) (size : Nat) (ht : P.underlying t = some (.slice e)) (hi : P.info? e = some i)
  (v : Value) (n : Nat) (xs : List Value) (hown : w.ownsRow base e size v n xs) (c : Nat) :
  (Builtin.append_ #[t, t] ty #[v, .slice none 0 c]).run P w = .ok v w := by
 rcases hown.2 with ⟨rfl, rfl⟩ | ⟨g, cap, cur, rfl, _, _, hnc, _⟩
 ·simp [Builtin.append_, run_underlying ht, sizeOf, typeInfo, hi, Builtin.lenOf, Builtin.firstCells]
 ·simp [Builtin.append_, run_underlying ht, sizeOf, typeInfo, hi, Builtin.lenOf, Builtin.firstCells, hnc, storeCells]
theorem wp_append_none {P : Program} {w : World} {ops : Array Oper} {rest : List Oper} {o : Oper} {a : Act} {Q : Exit → Act → World → Prop} (hgd : o.guard = none) (s x : Operand) (t : TypeId)
  (ho : o.op = .call { callee := .builtin .append, args := #[s, x], argTypes := #[t, t] })
  (base : Nat) (e : TypeId) (i : TypeInfo) (size : Nat) (ht : P.underlying t = some (.slice e)) (hi : P.info? e = some i)
  (v : Value) (n : Nat) (xs : List Value) (hs : a.eval s = v) (hown : w.ownsRow base e size v n xs) (c : Nat) (hx : a.eval x = .slice none 0 c)
  (h : wpList P ops Q rest (a.put o.dst v) w) : wpList P ops Q (o :: rest) a w := by
 refine wpList_plain hgd fun K hK => ?_
 have hrun := run_append_none (P := P) (w := w) base t o.type e i size ht hi v n xs hown c
 unfold Oper.wp
 simp [execOp, ho, resolve, invoke, builtin, hs, hx, hrun, Result.andThen]
 exact hK _ _ h
theorem app_ints {ops : Array Oper} {rest : List Oper} {o : Oper} {a : Act} {Q : Exit → Act → World → Prop} {W : World} (hgd : o.guard = none) (s x : Operand)
  (ho : o.op = .call { callee := .builtin .append, args := #[s, x], argTypes := #[27, 27] })
  (B : Nat) (v : Value) (xs : List Int) (hs : a.eval s = v) (hown : OwnR W B v xs) (u : Value) (ys : List Int) (hx : a.eval x = u) (hr : RdI W u ys)
  (hlen : xs.length + ys.length ≤ 17592186044416) (hbase : B ≤ W.heap.size)
  (h : ∀ v' w', OwnR w' B v' (xs ++ ys) → Below B W w' → wpList Tryz.prog ops Q rest (a.put o.dst v') w') : wpList Tryz.prog ops Q (o :: rest) a W := by
 obtain ⟨i0, hi, hz0, hz1, hz2⟩ := info_parts info_int
 obtain ⟨ad, cap, rfl, hr⟩ := hr
 have key : ∀ (ad : Addr), (∀ j u, (ys.map (Value.int .i64))[j]? = some u → W.cell? (ad.add j) = some u) → a.eval x = .slice (some ad) ys.length cap → wpList Tryz.prog ops Q (o :: rest) a W := by
  intro ad hc hx
  refine wpList_append_own _ hgd s x 27 ho B 3 i0 (.int .i64 0) 1 8 Tryz.underlying27 hi hz0 hz1 hz2 rfl (by decide) v xs.length (xs.map (Value.int .i64)) hs hown ad ys.length cap (ys.map (Value.int .i64)) hx (by simp) hc (by intro u hu; obtain ⟨n, -, rfl⟩ := List.mem_map.1 hu; rfl) (by unfold maxLen; omega) (by omega) hbase ?_
  intro v' w' hown' hgrow _
  refine h v' w' ?_ ((Below.refl B W).grown hgrow hbase fun k hk => (hown.lt k hk).1)
  unfold OwnR; rw [List.length_append, List.map_append]; exact hown'
 rcases hr with rfl | ⟨b, off, rfl, hc⟩
 ·cases ad with
  | none =>
   exact wp_append_none hgd s x 27 ho B 3 i0 1 Tryz.underlying27 hi v xs.length (xs.map (Value.int .i64)) hs hown cap hx (h v W (by simpa using hown) (Below.refl _ _))
  | some ad => exact key ad (by simp) hx
 ·refine key _ (fun j u hj => ?_) hx
  rw [List.getElem?_map, Option.map_eq_some_iff] at hj
  obtain ⟨n, hn, rfl⟩ := hj
  obtain ⟨hj, rfl⟩ := List.getElem?_eq_some_iff.1 hn
  rw [Addr.add_lit]; exact hc j hj
end Go.Proofs.YtnlonkkbjkfkmaaGreatDoor
namespace Go.Proofs.YtnlonkkbjkfkmaaGreatDoor
open Go.RowKit
set_option linter.all false
theorem OwnR.box {W w' : World} {B p : Nat} {v : Value} {xs : List Int} {o : Option Obj} (hown : OwnR W B v xs) (hg : W.grownBy w' v.ownBlock) (hp : p < W.heap.size) (hne : v.ownBlock ≠ some p) (h : W.heap[p]? = o) : w'.heap[p]? = o :=
 (hg.block p hp (fun e => hne e.symm)).trans h
theorem OwnR.notBox {W : World} {B p : Nat} {v : Value} {xs : List Int} {cs : Array Value} {T : TypeId} {fz : Nat × Nat} (h : OwnR W B v xs) (hp : W.heap[p]? = some (.cells cs T fz)) (hT : T ≠ 3) : v.ownBlock ≠ some p := by
 rcases h.2 with ⟨rfl, -⟩ | ⟨g, cap, cur, rfl, -, hg, -⟩
 ·intro e; cases e
 ·intro e
  obtain rfl := Option.some.inj e
  rw [show W.heap[g]? = some (.cells cur 3 (0, 0)) from hg] at hp
  have := Obj.cells.inj (Option.some.inj hp)
  exact hT this.2.1.symm
theorem OwnR.aside {W : World} {B : Nat} {v : Value} {xs : List Int} (h : OwnR W B v xs) {p : Addr} (hne : v.ownBlock ≠ some p.block) (u : Value) : OwnR (W.setCell p u) B v xs :=
 ownsRow_setCell_other h hne u
end Go.Proofs.YtnlonkkbjkfkmaaGreatDoor
namespace Go.Proofs.YtnlonkkbjkfkmaaGreatDoor
open Go.RowKit
set_option linter.all false
theorem app_strs {ops : Array Oper} {rest : List Oper} {o : Oper} {a : Act} {Q : Exit → Act → World → Prop} {W : World} (hgd : o.guard = none) (s x : Operand)
  (ho : o.op = .call { callee := .builtin .append, args := #[s, x], argTypes := #[24, 24] })
  (B : Nat) (v : Value) (xs : List (List UInt8)) (hs : a.eval s = v) (hown : OwnS W B v xs) (u : Value) (ys : List (List UInt8)) (hx : a.eval x = u) (hr : RdS W u ys)
  (hlen : xs.length + ys.length ≤ 4398046511104) (hbase : B ≤ W.heap.size)
  (h : ∀ v' w', OwnS w' B v' (xs ++ ys) → Below B W w' → wpList Tryz.prog ops Q rest (a.put o.dst v') w') : wpList Tryz.prog ops Q (o :: rest) a W := by
 obtain ⟨i0, hi, hz0, hz1, hz2⟩ := info_parts info_str
 obtain ⟨ad, cap, rfl, hr⟩ := hr
 have key : ∀ (ad : Addr), (∀ j u, (strsV ys)[j]? = some u → W.cell? (ad.add j) = some u) → a.eval x = .slice (some ad) ys.length cap → wpList Tryz.prog ops Q (o :: rest) a W := by
  intro ad hc hx
  refine wpList_append_own _ hgd s x 24 ho B 9 i0 (.string ⟨#[]⟩) 1 16 Tryz.underlying24 hi hz0 hz1 hz2 rfl (by decide) v xs.length (strsV xs) hs hown ad ys.length cap (strsV ys) hx (by simp [strsV]) hc (by intro u hu; obtain ⟨n, -, rfl⟩ := List.mem_map.1 hu; rfl) (by unfold maxLen; omega) (by omega) hbase ?_
  intro v' w' hown' hgrow _
  refine h v' w' ?_ ((Below.refl B W).grown hgrow hbase fun k hk => (hown.row.lt k hk).1)
  unfold OwnS strsV; rw [List.length_append, List.map_append]; exact hown'
 rcases hr with rfl | ⟨b, off, rfl, hc⟩
 ·cases ad with
  | none =>
   refine wp_append_none hgd s x 24 ho B 9 i0 1 Tryz.underlying24 hi v xs.length (strsV xs) hs hown cap hx (h v W (by simpa using hown) (Below.refl _ _))
  | some ad => exact key ad (by simp [strsV]) hx
 ·refine key _ (fun j u hj => ?_) hx
  unfold strsV at hj
  rw [List.getElem?_map, Option.map_eq_some_iff] at hj
  obtain ⟨n, hn, rfl⟩ := hj
  obtain ⟨hj, rfl⟩ := List.getElem?_eq_some_iff.1 hn
  rw [Addr.add_lit]; exact hc j hj
theorem OwnS.capd {w : World} {B : Nat} {v : Value} {xs : List (List UInt8)} (h : OwnS w B v xs) : CapI v := by
 rcases h.2 with ⟨rfl, h0⟩ | ⟨g, cap, cur, rfl, hB, hg, hn, hc, -⟩
 ·exact ⟨_, _, _, rfl, Nat.le_refl _⟩
 ·exact ⟨_, _, _, rfl, hn⟩
def RetCp (w : World) (xs : List (List UInt8)) (e : Ending) (w' : World) : Prop := ∃ v, e = .returned v ∧ WrS w' w.heap.size v xs ∧ CapI v ∧ Below w.heap.size w w'
def RetCpL (w : World) (xs : List (List UInt8)) (e : Ending) (w' : World) : Prop := ∃ v, e = .returned (.agg #[v]) ∧ WrS w' w.heap.size v xs ∧ CapI v ∧ Below w.heap.size w w'
set_option maxHeartbeats 1000000 in
theorem cloneS_any {w : World} {v : Value} {xs : List (List UInt8)} (h : RdS w v xs) (hn : xs.length ≤ 1048576) :
  Calls Tryz.prog 158 #[v] w (RetCp w xs) := by
 obtain ⟨a, cap, rfl, h0⟩ := id h
 have q : ∀ (w : World) (a : Option Addr) (n c n' c' : Nat), (binOp .eql 24 (.slice a n c) (.slice none n' c')).run Tryz.prog w = .ok (.bool a.isNone) w := fun w a n c n' c' => Lib.run_eql_slice_nil w _ _ a n c n' c' Tryz.underlying24
 cases a with
 | none =>
  have hx : xs = [] := by
   rcases h0 with h0 | ⟨b, off, h0, -⟩
   ·exact h0
   ·cases h0
  subst hx
  go_enter Tryz.func158, Tryz.ntmps158
  go_wp2_with (fail)
  go_ret
  exact ⟨_, rfl, ⟨none, 0, rfl, .inl rfl⟩, ⟨none, 0, 0, rfl, Nat.le_refl _⟩, Below.refl _ _⟩
 | some ad =>
  have hk := h.keep (below1 w (.cells #[] 9))
  have ho := OwnS.made w #[] w.heap.size (Nat.le_refl _) (by unfold maxLen; simp)
  clear h h0
  go_enter Tryz.func158, Tryz.ntmps158
  go_wp2_with (at_builtin; refine app_strs rfl _ _ rfl w.heap.size _ [] rfl ho _ xs rfl hk (by simp; omega) (by simp) ?_; intro v' w1 hown' hb1)
  go_ret
  exact ⟨_, rfl, by simpa using hown'.wr, hown'.capd, (below1 w _).trans (hb1.mono (by simp))⟩
set_option maxHeartbeats 1000000 in
theorem copyLevel_impl {w : World} {v : Value} {xs : List (List UInt8)} (h : RdS w v xs) (hn : xs.length ≤ 1048576) :
  Calls Tryz.prog 70 #[.agg #[v]] w (RetCpL w xs) := by
 obtain ⟨a, cap, rfl, h0⟩ := id h
 obtain ⟨W0, hW, hA, hB, hB0, hS0⟩ := rows2 w #[.slice a xs.length cap] #[.slice none 0 0] 26 26
 have cA := rowCells hA
 go_enter Tryz.func70, Tryz.ntmps70
 go_wp2_with (fail)
 try rw [hW]
 refine (cloneS_any (h.keep hB0) hn).mono ?_
 rintro e w1 ⟨v1, rfl, hv, hc1, hb1⟩
 have hB1 := keepHeap hb1 hB
 have cB := rowCells hB1
 have fB := frozenHeap hB1 0
 clear cA hW
 obtain ⟨a1, c1, rfl, hv1⟩ := id hv
 go_wp2_with (fail)
 refine bodyPost_ret (results_cell_row rfl _ _ (w.heap.size + 1) 26 #[.slice a1 xs.length c1] (0, 0) ?d ?hp ?hg ?hu ?hd ?hi) rfl ?_
 case hp => rfl
 case hg => exact setHeap hB1
 case hu => exact Tryz.underlying26
 case hd => rfl
 case hi => kernel_rfl
 exact ⟨_, rfl, (hv.far (p := ⟨w.heap.size + 1, 0, none⟩) (by simp; omega) (.slice a1 xs.length c1)).up (by omega), hc1, (hB0.trans (hb1.mono (by omega))).setCell (by simp) _⟩
set_option maxHeartbeats 1000000 in
theorem copyLevel_spec {w : World} {v : Value} {xs : List (List UInt8)} (h : RdS w v xs) (hn : xs.length ≤ 1048576) :
  Calls Tryz.prog 134 #[.agg #[v]] w (RetCpL w xs) := by
 obtain ⟨a, cap, rfl, h0⟩ := id h
 obtain ⟨W0, hW, hA, hB, hB0, hS0⟩ := rows2 w #[.slice a xs.length cap] #[.slice none 0 0] 26 26
 have cA := rowCells hA
 have hz := below1 W0 (.cells #[] 9)
 have hk := (h.keep hB0).keep hz
 have hO := OwnS.made W0 #[] W0.heap.size (Nat.le_refl _) (by unfold maxLen; simp)
 have hB1 := keepHeap hz hB
 have cA1 := rowCells (keepHeap hz hA)
 go_enter Tryz.func134, Tryz.ntmps134
 go_wp2_with (at_builtin; refine app_strs rfl _ _ rfl W0.heap.size _ [] rfl hO _ xs rfl hk (by simp; omega) hz.size ?_; intro v' w3 hown' hb3; rw [List.nil_append] at hown'; obtain ⟨a3, c3, rfl, -⟩ := id hown'.rd; have hB3 := (hb3.block (w.heap.size + 1) (by omega)).trans hB1; have cB := rowCells hB3; have fB := frozenHeap hB3 0)
 refine bodyPost_ret (results_cell_row rfl _ _ (w.heap.size + 1) 26 #[.slice a3 xs.length c3] (0, 0) ?d ?hp ?hg ?hu ?hd ?hi) rfl ?_
 case hp => rfl
 case hg => exact setHeap hB3
 case hu => exact Tryz.underlying26
 case hd => rfl
 case hi => kernel_rfl
 exact ⟨_, rfl, (hown'.wr.far (p := ⟨w.heap.size + 1, 0, none⟩) (by simp; omega) (.slice a3 xs.length c3)).up (by omega), hown'.capd, (hB0.trans ((hz.trans hb3).mono (by omega))).setCell (by simp) _⟩
end Go.Proofs.YtnlonkkbjkfkmaaGreatDoor
