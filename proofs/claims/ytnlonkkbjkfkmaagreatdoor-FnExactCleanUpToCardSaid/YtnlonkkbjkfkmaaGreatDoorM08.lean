/-
  Texts of this proof: Trk.
-/
import Derived.Test.YtnlonkkbjkfkmaaGreatDoorM07
import Derived.Test.YtnlonkkbjkfkmaaGreatDoorM02
import Derived.Lib.SmallJoins
import Derived.Deep.Strs
namespace Go.Proofs.YtnlonkkbjkfkmaaGreatDoor
open Go.RowKit Go.Joins Go.ChangeShapes Go.WideShapes Go.Deep
set_option linter.all false
def Sz1 (left : Int) (n : Nat) (w : World) (e : Ending) (w' : World) : Prop := ∃ r : Int, e = .returned (.int .i64 r) ∧ (r = -1 ∨ (0 ≤ r ∧ r = left - (n : Int))) ∧ w = w'
def Sz1B (left : Int) (n : Nat) (w : World) (e : Ending) (w' : World) : Prop := ∃ r : Int, e = .returned (.int .i64 r) ∧ (r = -1 ∨ (0 ≤ r ∧ r = left - (n : Int))) ∧ Below w.heap.size w w'
theorem szIntS_any {w : World} {v : Value} {xs : List Int} (h : RdI w v xs) (hs : xs.length ≤ 9223372036854775807) (left : Int) (hl0 : 0 ≤ left) (hl1 : left ≤ 1048576) :
  Calls Tryz.prog 75 #[v, .int .i64 left] w (Sz1 left xs.length w) := by
 obtain ⟨a, cap, rfl, -⟩ := h
 have hlc : (xs.length : Int) ≤ 9223372036854775807 := by omega
 by_cases hneg : left - (xs.length : Int) < 0
 ·have z1 : decide (left - (xs.length : Int) < 0) = true := by simpa using hneg
  go_enter Tryz.func75, Tryz.ntmps75
  go_wp2_with (fail)
  go_ret
  exact ⟨-1, rfl, .inl rfl, rfl⟩
 ·have z1 : decide (left - (xs.length : Int) < 0) = false := by simpa using hneg
  go_enter Tryz.func75, Tryz.ntmps75
  go_wp2_with (fail)
  go_ret
  exact ⟨_, rfl, .inr ⟨by omega, rfl⟩, rfl⟩
set_option maxHeartbeats 1000000 in
theorem szTrack_any {w : World} {v : Value} {ls : List Int} (h : RdI w v ls) (hs : ls.length ≤ 9223372036854775807) (left : Int) (hl0 : 0 ≤ left) (hl1 : left ≤ 1048576) :
  Calls Tryz.prog 175 #[.agg #[v], .int .i64 left] w (Sz1B left ls.length w) := by
 have hk := h.keep ((Below.refl _ _).alloc (Nat.le_refl _) (.cells #[v] 189))
 have hS := szIntS_any hk hs left hl0 hl1
 obtain ⟨a, cap, rfl, _⟩ := h
 go_enter Tryz.func175, Tryz.ntmps175
 go_wp2_with (fail)
 refine hS.mono ?_
 rintro e w1 ⟨r, rfl, hr, rfl⟩
 rcases hr with rfl | ⟨hr0, hr1⟩
 ·go_wp2_with (fail)
  go_ret
  exact ⟨-1, rfl, .inl rfl, (Below.refl _ _).alloc (Nat.le_refl _) _⟩
 ·have z1 : decide (r < 0) = false := by simpa using hr0
  have HR := Lib.hid hr1
  clear hr1
  go_wp2_with (fail)
  go_ret
  exact ⟨r, rfl, .inr ⟨hr0, HR.out⟩, (Below.refl _ _).alloc (Nat.le_refl _) _⟩
theorem RowI.far {w : World} {b : Nat} {xs : List Int} (h : RowI w b xs) {p : Addr} (hp : p.block ≠ b) (u : Value) : RowI (w.setCell p u) b xs := by
 refine ⟨fun j hj => ?_, fun j hj => ?_⟩
 ·rw [World.cell?_setCell_other _ _ _ _ (by intro e; apply hp; rw [e])]
  exact h.1 j hj
 ·rw [World.frozen?_setCell]; exact h.2 j hj
theorem OwnI.far {w : World} {B : Nat} {v : Value} {xs : List Int} (h : OwnI w B v xs) {p : Addr} (hp : p.block < B) (u : Value) : OwnI (w.setCell p u) B v xs := by
 obtain ⟨a, cap, hv, h⟩ := h
 refine ⟨a, cap, hv, ?_⟩
 rcases h with h | ⟨b, hB, ha, hr⟩
 ·exact .inl h
 ·exact .inr ⟨b, hB, ha, hr.far (by omega) u⟩
def RetOwn (w : World) (xs : List Int) (e : Ending) (w' : World) : Prop := ∃ v, e = .returned v ∧ OwnI w' w.heap.size v xs ∧ Below w.heap.size w w'
def CapI (v : Value) : Prop := ∃ a n c, v = .slice a n c ∧ n ≤ c
def RetOwnC (w : World) (xs : List Int) (e : Ending) (w' : World) : Prop := ∃ v, e = .returned v ∧ OwnI w' w.heap.size v xs ∧ CapI v ∧ Below w.heap.size w w'
set_option maxHeartbeats 400000 in
theorem toIntS_cap {w : World} {v : Value} {xs : List Int} (h : RdI w v xs) (hn : xs.length ≤ 1099511627776) :
  Calls Tryz.prog 24 #[v] w (RetOwnC w xs) := by
 obtain ⟨a, cap, rfl, h⟩ := h
 have hmk := fun W => run_make_ints W xs.length hn
 by_cases hx : xs = []
 ·subst hx
  have hmk0 : ∀ W, (Instr.makeSlice 27 (.int .i64 0) (.int .i64 0)).run Tryz.prog W = .ok (.slice (some ⟨W.heap.size, 0, none⟩) 0 0) (W.alloc (.cells (madeCells #[.int .i64 0] 0) 3)) := fun W => run_make_ints W 0 (by omega)
  clear hmk
  go_enter Tryz.func24, Tryz.ntmps24
  go_wp2
  refine wp_loop_once ?_
  go_wp2
  go_ret
  exact ⟨_, rfl, ⟨_, _, rfl, .inl rfl⟩, ⟨_, _, _, rfl, Nat.le_refl _⟩, (Below.refl _ _).alloc (Nat.le_refl _) _⟩
 ·obtain ⟨b, off, rfl, hc⟩ := h.resolve_left hx
  have hpos : 0 < xs.length := List.length_pos_iff.2 hx
  have hlt := World.block_lt_of_cell? w _ (hc 0 hpos)
  go_enter Tryz.func24, Tryz.ntmps24
  go_wp2
  go_loopw [4] (fun i wr => ∃ (k : Nat) (L : List Int), k ≤ xs.length ∧ i = .int .i64 k ∧ L.length = xs.length ∧ L.take k = xs.take k ∧ RowI wr w.heap.size L ∧ Below w.heap.size w wr) (fun i _ => xs.length - (intOf i).toNat)
  case atStart =>
   exact ⟨0, _, Nat.zero_le _, rfl, List.length_replicate, rfl, RowI.zeros w _, (Below.refl _ _).alloc (Nat.le_refl _) _⟩
  case round =>
   obtain ⟨k, L, hk, rfl, hL, htk, hrow, hbel⟩ := hrel
   by_cases hkl : k < xs.length
   ·have c1 : wr.cell? ⟨b, off + k, none⟩ = some (.int .i64 xs[k]) := (hbel.cell hlt).trans (hc k hkl)
    obtain ⟨u, c2⟩ : ∃ u, wr.cell? ⟨w.heap.size, k, none⟩ = some (.int .i64 u) := ⟨_, hrow.1 k (by omega)⟩
    have f2 := hrow.2 k (by omega)
    have HS := Lib.hid (hrow.set k (by omega) xs[k])
    have HL := Lib.hid hL
    have HT := Lib.hid htk
    clear hrow hL htk
    go_wp2
    go_roundw
    case rel =>
     refine ⟨k + 1, L.set k xs[k], by omega, by go_num, by rw [List.length_set]; exact HL.out, ?_, HS.out, hbel.setCell (Nat.le_refl _) _⟩
     rw [List.take_succ_eq_append_getElem (by rw [List.length_set, HL.out]; exact hkl), List.take_succ_eq_append_getElem hkl, List.take_set_of_le (Nat.le_refl _), HT.out, List.getElem_set_self]
    case measure => simp [intOf]; omega
   ·have e : L = xs := by
     rw [List.take_of_length_le (by omega), List.take_of_length_le (by omega)] at htk
     exact htk
    subst e
    go_wp2
    go_ret
    exact ⟨_, rfl, ⟨_, _, rfl, .inr ⟨_, Nat.le_refl _, rfl, hrow⟩⟩, ⟨_, _, _, rfl, Nat.le_refl _⟩, hbel⟩
theorem toIntS_own {w : World} {v : Value} {xs : List Int} (h : RdI w v xs) (hn : xs.length ≤ 1099511627776) :
  Calls Tryz.prog 24 #[v] w (RetOwn w xs) := by
 refine (toIntS_cap h hn).mono ?_
 rintro e w' ⟨v, rfl, ho, -, hb⟩
 exact ⟨v, rfl, ho, hb⟩
def RetTr (w : World) (xs : List Int) (e : Ending) (w' : World) : Prop := ∃ v, e = .returned (.agg #[v]) ∧ OwnI w' w.heap.size v xs ∧ Below w.heap.size w w'
set_option maxHeartbeats 1000000 in
theorem toTrack_any {w : World} {v : Value} {xs : List Int} (h : RdI w v xs) (hn : xs.length ≤ 1099511627776) :
  Calls Tryz.prog 178 #[.agg #[v]] w (RetTr w xs) := by
 obtain ⟨a, cap, rfl, h0⟩ := id h
 obtain ⟨W0, hW, hA, hB, hC, hB0, hS0⟩ := rows3 w #[.slice a xs.length cap] #[.slice none 0 0] #[.slice none 0 0] 189 118 118
 have cA := rowCells hA
 go_enter Tryz.func178, Tryz.ntmps178
 go_wp2_with (fail)
 refine (toIntS_own (h.keep hB0) hn).mono ?_
 rintro e w1 ⟨v1, rfl, hv, hb1⟩
 have hB1 := keepHeap hb1 hB
 have hC1 := keepHeap hb1 hC
 have cC := rowCells hC1
 have cB := rowCells hB1
 have fC := frozenHeap hC1 0
 have fB := frozenHeap hB1 0
 clear cA hW
 obtain ⟨a1, c1, rfl, hv1⟩ := id hv
 go_wp2_with (fail)
 refine bodyPost_ret (results_cell_row rfl _ _ (w.heap.size + 1) 118 #[.slice a1 xs.length c1] (0, 0) ?d ?hp ?hg ?hu ?hd ?hi) rfl ?_
 case hp => rfl
 case hg => exact setHeap (farHeap hB1 (by simp) _)
 case hu => exact Tryz.underlying118
 case hd => rfl
 case hi => kernel_rfl
 have hv2 := (hv.far (p := ⟨w.heap.size + 1 + 1, 0, none⟩) (by simp; omega) (.slice a1 xs.length c1)).far (p := ⟨w.heap.size + 1, 0, none⟩) (by simp; omega) (.slice a1 xs.length c1)
 exact ⟨_, rfl, hv2.up (by omega), ((hB0.trans (hb1.mono (by omega))).setCell (by simp; omega) _).setCell (by simp) _⟩
set_option maxHeartbeats 1000000 in
theorem eqTrack_same {w : World} {v v' : Value} {xs : List Int} (h : RdI w v xs) (h' : RdI w v' xs) (hn : xs.length ≤ 1099511627776) :
  Calls Tryz.prog 172 #[.agg #[v], .agg #[v']] w fun e w' => e = .returned (.bool true) ∧ Below w.heap.size w w' := by
 obtain ⟨a, cap, rfl, h0⟩ := id h
 obtain ⟨a', cap', rfl, h0'⟩ := id h'
 have hb : Below w.heap.size w ((w.alloc (.cells #[.slice a xs.length cap] 118)).alloc (.cells #[.slice a' xs.length cap'] 118)) := ((Below.refl _ _).alloc (Nat.le_refl _) _).alloc (by simp) _
 go_enter Tryz.func172, Tryz.ntmps172
 go_wp2_with (fail)
 refine (eqIntS_same (h.keep hb) (h'.keep hb) hn).mono ?_
 rintro e w1 ⟨rfl, n, rfl⟩
 go_wp2_with (fail)
 go_ret
 exact ⟨rfl, hb.trans ⟨rfl, rfl, rfl, Nat.le_refl _, fun _ _ => rfl⟩⟩
section
variable {H : Type} {enc : TypeId × Value → H} {w : World} {base : Nat} {spare : Nat → Bool} {held : Bool}
theorem rdI_of_trod {n : Nat} {v0 : Value} {y : DataW H × List MemPlace} (h : DataW.trod enc Tryz.prog w base spare held n 27 [v0] = some y) : ∃ ls, RdI w v0 ls ∧ ls.length ≤ 9223372036854775807 := by
 rcases open_ints Tryz.underlying27 Tryz.underlying3 (by kernel_rfl) h with ⟨hcs, _⟩ | ⟨x, l, c, zs, hcs, _, hl, hm, hz, _, hcell, hwz⟩
 ·simp only [List.cons.injEq, and_true] at hcs
  subst hcs
  exact ⟨[], ⟨none, 0, rfl, .inl rfl⟩, by simp⟩
 ·simp only [List.cons.injEq, and_true] at hcs
  subst hcs
  have hlz : l ≤ zs.length := by rw [hz]; split <;> omega
  have hlen : (zs.take l).length = l := by rw [List.length_take]; omega
  refine ⟨zs.take l, ⟨some x, c, by rw [hlen], ?_⟩, by rw [hlen]; exact Nat.le_trans hl hm⟩
  by_cases h0 : l = 0
  ·subst h0; exact .inl rfl
  ·obtain ⟨b, off, spot⟩ := x
   have hc0 := hcell 0 (by omega)
   have hspot : spot = none := by simpa [Addr.add] using World.cell?_spot hc0
   subst hspot
   refine .inr ⟨b, off, rfl, fun j hj => ?_⟩
   rw [hlen] at hj
   have := hcell j (by omega)
   rw [show (⟨b, off, none⟩ : Addr).add j = ⟨b, off + j, none⟩ by unfold Addr.add; split <;> simp_all] at this
   rw [this, List.getElem_take, List.getD_eq_getElem?_getD, List.getElem?_eq_getElem (by omega)]; rfl
end
end Go.Proofs.YtnlonkkbjkfkmaaGreatDoor
