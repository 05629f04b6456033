/-
  Texts of this proof: Cap.
-/
import Derived.Test.YtnlonkkbjkfkmaaGreatDoorM16
namespace Go.Proofs.YtnlonkkbjkfkmaaGreatDoor
open Go.RowKit
set_option linter.all false
def CapOk (v : Value) : Prop := ∃ a n c, v = .slice a n c ∧ n ≤ c
def RetRdSC (w : World) (xs : List (List UInt8)) (e : Ending) (w' : World) : Prop := ∃ v, e = .returned v ∧ WrS w' w.heap.size v xs ∧ Below w.heap.size w w' ∧ CapOk v
def RetLvC (w : World) (xs : List (List UInt8)) (e : Ending) (w' : World) : Prop := ∃ v, e = .returned (.agg #[v]) ∧ WrS w' w.heap.size v xs ∧ Below w.heap.size w w' ∧ CapOk v
set_option maxHeartbeats 400000 in
theorem toStringS_cap {w : World} {v : Value} {xs : List (List UInt8)} (h : RdS w v xs) (hn : xs.length ≤ 1099511627776) :
  Calls Tryz.prog 91 #[v] w (RetRdSC w xs) := by
 obtain ⟨a, cap, rfl, h⟩ := h
 have hmk := fun W => run_make_strs W xs.length hn
 by_cases hx : xs = []
 ·subst hx
  have hmk0 : ∀ W, (Instr.makeSlice 24 (.int .i64 0) (.int .i64 0)).run Tryz.prog W = .ok (.slice (some ⟨W.heap.size, 0, none⟩) 0 0) (W.alloc (.cells (madeCells #[.string ⟨#[]⟩] 0) 9)) := fun W => run_make_strs W 0 (by omega)
  clear hmk
  go_enter Tryz.func91, Tryz.ntmps91
  go_wp2
  refine wp_loop_once ?_
  go_wp2
  go_ret
  exact ⟨_, rfl, ⟨_, _, rfl, .inl rfl⟩, (Below.refl _ _).alloc (Nat.le_refl _) _, ⟨_, _, _, rfl, Nat.le_refl _⟩⟩
 ·obtain ⟨b, off, rfl, hc⟩ := h.resolve_left hx
  have hpos : 0 < xs.length := List.length_pos_iff.2 hx
  have hlt := World.block_lt_of_cell? w _ (hc 0 hpos)
  go_enter Tryz.func91, Tryz.ntmps91
  go_wp2
  go_loopw [4] (fun i wr => ∃ (k : Nat) (L : List (List UInt8)), k ≤ xs.length ∧ i = .int .i64 k ∧ L.length = xs.length ∧ L.take k = xs.take k ∧ RowS wr w.heap.size L ∧ Below w.heap.size w wr) (fun i _ => xs.length - (intOf i).toNat)
  case atStart =>
   exact ⟨0, _, Nat.zero_le _, rfl, List.length_replicate, rfl, RowS.zeros w _, (Below.refl _ _).alloc (Nat.le_refl _) _⟩
  case round =>
   obtain ⟨k, L, hk, rfl, hL, htk, hrow, hbel⟩ := hrel
   by_cases hkl : k < xs.length
   ·obtain ⟨x, hx2⟩ : ∃ x, x = xs[k] := ⟨_, rfl⟩
    have c1 : wr.cell? ⟨b, off + k, none⟩ = some (.string ⟨x.toArray⟩) := by rw [hx2]; exact (hbel.cell hlt).trans (hc k hkl)
    obtain ⟨u, c2⟩ : ∃ u, wr.cell? ⟨w.heap.size, k, none⟩ = some (.string u) := ⟨_, hrow.1 k (by omega)⟩
    have f2 := hrow.2 k (by omega)
    have HS := Lib.hid (hrow.set k (by omega) x)
    have HL := Lib.hid hL
    have HT := Lib.hid htk
    have HX := Lib.hid hx2
    clear hrow hL htk hx2
    go_wp2
    go_roundw
    case rel =>
     refine ⟨k + 1, L.set k x, by omega, by go_num, by rw [List.length_set]; exact HL.out, ?_, HS.out, hbel.setCell (Nat.le_refl _) _⟩
     rw [List.take_succ_eq_append_getElem (by rw [List.length_set, HL.out]; exact hkl), List.take_succ_eq_append_getElem hkl, List.take_set_of_le (Nat.le_refl _), HT.out, List.getElem_set_self, HX.out]
    case measure => simp [intOf]; omega
   ·have e : L = xs := by
     rw [List.take_of_length_le (by omega), List.take_of_length_le (by omega)] at htk
     exact htk
    subst e
    go_wp2
    go_ret
    exact ⟨_, rfl, ⟨_, _, rfl, .inr ⟨_, Nat.le_refl _, rfl, hrow⟩⟩, hbel, ⟨_, _, _, rfl, Nat.le_refl _⟩⟩
set_option maxHeartbeats 1000000 in
theorem toLevel_cap {w : World} {v : Value} {xs : List (List UInt8)} (h : RdS w v xs) (hn : xs.length ≤ 1099511627776) :
  Calls Tryz.prog 34 #[.agg #[v]] w (RetLvC w xs) := by
 obtain ⟨a, cap, rfl, h0⟩ := id h
 obtain ⟨W0, hW, hA, hB, hC, hB0, hS0⟩ := rows3 w #[.slice a xs.length cap] #[.slice none 0 0] #[.slice none 0 0] 43 26 26
 have cA := rowCells hA
 go_enter Tryz.func34, Tryz.ntmps34
 go_wp2_with (fail)
 refine (toStringS_cap (h.keep hB0) hn).mono ?_
 rintro e w1 ⟨v1, rfl, hv, hb1, hcp⟩
 have hB1 := keepHeap hb1 hB
 have hC1 := keepHeap hb1 hC
 have cC := rowCells hC1
 have cB := rowCells hB1
 have fC := frozenHeap hC1 0
 have fB := frozenHeap hB1 0
 clear cA hW
 obtain ⟨a1, c1, rfl, hv1⟩ := id hv
 go_wp2_with (fail)
 refine bodyPost_ret (results_cell_row rfl _ _ (w.heap.size + 1) 26 #[.slice a1 xs.length c1] (0, 0) ?d ?hp ?hg ?hu ?hd ?hi) rfl ?_
 case hp => rfl
 case hg => exact setHeap (farHeap hB1 (by simp) _)
 case hu => exact Tryz.underlying26
 case hd => rfl
 case hi => kernel_rfl
 have hv2 := (hv.far (p := ⟨w.heap.size + 1 + 1, 0, none⟩) (by simp; omega) (.slice a1 xs.length c1)).far (p := ⟨w.heap.size + 1, 0, none⟩) (by simp; omega) (.slice a1 xs.length c1)
 exact ⟨_, rfl, hv2.up (by omega), ((hB0.trans (hb1.mono (by omega))).setCell (by simp; omega) _).setCell (by simp) _, hcp⟩
end Go.Proofs.YtnlonkkbjkfkmaaGreatDoor
