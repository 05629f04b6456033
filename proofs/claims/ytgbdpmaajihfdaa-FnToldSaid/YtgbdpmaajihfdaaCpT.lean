/-
  Copies of lists of tracks, of the model and of the program. Lists of at most 2^20 tracks and inputs.
-/
import Derived.Test.YtgbdpmaajihfdaaOwT
import Derived.Test.YtgbdpmaajihfdaaCpy
import Derived.Test.YtgbdpmaajihfdaaTrs
import Derived.Test.YtgbdpmaajihfdaaAppI
namespace Go.Proofs.Ytgbdpmaajihfdaa
open Go.RowKit
set_option linter.all false
def RetTT (w : World) (X : Rowi) (e : Ending) (w' : World) : Prop := ∃ v, e = .returned v ∧ OwnTT w' w.heap.size w'.heap.size v X ∧ Below w.heap.size w w'
theorem run_make_capT (W : World) (n : Nat) (hn : n ≤ 1048576) : (Instr.makeSlice 24 (.int .i64 0) (.int .i64 (n : Int))).run Try.prog W = .ok (.slice (some ⟨W.heap.size, 0, none⟩) 0 n) (W.alloc (.cells (madeCells #[.slice none 0 0] n) 29)) := by
  obtain ⟨i0, hi, hz0, hz1, hz2⟩ := info_parts info_TrackS
  have := run_make (P := Try.prog) W 24 29 i0 (.agg #[.slice none 0 0]) Try.underlying24 hi hz0 .i64 .i64 0 n (by omega) (by omega) (by rw [hz2]; omega) (by omega)
  rw [this, hz1, Nat.mul_one, Int.toNat_natCast]; rfl
theorem OwnTT.capped (w : World) (n : Nat) (hn : n ≤ 1048576) : OwnTT (w.alloc (.cells (madeCells #[.slice none 0 0] n) 29)) w.heap.size (w.alloc (.cells (madeCells #[.slice none 0 0] n) 29)).heap.size (.slice (some ⟨w.heap.size, 0, none⟩) 0 n) [] := by
  have hc : (madeCells #[Value.slice none 0 0] n).size = n := by rw [← Array.length_toList, toList_madeCells_one]; simp
  have := OwnTT.made w w.heap.size (madeCells #[.slice none 0 0] n) (Nat.le_refl _) (by rw [hc]; unfold maxLen; omega)
  rwa [hc] at this
set_option maxHeartbeats 2000000 in
theorem copyTracks_impl {w : World} {v : Value} {X : Rowi} (h : RdR w v X) (hf : Few X) :
    Calls Try.prog 16 #[v] w (RetTT w X) := by
  obtain ⟨a, cap, rfl, h⟩ := h
  obtain ⟨hn, hi⟩ := hf
  have hmk := fun W => run_make_capT W X.length hn
  have hown0 := OwnTT.capped w X.length hn
  go_enter Try.func16, Try.ntmps16
  go_wp2_with (fail)
  go_loopw [3, 11] (fun c i wr => ∃ k : Nat, k ≤ X.length ∧ i = .int .i64 (k : Int) ∧ OwnTT wr w.heap.size wr.heap.size c (X.take k) ∧ Below w.heap.size w wr) (fun _ i _ => X.length - (intOf i).toNat)
  case atStart => exact ⟨0, Nat.zero_le _, rfl, hown0, below1 _ _⟩
  case round =>
    obtain ⟨k, hk, rfl, hown, hbel⟩ := hrel
    by_cases hkl : k < X.length
    · obtain ⟨b, off, rfl, hc⟩ := h.resolve_left (by intro e; rw [e] at hkl; simp at hkl)
      obtain ⟨u, c0, r0⟩ := hc k hkl
      have c1 : wr.cell? ⟨b, off + k, none⟩ = some u := (hbel.cell (World.block_lt_of_cell? w _ c0)).trans c0
      have r1 := r0.keep hbel
      have HT := Lib.hid (List.take_succ_eq_append_getElem hkl)
      have hxl := hi X[k] (List.getElem_mem _)
      have HTL := Lib.hid (show (X.take k).length = k by rw [List.length_take]; omega)
      have hl1 : (k : Int) < (X.length : Int) := by omega
      have hsz := hbel.size
      obtain ⟨ax, cx, rfl, -⟩ := id r0
      generalize X[k] = x at *
      clear hc h c0 r0
      obtain ⟨W1, hW1, hA1, hb1, hS1⟩ := rows1 wr #[.slice ax x.length cx] 29
      have cA := rowCells hA1
      have hown1 := hown.keep hb1
      have hbel1 := hbel.trans (hb1.mono hsz)
      have hs1 := hb1.size
      have hrd := hown.rd
      clear hown
      generalize X.take k = acc at *
      obtain ⟨al, cl, rfl, -⟩ := id hrd
      go_wp2_with (fail)
      refine (copyTrack_impl (r1.keep hb1) (by omega)).mono ?_
      rintro e w2 ⟨v2, rfl, o2, hb2⟩
      have hown2 := hown1.keep hb2
      have hbel2 := hbel1.trans (hb2.mono hbel1.size)
      have o2' : OwnI w2 wr.heap.size v2 x := o2.up hs1
      obtain ⟨a2, c2, rfl, -⟩ := id o2
      clear cA
      go_wp2_with (at_builtin; refine app_track rfl _ _ rfl w.heap.size wr.heap.size _ acc rfl hown2 _ x o2' rfl (by have := HTL.out; omega) ?_; intro v' w4 hown' hb')
      go_roundw
      case rel => exact ⟨k + 1, by omega, by go_num, by rw [HT.out]; exact hown', hbel2.trans hb'⟩
      case measure => simp [intOf]; omega
    · have e : X.take k = X := List.take_of_length_le (by omega)
      rw [e] at hown
      clear e
      go_wp2_with (fail)
      go_ret
      exact ⟨_, rfl, hown, hbel⟩
end Go.Proofs.Ytgbdpmaajihfdaa
