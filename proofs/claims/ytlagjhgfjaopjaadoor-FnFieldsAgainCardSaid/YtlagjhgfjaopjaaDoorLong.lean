/-
  A text of one byte again and again (l01Long).
-/
import Derived.Test.YtlagjhgfjaopjaaDoorXor
import Derived.Deep.RegionLaw
namespace Go.Proofs.YtlagjhgfjaopjaaDoor
open Go.RowKit
set_option linter.all false
theorem RowB.zeros (w : World) (n : Nat) : RowB (w.alloc (.cells (madeCells #[.int .u8 0] n) 5)) w.heap.size (List.replicate n 0) := by
  refine ⟨fun j h => ?_, fun j h => ?_⟩
  · rw [List.length_replicate] at h
    rw [World.cell?_alloc_mark, List.getElem_replicate, ← Array.getElem?_toList, toList_madeCells_one, List.getElem?_replicate, if_pos h]
    rfl
  · rw [World.frozen?_alloc_mark]; simp
theorem make_bytes (W : World) (n : Nat) (hn : n ≤ 1099511627776) : (Instr.makeSlice 22 (.int .i64 (n : Int)) (.int .i64 (n : Int))).run Tryd.prog W = .ok (.slice (some ⟨W.heap.size, 0, none⟩) n n) (W.alloc (.cells (madeCells #[.int .u8 0] n) 5)) := by
  obtain ⟨i0, hi, hz0, hz1, hz2⟩ := info_parts info_u8
  have := run_make (P := Tryd.prog) W 22 5 i0 (.int .u8 0) Tryd.underlying22 hi hz0 .i64 .i64 n n (by omega) (Int.le_refl _) (by rw [hz2]; omega) (by omega)
  rw [this, hz1, Nat.mul_one, Int.toNat_natCast]; rfl
set_option maxHeartbeats 1000000 in
theorem long_any (n : Nat) (x : UInt8) (w : World) (hn : n ≤ 1000000) :
    Calls Tryd.prog 21 #[.int .i64 (n : Int), .int .u8 (x.toNat : Int)] w fun e w' => ∃ t : List UInt8, t.length = n ∧ e = .returned (.string ⟨t.toArray⟩) ∧ Below w.heap.size w w' := by
  have hmk := fun W => make_bytes W n (by omega)
  go_enter Tryd.func21, Tryd.ntmps21
  go_wp2_with (fail)
  go_loopw [6] (fun i wr => ∃ (k : Nat) (t : List UInt8), k ≤ n ∧ i = .int .i64 (k : Int) ∧ t.length = n ∧ RowB wr w.heap.size t ∧ Below w.heap.size w wr) (fun i _ => n - (intOf i).toNat)
  case atStart => exact ⟨0, List.replicate n 0, Nat.zero_le _, rfl, by simp, RowB.zeros w n, (Below.refl _ _).alloc (Nat.le_refl _) _⟩
  case round =>
    obtain ⟨k, t, hk, rfl, htl, hrow, hbel⟩ := hrel
    by_cases hkn : k < n
    · have hc := hrow.1 k (by omega)
      have hfz := hrow.2 k (by omega)
      obtain ⟨y, hy⟩ : ∃ y, y = t[k] := ⟨_, rfl⟩
      rw [← hy] at hc
      have HS := Lib.hid (hrow.set k (by omega) x)
      have hlt : (k : Int) < (n : Int) := by omega
      have HL := Lib.hid htl
      clear hrow hy htl
      unfold byteV at hc
      go_wp2_with (fail)
      try go_region
      all_goals
        go_wp2_with (fail)
        go_roundw
        case rel => exact ⟨k + 1, _, by omega, by go_num, by rw [List.length_set]; exact HL.out, HS.out, hbel.setCell (Nat.le_refl _) _⟩
        case measure => simp [intOf]; omega
    · have e : k = n := by omega
      subst e
      have hst := run_convert_bytes_back (P := Tryd.prog) wr 22 9 5 ⟨w.heap.size, 0, none⟩ k t Tryd.underlying22 Tryd.underlying5 Tryd.underlying9 (fun j hj => by
          rw [show (⟨w.heap.size, 0, none⟩ : Addr).add j = ⟨w.heap.size, j, none⟩ by unfold Addr.add; split <;> simp_all]
          exact hrow.1 j hj)
      rw [htl] at hst
      have HL := Lib.hid htl
      clear hrow htl
      go_wp2_with (fail)
      go_ret
      exact ⟨t, HL.out, rfl, hbel⟩
end Go.Proofs.YtlagjhgfjaopjaaDoor
