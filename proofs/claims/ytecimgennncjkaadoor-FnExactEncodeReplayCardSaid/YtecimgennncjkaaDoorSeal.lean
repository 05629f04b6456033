/-
  Contracts of Checksum, and the law on it. Strings of at most maxLen bytes, as every string is.
-/
import Derived.Test.YtecimgennncjkaaDoorPure
namespace Go.Proofs.YtecimgennncjkaaDoor
open Go.RowKit
set_option linter.all false

set_option maxHeartbeats 400000 in
theorem checksum_impl (s : ByteArray) (w : World) (hs : s.size ≤ 140737488355328) :
    Calls Tryd.prog 110 #[.string s] w fun e w' => e = .returned (.int .i64 (chk s.data.toList)) ∧ w = w' := by
  go_enter Tryd.func110, Tryd.ntmps110
  go_wp2
  go_loop [3, 4, 8] (fun a b i => ∃ k : Nat, k ≤ s.size ∧ i = .int .i64 k ∧ a = .int .i64 (ckA (s.data.toList.take k)) ∧ b = .int .i64 (ckB (s.data.toList.take k))) (fun _ _ i => s.size - (intOf i).toNat)
  case atStart => exact ⟨0, Nat.zero_le _, rfl, rfl, rfl⟩
  case round =>
    obtain ⟨k, hk, rfl, rfl, rfl⟩ := hrel
    by_cases hlt : k < s.size
    · have H1 := Lib.hid (ckA_snoc (s.data.toList.take k) s[k])
      have H2 := Lib.hid (ckB_snoc (s.data.toList.take k) s[k])
      have HT := Lib.hid (take_snoc s k hlt)
      have HL := Lib.hid (length_take_data s k hk)
      have ba := ckA_lt (s.data.toList.take k)
      have bb := ckB_lt (s.data.toList.take k)
      generalize ckA (s.data.toList.take k) = x at *
      generalize ckB (s.data.toList.take k) = y at *
      have hb : (s[k].toNat : Int) ≤ 255 := by have := s[k].toNat_lt; omega
      have hm0 : 0 ≤ (s[k].toNat : Int) * ((k : Int) + 1) := Int.mul_nonneg (by omega) (by omega)
      have hm1 : (s[k].toNat : Int) * ((k : Int) + 1) ≤ 255 * 140737488355328 := Int.le_trans (Int.mul_le_mul_of_nonneg_right hb (by omega)) (by omega)
      go_wp2
      go_round
      case rel => exact ⟨k + 1, by omega, by go_num, by rw [HT.out, H1.out], by rw [HT.out, H2.out, HL.out]⟩
      case measure => simp [intOf]; omega
    · have e : k = s.size := by omega
      subst e
      have ba := ckA_lt (s.data.toList)
      have bb := ckB_lt (s.data.toList)
      rw [take_all] at *
      have H := Lib.hid (chk_cast s.data.toList)
      go_wp2
      go_ret
      exact ⟨ret_int (by rw [H.out]), rfl⟩
set_option maxHeartbeats 400000 in
theorem checksum_spec (s : ByteArray) (w : World) (hs : s.size ≤ 140737488355328) :
    Calls Tryd.prog 103 #[.string s] w fun e w' => e = .returned (.int .i64 (chk s.data.toList)) ∧ w = w' := by
  go_enter Tryd.func103, Tryd.ntmps103
  go_wp2
  go_loop [3, 4, 5] (fun a b i => ∃ k : Nat, k ≤ s.size ∧ i = .int .i64 k ∧ a = .int .i64 (ckA (s.data.toList.take k)) ∧ b = .int .i64 (ckB (s.data.toList.take k))) (fun _ _ i => s.size - (intOf i).toNat)
  case atStart => exact ⟨0, Nat.zero_le _, rfl, rfl, rfl⟩
  case round =>
    obtain ⟨k, hk, rfl, rfl, rfl⟩ := hrel
    by_cases hlt : k < s.size
    · have H1 := Lib.hid (ckA_snoc (s.data.toList.take k) s[k])
      have H2 := Lib.hid (ckB_snoc' (s.data.toList.take k) s[k])
      have HT := Lib.hid (take_snoc s k hlt)
      have HL := Lib.hid (length_take_data s k hk)
      have ba := ckA_lt (s.data.toList.take k)
      have bb := ckB_lt (s.data.toList.take k)
      generalize ckA (s.data.toList.take k) = x at *
      generalize ckB (s.data.toList.take k) = y at *
      have hb : (s[k].toNat : Int) ≤ 255 := by have := s[k].toNat_lt; omega
      have hm0 : 0 ≤ (s[k].toNat : Int) * (((k : Int) + 1) % 65521) := Int.mul_nonneg (by omega) (by omega)
      have hm1 : (s[k].toNat : Int) * (((k : Int) + 1) % 65521) ≤ 255 * 65521 := Int.le_trans (Int.mul_le_mul_of_nonneg_right hb (by omega)) (by omega)
      go_wp2
      go_round
      case rel => exact ⟨k + 1, by omega, by go_num, by rw [HT.out, H1.out], by rw [HT.out, H2.out, HL.out]⟩
      case measure => simp [intOf]; omega
    · have e : k = s.size := by omega
      subst e
      have ba := ckA_lt (s.data.toList)
      have bb := ckB_lt (s.data.toList)
      rw [take_all] at *
      have H := Lib.hid (chk_cast s.data.toList)
      go_wp2
      go_ret
      exact ⟨ret_int (by rw [H.out]), rfl⟩
end Go.Proofs.YtecimgennncjkaaDoor
