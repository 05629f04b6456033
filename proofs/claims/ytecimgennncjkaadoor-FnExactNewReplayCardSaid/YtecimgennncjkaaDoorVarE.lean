/-
  Contracts of EncodeVarint, and the law on it. No condition.
-/
import Derived.Test.YtecimgennncjkaaDoorOwn
import Derived.Test.YtecimgennncjkaaDoorInts
namespace Go.Proofs.YtecimgennncjkaaDoor
open Go.RowKit
set_option linter.all false

/-- Seven bits a byte, the lowest ones first. -/
def encV (n : Nat) : List UInt8 := if n < 128 then [UInt8.ofNat n] else UInt8.ofNat (n % 128 + 128) :: encV (n / 128)
termination_by n
decreasing_by omega
theorem encV_lo {n : Nat} (h : n < 128) : encV n = [UInt8.ofNat n] := by rw [encV, if_pos h]
theorem encV_hi {n : Nat} (h : ¬ n < 128) : encV n = UInt8.ofNat (n % 128 + 128) :: encV (n / 128) := by rw [encV, if_neg h]
theorem encV_len : ∀ (k n : Nat), n < 128 ^ (k + 1) → (encV n).length ≤ k + 1
  | 0, n, h => by rw [encV_lo (by simpa using h)]; simp
  | k + 1, n, h => by
    by_cases h1 : n < 128
    · rw [encV_lo h1]; simp
    · rw [encV_hi h1]
      have := encV_len k (n / 128) (Nat.div_lt_of_lt_mul (by rw [Nat.pow_succ] at h; omega))
      simp; omega
theorem encV_len6 {n : Nat} (h : n ≤ 1099511627775) : (encV n).length ≤ 6 := encV_len 5 n (by omega)
theorem encV_pos (n : Nat) : 0 < (encV n).length := by
  by_cases h : n < 128
  · rw [encV_lo h]; simp
  · rw [encV_hi h]; simp
/-- What EncodeVarint returns. -/
def encI (n : Int) : List UInt8 := if n < 0 ∨ 1099511627775 < n then [] else encV n.toNat
theorem hi_byte (n : Nat) : ((UInt8.ofNat (n % 128 + 128)).toNat : Int) = (n : Int) % 128 + 128 := by
  simp; omega
theorem lo_byte {n : Nat} (h : n < 128) : ((UInt8.ofNat n).toNat : Int) = (n : Int) := by
  simp; omega
theorem encV_step {pre : List UInt8} {m n : Nat} (h : pre ++ encV m = encV n) (hm : ¬ m < 128) : (pre ++ [UInt8.ofNat (m % 128 + 128)]) ++ encV (m / 128) = encV n := by
  rw [← h, encV_hi hm]; simp

set_option maxHeartbeats 400000 in
theorem encodeVarint_impl (n : Int) (w : World) :
    Calls Tryd.prog 78 #[.int .i64 n] w fun e w' => e = .returned (.string ⟨(encI n).toArray⟩) ∧ Below w.heap.size w w' := by
  by_cases h1 : n < 0
  · have g1 : decide (n < 0) = true := by simpa using h1
    have hf := Lib.hid (show encI n = [] by unfold encI; rw [if_pos (by omega)])
    go_enter Tryd.func78, Tryd.ntmps78
    go_wp2
    go_ret
    exact ⟨by rw [hf.out]; rfl, Below.refl _ _⟩
  · have g1 : decide (n < 0) = false := by simpa using h1
    by_cases h2 : 1099511627775 < n
    · have g2 : decide (1099511627775 < n) = true := by simpa using h2
      have hf := Lib.hid (show encI n = [] by unfold encI; rw [if_pos (by omega)])
      go_enter Tryd.func78, Tryd.ntmps78
      go_wp2
      go_ret
      exact ⟨by rw [hf.out]; rfl, Below.refl _ _⟩
    · have g2 : decide (1099511627775 < n) = false := by simpa using h2
      have hf := Lib.hid (show encI n = encV n.toNat by unfold encI; rw [if_neg (by omega)])
      have hmk : ∀ w, (Instr.makeSlice 22 (.int .i64 0) (.int .i64 6)).run Tryd.prog w = .ok (.slice (some ⟨w.heap.size, 0, none⟩) 0 6) (w.alloc (.cells #[.int .u8 0, .int .u8 0, .int .u8 0, .int .u8 0, .int .u8 0, .int .u8 0] 5)) := fun _ => by kernel_rfl
      go_enter Tryd.func78, Tryd.ntmps78
      go_wp2
      go_loopw [0, 3] (fun x v wr => ∃ (m : Nat) (pre : List UInt8), x = .int .i64 m ∧ m ≤ 1099511627775 ∧ pre ++ encV m = encV n.toNat ∧ OwnB wr w.heap.size v pre ∧ Below w.heap.size w wr) (fun x _ _ => (intOf x).toNat)
      case atStart =>
        exact ⟨n.toNat, [], by rw [Int.toNat_of_nonneg (by omega)], by omega, rfl, OwnB.made w _ _ (Nat.le_refl _) (by decide), (Below.refl _ _).alloc (Nat.le_refl _) _⟩
      case round =>
        obtain ⟨m, pre, rfl, hm, hpre, hown, hbel⟩ := hrel
        have hl6 : pre.length + 1 ≤ 6 := by
          have a := congrArg List.length hpre
          have b := encV_len6 (n := n.toNat) (by omega)
          have c := encV_pos m
          simp at a; omega
        have HP := Lib.hid hpre; clear hpre
        have HB := hbel.size
        by_cases hlt : 127 < m
        · go_wp2_with (first
            | (at_builtin; refine app_byte rfl _ _ rfl w.heap.size _ pre rfl hown _ rfl (UInt8.ofNat (m % 128 + 128)) (hi_byte m).symm (by omega) HB ?_; intro v' w1 hown' hb'))
          go_roundw
          case rel => exact ⟨m / 128, _, by go_num, by omega, encV_step HP.out (by omega), hown', hbel.trans hb'⟩
          case measure => simp [intOf]; omega
        · go_wp2_with (first
            | (at_builtin; refine app_byte rfl _ _ rfl w.heap.size _ pre rfl hown _ rfl (UInt8.ofNat m) (lo_byte (by omega)).symm (by omega) HB ?_; intro v' w1 hown' hb'; have hcv := run_str_own (P := Tryd.prog) Tryd.underlying22 Tryd.underlying5 Tryd.underlying9 hown'))
          go_ret
          exact ⟨by rw [hf.out, ← HP.out, encV_lo (by omega)]; rfl, hbel.trans hb'⟩
theorem and_or_128 (m : Nat) (h : m ≤ 1099511627775) : bits .or .i64 (bits .and .i64 (m : Int) 127) 128 = (m : Int) % 128 + 128 := by
  rw [i64_and127]
  have := i64_or_nat (m % 128) 128 (by omega) (by omega)
  rw [show (((m % 128 : Nat) : Int)) = (m : Int) % 128 by omega, show ((128 : Nat) : Int) = 128 from rfl] at this
  rw [this, Nat.or_comm, nat_join 7 128 (m % 128) (by decide) (by omega)]; omega
set_option maxHeartbeats 400000 in
theorem encodeVarint_spec (n : Int) (w : World) :
    Calls Tryd.prog 100 #[.int .i64 n] w fun e w' => e = .returned (.string ⟨(encI n).toArray⟩) ∧ Below w.heap.size w w' := by
  by_cases h1 : n < 0 ∨ 1099511627775 < n
  · have g1 := inB_false h1
    have hf := Lib.hid (show encI n = [] by unfold encI; rw [if_pos (by omega)])
    clear h1
    go_enter Tryd.func100, Tryd.ntmps100
    go_wp2_with (go_at_call 46; refine (l01In_any _ _ _ _).mono ?_; rintro e w' ⟨rfl, rfl⟩)
    go_ret
    exact ⟨by rw [hf.out]; rfl, Below.refl _ _⟩
  · have g1 : inB n 0 1099511627775 = true := inB_true (by omega) (by omega)
    have hf := Lib.hid (show encI n = encV n.toNat by unfold encI; rw [if_neg (by omega)])
    have h1a : 0 ≤ n := by omega
    have h1b : n ≤ 1099511627775 := by omega
    clear h1
    go_enter Tryd.func100, Tryd.ntmps100
    go_wp2_with (go_at_call 46; refine (l01In_any _ _ _ _).mono ?_; rintro e w' ⟨rfl, rfl⟩)
    go_loopw [0, 3] (fun x v wr => ∃ (m : Nat) (pre : List UInt8), x = .int .i64 m ∧ m ≤ 1099511627775 ∧ pre ++ encV m = encV n.toNat ∧ OwnB wr w.heap.size v pre ∧ Below w.heap.size w wr) (fun x _ _ => (intOf x).toNat)
    case atStart =>
      exact ⟨n.toNat, [], by rw [Int.toNat_of_nonneg (by omega)], by omega, rfl, OwnB.made w _ _ (Nat.le_refl _) (by decide), (Below.refl _ _).alloc (Nat.le_refl _) _⟩
    case round =>
      obtain ⟨m, pre, rfl, hm, hpre, hown, hbel⟩ := hrel
      have hl6 : pre.length + 1 ≤ 6 := by
        have a := congrArg List.length hpre
        have b := encV_len6 (n := n.toNat) (by omega)
        have c := encV_pos m
        simp at a; omega
      have HP := Lib.hid hpre; clear hpre
      have HB := hbel.size
      have hbo := and_or_128 m hm
      by_cases hlt : 127 < m
      · go_wp2_with (first
          | (at_builtin; refine app_byte rfl _ _ rfl w.heap.size _ pre rfl hown _ rfl (UInt8.ofNat (m % 128 + 128)) (hi_byte m).symm (by omega) HB ?_; intro v' w1 hown' hb'))
        go_roundw
        case rel => exact ⟨m / 128, _, by go_num, by omega, encV_step HP.out (by omega), hown', hbel.trans hb'⟩
        case measure => simp [intOf]; omega
      · go_wp2_with (first
          | (at_builtin; refine app_byte rfl _ _ rfl w.heap.size _ pre rfl hown _ rfl (UInt8.ofNat m) (lo_byte (by omega)).symm (by omega) HB ?_; intro v' w1 hown' hb'; have hcv := run_str_own (P := Tryd.prog) Tryd.underlying22 Tryd.underlying5 Tryd.underlying9 hown'))
        go_ret
        exact ⟨by rw [hf.out, ← HP.out, encV_lo (by omega)]; rfl, hbel.trans hb'⟩
end Go.Proofs.YtecimgennncjkaaDoor
