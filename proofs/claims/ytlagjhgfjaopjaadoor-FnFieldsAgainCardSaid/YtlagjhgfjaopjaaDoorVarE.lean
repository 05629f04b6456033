/-
  Contracts of EncodeVarint, and the law on it. No condition.
-/
import Derived.Test.YtlagjhgfjaopjaaDoorOwn
import Derived.Test.YtlagjhgfjaopjaaDoorInts
namespace Go.Proofs.YtlagjhgfjaopjaaDoor
open Go.RowKit
set_option linter.all false

/-- Seven bits a byte, the lowest ones first. -/
def encV (n : Nat) : List UInt8 := if n < 128 then [UInt8.ofNat n] else UInt8.ofNat (n % 128 + 128) :: encV (n / 128)
termination_by n
decreasing_by omega
theorem encV_lo {n : Nat} (h : n < 128) : encV n = [UInt8.ofNat n] := by rw [encV, if_pos h]
theorem encV_hi {n : Nat} (h : ¬ n < 128) : encV n = UInt8.ofNat (n % 128 + 128) :: encV (n / 128) := by rw [encV, if_neg h]
theorem encV_len : ∀ (k n : Nat), n < 128 ^ (k + 1) → (encV n).length ≤ k + 1
  | 0, n, h => by rw [encV_lo (by simpa using h)]; simp
  | k + 1, n, h => by
    by_cases h1 : n < 128
    · rw [encV_lo h1]; simp
    · rw [encV_hi h1]
      have := encV_len k (n / 128) (Nat.div_lt_of_lt_mul (by rw [Nat.pow_succ] at h; omega))
      simp; omega
theorem encV_len6 {n : Nat} (h : n ≤ 1099511627775) : (encV n).length ≤ 6 := encV_len 5 n (by omega)
theorem encV_pos (n : Nat) : 0 < (encV n).length := by
  by_cases h : n < 128
  · rw [encV_lo h]; simp
  · rw [encV_hi h]; simp
/-- What EncodeVarint returns. -/
def encI (n : Int) : List UInt8 := if n < 0 ∨ 1099511627775 < n then [] else encV n.toNat
theorem hi_byte (n : Nat) : ((UInt8.ofNat (n % 128 + 128)).toNat : Int) = (n : Int) % 128 + 128 := by
  simp; omega
theorem lo_byte {n : Nat} (h : n < 128) : ((UInt8.ofNat n).toNat : Int) = (n : Int) := by
  simp; omega
theorem encV_step {pre : List UInt8} {m n : Nat} (h : pre ++ encV m = encV n) (hm : ¬ m < 128) : (pre ++ [UInt8.ofNat (m % 128 + 128)]) ++ encV (m / 128) = encV n := by
  rw [← h, encV_hi hm]; simp

end Go.Proofs.YtlagjhgfjaopjaaDoor
