/-
  Contracts of DecodeVarint, and the law on it. Strings of at most 2^46 bytes.
-/
import Derived.Test.YtjdiflomgalpdabVarE
import Derived.WalkLawsBesides
import Derived.Deep.RegionWith
namespace Go.Proofs.Ytjdiflomgalpdab
open Go.RowKit
set_option linter.all false

def decR : Nat → Nat → Nat → List UInt8 → Option (Nat × Nat)
  | 0, _, _, _ => none
  | _ + 1, _, _, [] => none
  | f + 1, i, n, b :: l =>
    if 127 < b.toNat then decR f (i + 1) (n + b.toNat % 128 * 128 ^ i) l
    else if 1099511627775 < n + b.toNat % 128 * 128 ^ i ∨ (b.toNat = 0 ∧ 0 < i) then none
    else some (n + b.toNat % 128 * 128 ^ i, i + 1)
/-- What DecodeVarint reads: the number and its length. -/
def decAt (l : List UInt8) (at_ : Int) : Option (Nat × Nat) := if at_ < 0 then none else decR 6 0 0 (l.drop at_.toNat)
def retDec (o : Option (Nat × Nat)) : Value := .tuple #[.int .i64 ((o.getD (0, 0)).1 : Nat), .int .i64 ((o.getD (0, 0)).2 : Nat), .bool o.isSome]

theorem retDec_some (a b : Nat) : retDec (some (a, b)) = .tuple #[.int .i64 (a : Int), .int .i64 (b : Int), .bool true] := rfl
theorem dec_end (f i n : Nat) : decR f i n [] = none := by cases f <;> rfl
theorem dec_six (n : Nat) (l : List UInt8) : decR (6 - 6) 6 n l = none := rfl
theorem dec_more {k n : Nat} {c : UInt8} {r : List UInt8} (hk : k < 6) (hc : 127 < c.toNat) : decR (6 - k) k n (c :: r) = decR (6 - (k + 1)) (k + 1) (n + c.toNat % 128 * 128 ^ k) r := by
  rw [show 6 - k = (6 - (k + 1)) + 1 by omega, decR, if_pos hc]
theorem dec_bad {k n : Nat} {c : UInt8} {r : List UInt8} (hk : k < 6) (hc : ¬ 127 < c.toNat) (h : 1099511627775 < n + c.toNat % 128 * 128 ^ k ∨ (c.toNat = 0 ∧ 0 < k)) : decR (6 - k) k n (c :: r) = none := by
  rw [show 6 - k = (6 - (k + 1)) + 1 by omega, decR, if_neg hc, if_pos h]
theorem dec_ok {k n : Nat} {c : UInt8} {r : List UInt8} (hk : k < 6) (hc : ¬ 127 < c.toNat) (h : ¬ (1099511627775 < n + c.toNat % 128 * 128 ^ k ∨ (c.toNat = 0 ∧ 0 < k))) : decR (6 - k) k n (c :: r) = some (n + c.toNat % 128 * 128 ^ k, k + 1) := by
  rw [show 6 - k = (6 - (k + 1)) + 1 by omega, decR, if_neg hc, if_neg h]
theorem pow_128 (k : Nat) : (128 : Nat) ^ k = 2 ^ (7 * k) := by rw [Nat.pow_mul]
theorem dec_cast (n c k : Nat) : (((n + c % 128 * 128 ^ k : Nat)) : Int) = (n : Int) + (c : Int) % 128 * 2 ^ (7 * k) := by
  rw [pow_128]; simp
theorem pow_le6 {k : Nat} (hk : k < 6) : (2 : Nat) ^ (7 * k) ≤ 34359738368 := by
  have : (2 : Nat) ^ (7 * k) ≤ 2 ^ 35 := Nat.pow_le_pow_right (by decide) (by omega)
  exact this
theorem dec_bound {n k : Nat} (c : Nat) (hn : n < 128 ^ k) : n + c % 128 * 128 ^ k < 128 ^ (k + 1) := by
  rw [Nat.pow_succ]
  have : c % 128 * 128 ^ k ≤ 127 * 128 ^ k := Nat.mul_le_mul_right _ (by omega)
  omega
theorem dec_term {k : Nat} (c : Nat) (hk : k < 6) : 0 ≤ (c : Int) % 128 * 2 ^ (7 * k) ∧ (c : Int) % 128 * 2 ^ (7 * k) ≤ 4398046511104 := by
  have h : ((c % 128 * 2 ^ (7 * k) : Nat) : Int) = (c : Int) % 128 * 2 ^ (7 * k) := by simp
  rw [← h]
  have : c % 128 * 2 ^ (7 * k) ≤ 127 * 34359738368 := Nat.mul_le_mul (by omega) (pow_le6 hk)
  omega
theorem byte_at {l : List UInt8} {i : Nat} (h : i < (ByteArray.mk l.toArray).size) : (ByteArray.mk l.toArray)[i] = l[i]'h := rfl
theorem drop_at {l : List UInt8} {i : Nat} (h : i < l.length) : l.drop i = l[i] :: l.drop (i + 1) := List.drop_eq_getElem_cons h

end Go.Proofs.Ytjdiflomgalpdab
