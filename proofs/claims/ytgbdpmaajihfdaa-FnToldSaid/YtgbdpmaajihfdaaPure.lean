/-
  Plain mathematics of bytes: the sums of a seal, prefixes. No condition. No program in sight.
-/
import Derived.Test.YtgbdpmaajihfdaaBase
namespace Go.Proofs.Ytgbdpmaajihfdaa
open Go.RowKit
set_option linter.all false

def sumA : List UInt8 → Nat
  | [] => 0
  | c :: l => c.toNat + sumA l
/-- 'sumB i l': the first byte counts i + 1 times, the next one i + 2 times, and so on. -/
def sumB : Nat → List UInt8 → Nat
  | _, [] => 0
  | i, c :: l => c.toNat * (i + 1) + sumB (i + 1) l
theorem sumA_snoc (l : List UInt8) (c : UInt8) : sumA (l ++ [c]) = sumA l + c.toNat := by
  induction l with
  | nil => simp [sumA]
  | cons d l ih => simp only [List.cons_append, sumA, ih]; omega
theorem sumB_snoc (l : List UInt8) (c : UInt8) : ∀ i, sumB i (l ++ [c]) = sumB i l + c.toNat * (i + l.length + 1) := by
  induction l with
  | nil => intro i; simp [sumB]
  | cons d l ih => intro i; simp only [List.cons_append, sumB, ih, List.length_cons]; rw [show i + 1 + l.length + 1 = i + (l.length + 1) + 1 by omega]; omega
def ckA (l : List UInt8) : Nat := sumA l % 65521
def ckB (l : List UInt8) : Nat := sumB 0 l % 65521
def chk (l : List UInt8) : Nat := ckA l + 65536 * ckB l
theorem ckA_lt (l : List UInt8) : ckA l < 65521 := Nat.mod_lt _ (by decide)
theorem ckB_lt (l : List UInt8) : ckB l < 65521 := Nat.mod_lt _ (by decide)
theorem ckA_snoc (l : List UInt8) (c : UInt8) : ((ckA (l ++ [c]) : Nat) : Int) = ((ckA l : Int) + (c.toNat : Int)) % 65521 := by
  unfold ckA; rw [sumA_snoc]; omega
theorem ckB_snoc (l : List UInt8) (c : UInt8) : ((ckB (l ++ [c]) : Nat) : Int) = ((ckB l : Int) + (c.toNat : Int) * ((l.length : Int) + 1)) % 65521 := by
  unfold ckB; rw [sumB_snoc, show (0 + l.length + 1) = l.length + 1 by omega]
  generalize hx : c.toNat * (l.length + 1) = x
  have : (c.toNat : Int) * ((l.length : Int) + 1) = (x : Int) := by rw [← hx]; simp
  rw [this]; omega
theorem ckB_snoc' (l : List UInt8) (c : UInt8) : ((ckB (l ++ [c]) : Nat) : Int) = ((ckB l : Int) + (c.toNat : Int) * (((l.length : Int) + 1) % 65521)) % 65521 := by
  rw [ckB_snoc, Int.add_emod, Int.mul_emod, Int.add_emod (ckB l : Int) ((c.toNat : Int) * (((l.length : Int) + 1) % 65521)) 65521, Int.mul_emod (c.toNat : Int) (((l.length : Int) + 1) % 65521) 65521, Int.emod_emod]
theorem chk_cast (l : List UInt8) : ((chk l : Nat) : Int) = (ckA l : Int) + 65536 * (ckB l : Int) := by unfold chk; omega
theorem take_snoc (s : ByteArray) (k : Nat) (h : k < s.size) : s.data.toList.take (k + 1) = s.data.toList.take k ++ [s[k]] := by
  rw [List.take_succ_eq_append_getElem (by simpa using h)]; rfl
theorem length_data (s : ByteArray) : s.data.toList.length = s.size := by rw [Array.length_toList]; rfl
theorem take_all (s : ByteArray) : s.data.toList.take s.size = s.data.toList := List.take_of_length_le (by rw [length_data]; exact Nat.le_refl _)
theorem length_take_data (s : ByteArray) (k : Nat) (h : k ≤ s.size) : (s.data.toList.take k).length = k := by rw [List.length_take, length_data]; omega
end Go.Proofs.Ytgbdpmaajihfdaa
