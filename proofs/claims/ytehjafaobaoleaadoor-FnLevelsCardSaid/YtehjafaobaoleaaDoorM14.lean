/-
  Texts of this proof: Hex, Fmt, MkT.
-/
import Derived.Test.YtehjafaobaoleaaDoorM13
import Derived.Deep.RegionLaw
import Derived.Deep.RegionWith
import Derived.Lib.ItoaLen
import Derived.Deep.RegionHeld3
namespace Go.Proofs.YtehjafaobaoleaaDoor
open Go.RowKit
set_option linter.all false

def hexD (x : Nat) : UInt8 := if x < 10 then UInt8.ofNat (48 + x) else UInt8.ofNat (87 + x)
end Go.Proofs.YtehjafaobaoleaaDoor
namespace Go.Proofs.YtehjafaobaoleaaDoor
open Go.RowKit
set_option linter.all false

def ddL (m : Nat) : List UInt8 := if m = 0 then [] else Lib.decDigits m
def FmtAt (n m : Nat) (l : List UInt8) : Prop := ddL m ++ l = Lib.decDigits n
theorem FmtAt.start {n : Nat} (h : 0 < n) : FmtAt n n [] := by unfold FmtAt ddL; rw [if_neg (by omega)]; simp
theorem FmtAt.done {n : Nat} {l : List UInt8} (h : FmtAt n 0 l) : l = Lib.decDigits n := by unfold FmtAt ddL at h; simpa using h
theorem FmtAt.next {n m : Nat} {l : List UInt8} (h : FmtAt n m l) (hm : 0 < m) : FmtAt n (m / 10) (hexD (m % 10) :: l) := by
 have hd : hexD (m % 10) = UInt8.ofNat (48 + m % 10) := by unfold hexD; rw [if_pos (by omega)]
 unfold FmtAt ddL at h ⊢
 rw [if_neg (by omega)] at h
 rw [← h, hd]
 by_cases h10 : m < 10
 ·rw [if_pos (by omega), Lib.decDigits_one h10, Nat.mod_eq_of_lt h10]; rfl
 ·rw [if_neg (by omega)]
  conv => rhs; rw [Lib.decDigits, dif_neg h10]
  simp
theorem FmtAt.len {n m : Nat} {l : List UInt8} (h : FmtAt n m l) (hn : n ≤ 9223372036854775808) : l.length ≤ 20 := by
 have h2 : (Lib.decDigits n).length ≤ 20 := by rw [Lib.decDigits_length]; exact Lib.nDigits_le20 n (by omega)
 unfold FmtAt at h
 rw [← h, List.length_append] at h2
 omega
end Go.Proofs.YtehjafaobaoleaaDoor
namespace Go.Proofs.YtehjafaobaoleaaDoor
open Go.RowKit
set_option linter.all false
end Go.Proofs.YtehjafaobaoleaaDoor
