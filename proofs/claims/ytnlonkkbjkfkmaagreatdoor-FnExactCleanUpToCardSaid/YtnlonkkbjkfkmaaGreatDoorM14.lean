/-
  Texts of this proof: Fmt, MkT.
-/
import Derived.Test.YtnlonkkbjkfkmaaGreatDoorM13
import Derived.Lib.ItoaLen
import Derived.Deep.RegionHeld3
import Derived.Deep.RegionWith
namespace Go.Proofs.YtnlonkkbjkfkmaaGreatDoor
open Go.RowKit
set_option linter.all false

def ddL (m : Nat) : List UInt8 := if m = 0 then [] else Lib.decDigits m
def FmtAt (n m : Nat) (l : List UInt8) : Prop := ddL m ++ l = Lib.decDigits n
theorem FmtAt.done {n : Nat} {l : List UInt8} (h : FmtAt n 0 l) : l = Lib.decDigits n := by unfold FmtAt ddL at h; simpa using h
theorem FmtAt.len {n m : Nat} {l : List UInt8} (h : FmtAt n m l) (hn : n ≤ 9223372036854775808) : l.length ≤ 20 := by
 have h2 : (Lib.decDigits n).length ≤ 20 := by rw [Lib.decDigits_length]; exact Lib.nDigits_le20 n (by omega)
 unfold FmtAt at h
 rw [← h, List.length_append] at h2
 omega
end Go.Proofs.YtnlonkkbjkfkmaaGreatDoor
namespace Go.Proofs.YtnlonkkbjkfkmaaGreatDoor
open Go.RowKit
set_option linter.all false
end Go.Proofs.YtnlonkkbjkfkmaaGreatDoor
