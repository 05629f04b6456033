/-
  The laws' marks on strings: markText.
-/
import Derived.Test.YtiidocjpeepheaaGreatDoorFmt
import Derived.Deep.RegionHeld3
import Derived.Deep.RegionWith
namespace Go.Proofs.YtiidocjpeepheaaGreatDoor
open Go.RowKit
set_option linter.all false
/-- The mark of a number. -/
def mkT (k : Nat) : List UInt8 := 109 :: Lib.decDigits k
def marksT (k : Nat) : Nat → List (List UInt8)
  | 0 => []
  | n + 1 => mkT k :: marksT (k + 1) n
theorem marksT_len (n : Nat) : ∀ k, (marksT k n).length = n := by
  induction n with
  | zero => intro k; rfl
  | succ n ih => intro k; simp [marksT, ih]
theorem marksT_at (n : Nat) : ∀ k j (h : j < (marksT k n).length), (marksT k n)[j] = mkT (k + j) := by
  induction n with
  | zero => intro k j h; simp [marksT] at h
  | succ n ih =>
    intro k j h
    match j with
    | 0 => simp [marksT]
    | j + 1 =>
      simp only [marksT, List.getElem_cons_succ]
      rw [ih]; congr 1; omega
theorem mkT_len (K : Nat) (h : K ≤ 9223372036854775807) : (mkT K).length ≤ 21 := by
  unfold mkT; rw [List.length_cons, Lib.decDigits_length]; have := Lib.nDigits_le20 K (by omega); omega
end Go.Proofs.YtiidocjpeepheaaGreatDoor
