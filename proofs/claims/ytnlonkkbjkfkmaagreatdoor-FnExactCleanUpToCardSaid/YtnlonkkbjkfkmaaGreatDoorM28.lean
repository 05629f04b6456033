/-
  Texts of this proof: MarkL.
-/
import Derived.Test.YtnlonkkbjkfkmaaGreatDoorM16
namespace Go.Proofs.YtnlonkkbjkfkmaaGreatDoor
open Go.RowKit
set_option linter.all false
def LowS (T : Nat) (v : Value) (xs : List (List UInt8)) : Prop := xs = [] ∨ ∃ b n cap, v = .slice (some ⟨b, 0, none⟩) n cap ∧ b < T
theorem WrS.low {w : World} {B : Nat} {v : Value} {xs : List (List UInt8)} (h : WrS w B v xs) : LowS w.heap.size v xs := by
 obtain ⟨a, cap, rfl, h⟩ := h
 by_cases hx : xs = []
 ·exact .inl hx
 ·obtain ⟨b, hB, rfl, hr⟩ := h.resolve_left hx
  exact .inr ⟨b, _, _, rfl, hr.lt hx⟩
end Go.Proofs.YtnlonkkbjkfkmaaGreatDoor
