/-
  markStringS again, with what it leaves alone; markLevel, heldLevel. Lists of at most 2^40 strings.
-/
import Derived.Test.YtiidocjpeepheaaGreatDoorLevel
namespace Go.Proofs.YtiidocjpeepheaaGreatDoor
open Go.RowKit
set_option linter.all false
/-- The row lies in a block below T. -/
def LowS (T : Nat) (v : Value) (xs : List (List UInt8)) : Prop := xs = [] ∨ ∃ b n cap, v = .slice (some ⟨b, 0, none⟩) n cap ∧ b < T
theorem WrS.low {w : World} {B : Nat} {v : Value} {xs : List (List UInt8)} (h : WrS w B v xs) : LowS w.heap.size v xs := by
  obtain ⟨a, cap, rfl, h⟩ := h
  by_cases hx : xs = []
  · exact .inl hx
  · obtain ⟨b, hB, rfl, hr⟩ := h.resolve_left hx
    exact .inr ⟨b, _, _, rfl, hr.lt hx⟩
def RetMarkT (w : World) (B T : Nat) (v : Value) (n k : Nat) (e : Ending) (w' : World) : Prop := e = .returned (.int .i64 ((k + n : Nat) : Int)) ∧ WrS w' B v (marksT k n) ∧ Below B w w' ∧ ∀ j, T ≤ j → j < w.heap.size → w'.heap[j]? = w.heap[j]?
end Go.Proofs.YtiidocjpeepheaaGreatDoor
