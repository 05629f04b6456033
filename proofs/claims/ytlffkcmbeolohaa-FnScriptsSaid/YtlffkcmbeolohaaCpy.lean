/-
  Copies of a track: the program's and the model's. Lists of at most 2^40 numbers.
-/
import Derived.Test.YtlffkcmbeolohaaCln
import Derived.Test.YtlffkcmbeolohaaTrk
namespace Go.Proofs.Ytlffkcmbeolohaa
open Go.RowKit
set_option linter.all false
theorem OwnR.far {w : World} {B : Nat} {v : Value} {xs : List Int} (h : OwnR w B v xs) {p : Addr} (hp : p.block < B) (u : Value) : OwnR (w.setCell p u) B v xs := ownsRow_setCell_below h hp u
theorem OwnR.low {w : World} {B C : Nat} {v : Value} {xs : List Int} (h : OwnR w B v xs) (hC : C ≤ B) : OwnR w C v xs := by
  refine ⟨h.1, ?_⟩
  rcases h.2 with h | ⟨g, cap, cur, hv, hB, rest⟩
  · exact .inl h
  · exact .inr ⟨g, cap, cur, hv, Nat.le_trans hC hB, rest⟩
def RetTrK (w : World) (xs : List Int) (e : Ending) (w' : World) : Prop := ∃ v, e = .returned (.agg #[v]) ∧ OwnI w' w.heap.size v xs ∧ CapI v ∧ Below w.heap.size w w'
end Go.Proofs.Ytlffkcmbeolohaa
