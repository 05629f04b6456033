/-
  SameTrack, and the laws on TrackOk, Predict, SameTrack. No condition.
-/
import Derived.Test.YtlffkcmbeolohaaTrP
import Derived.BigQuiet
namespace Go.Proofs.Ytlffkcmbeolohaa
open Go.RowKit
set_option linter.all false
def sameB (xs ys : List Int) : Bool := decide (xs = ys)
theorem same_len {xs ys : List Int} (h : ¬ xs.length = ys.length) : sameB xs ys = false := by unfold sameB; rw [decide_eq_false_iff_not]; intro e; exact h (by rw [e])
theorem same_bad {xs ys : List Int} {k : Nat} (h1 : k < xs.length) (h2 : k < ys.length) (h : ¬ xs[k] = ys[k]) : sameB xs ys = false := by unfold sameB; rw [decide_eq_false_iff_not]; intro e; subst e; exact h rfl
theorem same_ok {xs ys : List Int} (hl : xs.length = ys.length) (h : ∀ k (h1 : k < xs.length) (h2 : k < ys.length), xs[k] = ys[k]) : sameB xs ys = true := by unfold sameB; rw [decide_eq_true_eq]; exact List.ext_getElem hl h
end Go.Proofs.Ytlffkcmbeolohaa
