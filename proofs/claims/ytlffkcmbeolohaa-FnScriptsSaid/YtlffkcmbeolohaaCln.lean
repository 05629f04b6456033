/-
  slices.Clone of a row of ints; slices.Grow of nil; slices.Concat of two rows of ints. Conditions: short rows.
-/
import Derived.Test.YtlffkcmbeolohaaTrk
import Derived.Test.YtlffkcmbeolohaaAppI
import Derived.Lib.SliceRun
import Derived.Lib.AppendZeros
import Derived.Test.YtlffkcmbeolohaaRep0
import Derived.Test.YtlffkcmbeolohaaRow
namespace Go.Proofs.Ytlffkcmbeolohaa
open Go.RowKit
set_option linter.all false
theorem OwnR.capd {w : World} {B : Nat} {v : Value} {xs : List Int} (h : OwnR w B v xs) : CapI v := by
  rcases h.2 with ⟨rfl, h0⟩ | ⟨g, cap, cur, rfl, hB, hg, hn, hc, -⟩
  · exact ⟨_, _, _, rfl, Nat.le_refl _⟩
  · exact ⟨_, _, _, rfl, hn⟩
theorem totalR_take (X : Rowi) (k : Nat) : totalR (X.take k) ≤ totalR X := by
  have h : totalR X = totalR (X.take k) + totalR (X.drop k) := by
    unfold totalR
    rw [← List.sum_append, ← List.map_append, List.take_append_drop]
  omega
theorem flat_len (X : Rowi) : X.flatten.length = totalR X := by
  unfold totalR; rw [List.length_flatten]
theorem flat_snoc (X : Rowi) (k : Nat) (hk : k < X.length) : (X.take (k + 1)).flatten = (X.take k).flatten ++ X[k] := by
  rw [List.take_succ_eq_append_getElem hk, List.flatten_append]; simp
end Go.Proofs.Ytlffkcmbeolohaa
