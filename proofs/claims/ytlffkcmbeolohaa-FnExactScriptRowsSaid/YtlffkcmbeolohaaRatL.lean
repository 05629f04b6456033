/-
  The law on RowAt. Ticks are numbers of 64 bits.
-/
import Derived.Test.YtlffkcmbeolohaaRat
import Derived.Test.YtlffkcmbeolohaaMrk
namespace Go.Proofs.Ytlffkcmbeolohaa
open Go.RowKit
set_option linter.all false
theorem SzR.few {X : Rowi} {r : Int} (h0 : 0 ≤ r) (h : r = 1048576 - (X.length : Int) - (totalR X : Int)) : Few X ∧ totalR X ≤ 1048576 := ⟨⟨by omega, fun x hx => by have := totalR_mem hx; omega⟩, by omega⟩
theorem ratL_len {X : Rowi} (t : Int) (hf : Few X) : (ratL X t).length ≤ 1048576 := by
  have := hf.1
  unfold ratL; split
  · rw [rowL_len]; exact this
  · simp
end Go.Proofs.Ytlffkcmbeolohaa
