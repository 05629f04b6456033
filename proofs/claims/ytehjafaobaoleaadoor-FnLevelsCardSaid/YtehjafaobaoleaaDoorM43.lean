/-
  Texts of this proof: PlX.
-/
import Derived.Test.YtehjafaobaoleaaDoorM42
namespace Go.Proofs.YtehjafaobaoleaaDoor
open Go.RowKit
set_option linter.all false
theorem play_x {L : Rowz} {n : Nat} {s : Int} {X : Rowi} (h : PlayOk L n s X) : nwX L n s = ⟨L, 0, s, List.replicate n 0, frsS L n⟩ ∧ worldB (nwX L n s) = true := by
 obtain ⟨h1, -, h3, h4, -, -⟩ := h
 have hk : ((n : Nat) : Int) = max 0 (min (n : Int) 5) := by omega
 have e : nwOk L n s = true := by
  unfold nwOk
  rw [h1, (inR_iff _ _ _).2 (by omega : (1 : Int) ≤ (n : Int) ∧ (n : Int) ≤ 4), (inR_iff _ _ _).2 h4]; rfl
 have e2 := nwX_s e hk
 exact ⟨e2, by rw [e2, nw_validS hk]; exact e⟩
end Go.Proofs.YtehjafaobaoleaaDoor
