/-
  SolidAt whole: the contracts of the model and of the program. No condition but that the numbers are ints.
-/
import Derived.Test.YtiidocjpeepheaaGreatDoorSolid
namespace Go.Proofs.YtiidocjpeepheaaGreatDoor
open Go.RowKit
set_option linter.all false
theorem solidB_level {L : Rowz} {x y s : Int} (h : levelB L = false) : solidB L x y s = true := by unfold solidB; rw [h]; rfl
theorem solidB_size {L : Rowz} {x y s : Int} (h : inR s 1 16 = false) : solidB L x y s = true := by unfold solidB; rw [h]; simp
theorem solidB_in {L : Rowz} {x y s : Int} (h : levelB L = true) (h2 : inR s 1 16 = true) : solidB L x y s = blockB L x y s := by unfold solidB; rw [h, h2]; rfl
def I64 (x : Int) : Prop := -9223372036854775808 ≤ x ∧ x ≤ 9223372036854775807
theorem I64.of {x : Int} (h : (Lit.int .i64 x).wf = true) : I64 x := by
  simp only [Lit.wf, Bool.and_eq_true, decide_eq_true_eq] at h
  exact ⟨h.1, h.2⟩
end Go.Proofs.YtiidocjpeepheaaGreatDoor
