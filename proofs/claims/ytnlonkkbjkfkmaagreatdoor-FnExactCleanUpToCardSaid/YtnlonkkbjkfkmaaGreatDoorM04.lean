/-
  Texts of this proof: OpenB.
-/
import Derived.Test.YtnlonkkbjkfkmaaGreatDoorM03
import Derived.Lib.SmallJoins
namespace Go.Proofs.YtnlonkkbjkfkmaaGreatDoor
open Go.RowKit Go.Joins Go.ChangeShapes Go.WideShapes Go.Deep
set_option linter.all false
section
variable {H : Type} {enc : TypeId × Value → H} {P : Program} {w : World} {base : Nat} {spare : Nat → Bool} {held : Bool}
end
def Bd.fits (b : Bd) : Prop := (Lit.int .i64 b.kind).wf = true ∧ (Lit.int .i64 b.owner).wf = true ∧ (Lit.int .i64 b.x).wf = true ∧ (Lit.int .i64 b.y).wf = true ∧ (Lit.int .i64 b.vx).wf = true ∧ (Lit.int .i64 b.vy).wf = true ∧ (Lit.int .i64 b.aim).wf = true ∧ (Lit.int .i64 b.life).wf = true ∧ (Lit.int .i64 b.timer).wf = true
end Go.Proofs.YtnlonkkbjkfkmaaGreatDoor
