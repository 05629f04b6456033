/-
  Texts of this proof: MoveI.
-/
import Derived.Test.YtnlonkkbjkfkmaaGreatDoorM21
import Derived.Deep.Cut
namespace Go.Proofs.YtnlonkkbjkfkmaaGreatDoor
open Go.RowKit
set_option linter.all false
end Go.Proofs.YtnlonkkbjkfkmaaGreatDoor
