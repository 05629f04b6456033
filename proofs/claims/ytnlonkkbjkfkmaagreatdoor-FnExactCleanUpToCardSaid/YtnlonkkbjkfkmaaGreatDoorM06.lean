/-
  Texts of this proof: Pure.
-/
import Derived.Test.YtnlonkkbjkfkmaaGreatDoorM00
namespace Go.Proofs.YtnlonkkbjkfkmaaGreatDoor
open Go.RowKit
set_option linter.all false

end Go.Proofs.YtnlonkkbjkfkmaaGreatDoor
