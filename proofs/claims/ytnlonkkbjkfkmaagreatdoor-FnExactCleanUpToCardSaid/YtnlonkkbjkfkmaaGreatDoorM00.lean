/-
  Texts of this proof: Base.
-/
import Derived.Test.YtnlonkkbjkfkmaaGreatDoorChecked
import Derived.WalkKit
import Derived.Lib.Hide
import Derived.Deep.QuietTactic
import Derived.BigQuiet
import Derived.WalkSmall
import Derived.OpenShut
namespace Go.Proofs.YtnlonkkbjkfkmaaGreatDoor
open Go.RowKit

end Go.Proofs.YtnlonkkbjkfkmaaGreatDoor
