/-
  Texts of this proof: Hex.
-/
import Derived.Test.YtnlonkkbjkfkmaaGreatDoorM11
import Derived.Deep.RegionLaw
import Derived.Deep.RegionWith
namespace Go.Proofs.YtnlonkkbjkfkmaaGreatDoor
open Go.RowKit
set_option linter.all false

end Go.Proofs.YtnlonkkbjkfkmaaGreatDoor
