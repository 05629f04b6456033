/-
  Texts of this proof: TrP.
-/
import Derived.Test.YtnlonkkbjkfkmaaGreatDoorM24
namespace Go.Proofs.YtnlonkkbjkfkmaaGreatDoor
open Go.RowKit
set_option linter.all false
end Go.Proofs.YtnlonkkbjkfkmaaGreatDoor
