/-
  Texts of this proof: LvLaw.
-/
import Derived.Test.YtehjafaobaoleaaDoorM18
namespace Go.Proofs.YtehjafaobaoleaaDoor
open Go.RowKit
set_option linter.all false
end Go.Proofs.YtehjafaobaoleaaDoor
