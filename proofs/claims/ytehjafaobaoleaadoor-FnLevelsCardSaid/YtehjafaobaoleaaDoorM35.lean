/-
  Texts of this proof: BodyI.
-/
import Derived.Test.YtehjafaobaoleaaDoorM22
import Derived.Test.YtehjafaobaoleaaDoorM34
namespace Go.Proofs.YtehjafaobaoleaaDoor
open Go.RowKit
set_option linter.all false
end Go.Proofs.YtehjafaobaoleaaDoor
