/-
  Contracts of the functions over plain integers, and their laws' walks. No condition.
-/
import Derived.Test.YtikaiimafliceaaDoorBase
namespace Go.Proofs.YtikaiimafliceaaDoor
open Go.RowKit
set_option linter.all false

end Go.Proofs.YtikaiimafliceaaDoor
