/-
  Contracts of the functions over plain integers, and their laws' walks. No condition.
-/
import Derived.Test.YtikaiimafliceaaBase
namespace Go.Proofs.Ytikaiimafliceaa
open Go.RowKit
set_option linter.all false

end Go.Proofs.Ytikaiimafliceaa
