/-
  The contract of UnpackZeros that the specification writes.
-/
import Derived.Test.YtlagjhgfjaopjaaDoorUnz
import Derived.Test.YtlagjhgfjaopjaaDoorZerosS
namespace Go.Proofs.YtlagjhgfjaopjaaDoor
open Go.RowKit
set_option linter.all false
end Go.Proofs.YtlagjhgfjaopjaaDoor
