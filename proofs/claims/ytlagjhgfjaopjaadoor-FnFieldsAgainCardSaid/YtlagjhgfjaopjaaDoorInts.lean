/-
  Contracts of the functions over plain integers, and their laws' walks. No condition.
-/
import Derived.Test.YtlagjhgfjaopjaaDoorBase
namespace Go.Proofs.YtlagjhgfjaopjaaDoor
open Go.RowKit
set_option linter.all false

end Go.Proofs.YtlagjhgfjaopjaaDoor
