/-
  Contracts of the functions over plain integers, and their laws' walks. No condition.
-/
import Derived.Test.YtbjbamcpfjlllabBase
namespace Go.Proofs.Ytbjbamcpfjlllab
open Go.RowKit
set_option linter.all false

end Go.Proofs.Ytbjbamcpfjlllab
