/-
  The law on LevelOk. No condition.
-/
import Derived.Test.YtecimgennncjkaaDoorLvTi
namespace Go.Proofs.YtecimgennncjkaaDoor
open Go.RowKit
set_option linter.all false
theorem Sane.small {ls : List (List UInt8)} {r : Int} (h0 : 0 ≤ r) (h : r = 1048576 - (ls.length : Int) - (totalS ls : Int)) : ls.length ≤ 1048576 ∧ totalS ls ≤ 1048576 := by omega
end Go.Proofs.YtecimgennncjkaaDoor
