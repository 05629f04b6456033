/-
  Contracts of the functions over plain integers, and their laws' walks. No condition.
-/
import Derived.Test.YtgbdpmaajihfdaaBase
namespace Go.Proofs.Ytgbdpmaajihfdaa
open Go.RowKit
set_option linter.all false

def signlessI (n : Int) : Int := if n < -549755813888 ∨ 549755813887 < n then -1 else if n < 0 then -2 * n - 1 else 2 * n
def signedI (n : Int) : Int := if n < 0 ∨ 1099511627775 < n then 0 else if n % 2 = 1 then -((n + 1) / 2) else n / 2
def nextR (n : Int) : Int := if n < 0 ∨ 65535 < n then 0 else (n * 25173 + 13849) % 65536
def belowR (s n : Int) : Int × Int := if s < 0 ∨ 65535 < s ∨ n < 1 ∨ 4096 < n then (0, 0) else (nextR s, nextR s / 16 % n)
theorem nextR_bd (s : Int) : 0 ≤ nextR s ∧ nextR s ≤ 65535 := by unfold nextR; split <;> omega
end Go.Proofs.Ytgbdpmaajihfdaa
