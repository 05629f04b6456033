/-
  The laws' marks on a track of the call's own, and their test; toTrack with its room; what a mark leaves alone. Lists of at most 2^20 numbers.
-/
import Derived.Test.YtgbdpmaajihfdaaFar
namespace Go.Proofs.Ytgbdpmaajihfdaa
open Go.RowKit
set_option linter.all false
def RetTrC (w : World) (xs : List Int) (e : Ending) (w' : World) : Prop := ∃ v, e = .returned (.agg #[v]) ∧ OwnI w' w.heap.size v xs ∧ CapI v ∧ Below w.heap.size w w'
end Go.Proofs.Ytgbdpmaajihfdaa
