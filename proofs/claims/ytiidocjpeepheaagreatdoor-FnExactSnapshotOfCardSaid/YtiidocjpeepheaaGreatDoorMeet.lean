/-
  Contracts of BodiesMeet, ShotOf and of what the laws do with bodies. No condition.
-/
import Derived.Test.YtiidocjpeepheaaGreatDoorSize
import Derived.Test.YtiidocjpeepheaaGreatDoorHeap
import Derived.Deep.RegionHeld3
import Derived.Deep.RegionWith
namespace Go.Proofs.YtiidocjpeepheaaGreatDoor
open Go.RowKit
set_option linter.all false

structure Bd where
  kind : Int
  owner : Int
  x : Int
  y : Int
  vx : Int
  vy : Int
  aim : Int
  life : Int
  timer : Int
/-- A body as a value. -/
def bdV (b : Bd) : Value := .agg #[.int .i64 b.kind, .int .i64 b.owner, .int .i64 b.x, .int .i64 b.y, .int .i64 b.vx, .int .i64 b.vy, .int .i64 b.aim, .int .i64 b.life, .int .i64 b.timer]
theorem toBody_any (b : Bd) (w : World) : Calls Tryz.prog 90 #[bdV b] w fun e w' => e = .returned (bdV b) ∧ Below w.heap.size w w' := by
  unfold bdV
  go_enter Tryz.func90, Tryz.ntmps90
  go_wp2_with (fail)
  refine bodyPost_ret (results_cell_row rfl _ _ (w.heap.size + 1) 113 #[.int .i64 b.kind, .int .i64 b.owner, .int .i64 b.x, .int .i64 b.y, .int .i64 b.vx, .int .i64 b.vy, .int .i64 b.aim, .int .i64 b.life, .int .i64 b.timer] (0, 0) ?d ?hp ?hg ?hu ?hd ?hi) rfl ?_
  case hp => rfl
  case hg => rw [heap_alloc_old _ _ (by simp)]; exact heap_at _ _ (by simp)
  case hu => exact Tryz.underlying113
  case hd => rfl
  case hi => kernel_rfl
  exact ⟨rfl, (below2 _ _ _).alloc (by simp; omega) _⟩
def placedB (b : Bd) : Bool := inR b.x 0 1000 && inR b.y 0 1000
/-- Whether two bodies meet. -/
def meetB (a b : Bd) : Bool := !((sizeI a.kind == 0) || ((sizeI b.kind == 0) || (!(inR a.x 0 1000) || (!(inR a.y 0 1000) || (!(inR b.x 0 1000) || !(inR b.y 0 1000)))))) &&
  (decide (a.x < b.x + sizeI b.kind) && (decide (b.x < a.x + sizeI a.kind) && (decide (a.y < b.y + sizeI b.kind) && decide (b.y < a.y + sizeI a.kind))))
end Go.Proofs.YtiidocjpeepheaaGreatDoor
