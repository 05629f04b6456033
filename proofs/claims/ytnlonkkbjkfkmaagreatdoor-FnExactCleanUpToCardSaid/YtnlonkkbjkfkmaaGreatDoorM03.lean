/-
  Texts of this proof: Meet.
-/
import Derived.Test.YtnlonkkbjkfkmaaGreatDoorM01
import Derived.Test.YtnlonkkbjkfkmaaGreatDoorM02
import Derived.Deep.RegionHeld3
import Derived.Deep.RegionWith
namespace Go.Proofs.YtnlonkkbjkfkmaaGreatDoor
open Go.RowKit
set_option linter.all false

structure Bd where
 kind : Int
 owner : Int
 x : Int
 y : Int
 vx : Int
 vy : Int
 aim : Int
 life : Int
 timer : Int
def bdV (b : Bd) : Value := .agg #[.int .i64 b.kind, .int .i64 b.owner, .int .i64 b.x, .int .i64 b.y, .int .i64 b.vx, .int .i64 b.vy, .int .i64 b.aim, .int .i64 b.life, .int .i64 b.timer]
theorem toBody_any (b : Bd) (w : World) : Calls Tryz.prog 162 #[bdV b] w fun e w' => e = .returned (bdV b) ∧ Below w.heap.size w w' := by
 unfold bdV
 go_enter Tryz.func162, Tryz.ntmps162
 go_wp2_with (fail)
 refine bodyPost_ret (results_cell_row rfl _ _ (w.heap.size + 1) 100 #[.int .i64 b.kind, .int .i64 b.owner, .int .i64 b.x, .int .i64 b.y, .int .i64 b.vx, .int .i64 b.vy, .int .i64 b.aim, .int .i64 b.life, .int .i64 b.timer] (0, 0) ?d ?hp ?hg ?hu ?hd ?hi) rfl ?_
 case hp => rfl
 case hg => rw [heap_alloc_old _ _ (by simp)]; exact heap_at _ _ (by simp)
 case hu => exact Tryz.underlying100
 case hd => rfl
 case hi => kernel_rfl
 exact ⟨rfl, (below2 _ _ _).alloc (by simp; omega) _⟩
end Go.Proofs.YtnlonkkbjkfkmaaGreatDoor
