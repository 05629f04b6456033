/-
  Texts of this proof: MoveP.
-/
import Derived.Test.YtnlonkkbjkfkmaaGreatDoorM41
namespace Go.Proofs.YtnlonkkbjkfkmaaGreatDoor
open Go.RowKit
set_option linter.all false
def spdB (b : Bd) : Bool := inR b.vx (-15) 15 && inR b.vy (-15) 15
theorem speedsOk_impl (b : Bd) (w : World) : Calls Tryz.prog 212 #[.agg #[.int .i64 b.kind, .int .i64 b.owner, .int .i64 b.x, .int .i64 b.y, .int .i64 b.vx, .int .i64 b.vy, .int .i64 b.aim, .int .i64 b.life, .int .i64 b.timer]] w fun e w' => e = .returned (.bool (spdB b)) ∧ Below w.heap.size w w' := by
 cases q1 : inR b.vx (-15) 15 with
 | true =>
  have HF := Lib.hid (show spdB b = inR b.vy (-15) 15 by unfold spdB; rw [q1]; rfl)
  have Q := Lib.hid q1
  clear q1
  go_enter Tryz.func212, Tryz.ntmps212
  go_wp2_with (go_at_call 69; refine (within_impl _ _ _ _).mono ?_; rintro e w1 ⟨rfl, rfl⟩; try rw [Q.out])
  go_ret
  exact ⟨by rw [HF.out]; rfl, below1 _ _⟩
 | false =>
  have HF := Lib.hid (show spdB b = false by unfold spdB; rw [q1]; rfl)
  have Q := Lib.hid q1
  clear q1
  go_enter Tryz.func212, Tryz.ntmps212
  go_wp2_with (go_at_call 69; refine (within_impl _ _ _ _).mono ?_; rintro e w1 ⟨rfl, rfl⟩; try rw [Q.out])
  go_ret
  exact ⟨by rw [HF.out]; rfl, below1 _ _⟩
end Go.Proofs.YtnlonkkbjkfkmaaGreatDoor
