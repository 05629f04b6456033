/-
  MoveBody of the program: speedsOk; the whole. Condition: the body's numbers fit their kind.
-/
import Derived.Test.YtiidocjpeepheaaGreatDoorMoveI
namespace Go.Proofs.YtiidocjpeepheaaGreatDoor
open Go.RowKit
set_option linter.all false
def spdB (b : Bd) : Bool := inR b.vx (-15) 15 && inR b.vy (-15) 15
theorem speedsOk_impl (b : Bd) (w : World) : Calls Tryz.prog 115 #[.agg #[.int .i64 b.kind, .int .i64 b.owner, .int .i64 b.x, .int .i64 b.y, .int .i64 b.vx, .int .i64 b.vy, .int .i64 b.aim, .int .i64 b.life, .int .i64 b.timer]] w fun e w' => e = .returned (.bool (spdB b)) ∧ Below w.heap.size w w' := by
  cases q1 : inR b.vx (-15) 15 with
  | true =>
    have HF := Lib.hid (show spdB b = inR b.vy (-15) 15 by unfold spdB; rw [q1]; rfl)
    have Q := Lib.hid q1
    clear q1
    go_enter Tryz.func115, Tryz.ntmps115
    go_wp2_with (go_at_call 78; refine (within_impl _ _ _ _).mono ?_; rintro e w1 ⟨rfl, rfl⟩; try rw [Q.out])
    go_ret
    exact ⟨by rw [HF.out]; rfl, below1 _ _⟩
  | false =>
    have HF := Lib.hid (show spdB b = false by unfold spdB; rw [q1]; rfl)
    have Q := Lib.hid q1
    clear q1
    go_enter Tryz.func115, Tryz.ntmps115
    go_wp2_with (go_at_call 78; refine (within_impl _ _ _ _).mono ?_; rintro e w1 ⟨rfl, rfl⟩; try rw [Q.out])
    go_ret
    exact ⟨by rw [HF.out]; rfl, below1 _ _⟩
/-- What MoveBody leaves. -/
def mbB (L : Rowz) (b : Bd) : Bd := if solidB L b.x b.y (sizeI b.kind) || !spdB b then b else moveB L b
def mbT (L : Rowz) (b : Bd) : Bool := if solidB L b.x b.y (sizeI b.kind) || !spdB b then false else moveT L b
theorem mb_stay {L : Rowz} {b : Bd} (h : solidB L b.x b.y (sizeI b.kind) = true ∨ spdB b = false) : mbB L b = b ∧ mbT L b = false := by
  unfold mbB mbT
  rcases h with h | h <;> rw [h] <;> simp
theorem mb_go {L : Rowz} {b : Bd} (h1 : solidB L b.x b.y (sizeI b.kind) = false) (h2 : spdB b = true) : mbB L b = moveB L b ∧ mbT L b = moveT L b := by
  unfold mbB mbT; rw [h1, h2]; simp
theorem solid_free {L : Rowz} {x y s : Int} (h : solidB L x y s = false) : levelB L = true ∧ inR s 1 16 = true ∧ blockB L x y s = false := by
  unfold solidB at h
  cases hl : levelB L <;> cases hq : inR s 1 16 <;> cases hb : blockB L x y s <;> simp_all
end Go.Proofs.YtiidocjpeepheaaGreatDoor
