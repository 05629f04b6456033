/-
  MoveBody of the program. Condition of moveIn: the level is good, the body has a size, its place is free, its speeds are in range.
-/
import Derived.Test.YtiidocjpeepheaaGreatDoorSlide
import Derived.Deep.Cut
namespace Go.Proofs.YtiidocjpeepheaaGreatDoor
open Go.RowKit
set_option linter.all false
def dirI (v : Int) : Int := if v < 0 then -1 else 1
def moveX (L : Rowz) (b : Bd) : Int × Int × Bool := slideN L (sizeI b.kind) (dirI b.vx) 0 b.vx.natAbs b.x b.y
def moveY (L : Rowz) (b : Bd) (x y : Int) : Int × Int × Bool := slideN L (sizeI b.kind) 0 (dirI b.vy) b.vy.natAbs x y
def stop (t : Bool) (v : Int) : Int := if t then 0 else v
def moveB (L : Rowz) (b : Bd) : Bd := ⟨b.kind, b.owner, (moveY L b (moveX L b).1 (moveX L b).2.1).1, (moveY L b (moveX L b).1 (moveX L b).2.1).2.1, stop (moveX L b).2.2 b.vx, stop (moveY L b (moveX L b).1 (moveX L b).2.1).2.2 b.vy, b.aim, b.life, b.timer⟩
def moveT (L : Rowz) (b : Bd) : Bool := (moveX L b).2.2 || (moveY L b (moveX L b).1 (moveX L b).2.1).2.2
theorem dirI_range (v : Int) : -1 ≤ dirI v ∧ dirI v ≤ 1 := by unfold dirI; split <;> omega
end Go.Proofs.YtiidocjpeepheaaGreatDoor
