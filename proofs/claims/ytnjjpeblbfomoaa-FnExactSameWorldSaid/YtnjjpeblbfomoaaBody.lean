/-
  BodyOk of the model: what is asked of a body in a valid level; l02Body. Conditions: the place's numbers have 64 bits, the level is good, there is a player.
-/
import Derived.Test.YtnjjpeblbfomoaaSolidA
import Derived.Test.YtnjjpeblbfomoaaSlide
import Derived.Test.YtnjjpeblbfomoaaReg
namespace Go.Proofs.Ytnjjpeblbfomoaa
open Go.RowKit
set_option linter.all false
def aimB (b : Bd) : Bool := decide (b.aim = 1) || decide (b.aim = -1)
/-- What a body's kind asks of its other numbers. -/
def kindB (b : Bd) : Bool :=
  if b.kind = 0 then aimB b && (inR b.life 0 3 && (if b.life = 0 then inR b.timer 1 20 else inR b.timer 0 12))
  else if b.kind = 1 then decide (b.aim = 0) && (decide (b.life = 0) && inR b.timer 1 25)
  else decide (b.owner = 0) && (decide (b.aim = 0) && (decide (b.life = 0) && decide (b.timer = 0)))
/-- Whether a body fits a valid level with n players. -/
def fitB (L : Rowz) (n : Int) (b : Bd) : Bool := inR b.kind 0 2 && (inR b.owner 0 (n - 1) && (!blockB L b.x b.y (sizeI b.kind) && (inR b.vx (-15) 15 && (inR b.vy (-15) 15 && kindB b))))
section
variable {L : Rowz} {n : Int} {b : Bd}
theorem fit_k (h : inR b.kind 0 2 = false) : fitB L n b = false := by unfold fitB; rw [h]; rfl
theorem fit_o (h : inR b.owner 0 (n - 1) = false) : fitB L n b = false := by unfold fitB; rw [h]; simp
theorem fit_s (h : blockB L b.x b.y (sizeI b.kind) = true) : fitB L n b = false := by unfold fitB; rw [h]; simp
theorem fit_x (h : inR b.vx (-15) 15 = false) : fitB L n b = false := by unfold fitB; rw [h]; simp
theorem fit_y (h : inR b.vy (-15) 15 = false) : fitB L n b = false := by unfold fitB; rw [h]; simp
theorem fit_all (h0 : inR b.kind 0 2 = true) (h1 : inR b.owner 0 (n - 1) = true) (h2 : blockB L b.x b.y (sizeI b.kind) = false) (h3 : inR b.vx (-15) 15 = true) (h4 : inR b.vy (-15) 15 = true) : fitB L n b = kindB b := by
  unfold fitB; rw [h0, h1, h2, h3, h4]; rfl
theorem kind3 (h : inR b.kind 0 2 = true) : b.kind = 0 ∨ b.kind = 1 ∨ b.kind = 2 := by
  have := (inR_iff _ _ _).1 h; omega
theorem kind_0 (h : b.kind = 0) : kindB b = (aimB b && (inR b.life 0 3 && (if b.life = 0 then inR b.timer 1 20 else inR b.timer 0 12))) := by unfold kindB; rw [if_pos h]
theorem kind_1 (h : b.kind = 1) : kindB b = (decide (b.aim = 0) && (decide (b.life = 0) && inR b.timer 1 25)) := by unfold kindB; rw [if_neg (by rw [h]; decide), if_pos h]
theorem kind_2 (h : b.kind = 2) : kindB b = (decide (b.owner = 0) && (decide (b.aim = 0) && (decide (b.life = 0) && decide (b.timer = 0)))) := by unfold kindB; rw [if_neg (by rw [h]; decide), if_neg (by rw [h]; decide)]
theorem size_kind (h : inR b.kind 0 2 = true) : 1 ≤ sizeI b.kind ∧ sizeI b.kind ≤ 16 := by
  rcases kind3 h with e | e | e <;> rw [e] <;> decide
end
end Go.Proofs.Ytnjjpeblbfomoaa
