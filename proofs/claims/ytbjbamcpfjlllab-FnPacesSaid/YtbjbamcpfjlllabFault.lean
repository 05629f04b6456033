/-
  FaultOk: the contracts of the model and of the program; a fault that came in; the law. No condition.
-/
import Derived.Test.YtbjbamcpfjlllabSize
import Derived.Test.YtbjbamcpfjlllabHeap
import Derived.Lib.SmallJoins
import Derived.Deep.RegionHeld3
namespace Go.Proofs.Ytbjbamcpfjlllab
open Go.RowKit Go.Joins Go.ChangeShapes Go.WideShapes Go.Deep
set_option linter.all false
structure Ft where
  tick : Int
  player : Int
  add : Int
/-- A fault as a value. -/
def ftV (f : Ft) : Value := .agg #[.int .i64 f.tick, .int .i64 f.player, .int .i64 f.add]
/-- Each number of a fault fits its kind. -/
def Ft.fits (f : Ft) : Prop := (Lit.int .i64 f.tick).wf = true ∧ (Lit.int .i64 f.player).wf = true ∧ (Lit.int .i64 f.add).wf = true
/-- Whether a fault is valid for some players. -/
def faultB (f : Ft) (n : Int) : Bool := inR f.tick 0 400 && (inR f.player 0 (n - 1) && inR f.add 0 9)
theorem faultB_tick {f : Ft} {n : Int} (h : inR f.tick 0 400 = false) : faultB f n = false := by unfold faultB; rw [h]; rfl
theorem faultB_player {f : Ft} {n : Int} (h : inR f.player 0 (n - 1) = false) : faultB f n = false := by unfold faultB; rw [h]; simp
theorem faultB_add {f : Ft} {n : Int} (h : inR f.add 0 9 = false) : faultB f n = false := by unfold faultB; rw [h]; simp
theorem faultB_ok {f : Ft} {n : Int} (h1 : inR f.tick 0 400 = true) (h2 : inR f.player 0 (n - 1) = true) (h3 : inR f.add 0 9 = true) : faultB f n = true := by unfold faultB; rw [h1, h2, h3]; rfl
theorem inR_no {n lo hi : Int} (h : ¬ (lo ≤ n ∧ n ≤ hi)) : inR n lo hi = false := by
  cases e : inR n lo hi with
  | false => rfl
  | true => exact absurd ((inR_iff _ _ _).1 e) h
theorem inR_yes {n lo hi : Int} (h : lo ≤ n ∧ n ≤ hi) : inR n lo hi = true := (inR_iff _ _ _).2 h
end Go.Proofs.Ytbjbamcpfjlllab
