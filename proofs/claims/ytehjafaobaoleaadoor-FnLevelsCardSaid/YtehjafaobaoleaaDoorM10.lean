/-
  Texts of this proof: Meet, OpenB, Rng.
-/
import Derived.Test.YtehjafaobaoleaaDoorM09
import Derived.Test.YtehjafaobaoleaaDoorM04
import Derived.Deep.RegionHeld3
import Derived.Deep.RegionWith
import Derived.Lib.SmallJoins
import Derived.Deep.Slices
import Derived.Deep.MidRow
import Derived.Deep.Fields
import Derived.ChangeSame
namespace Go.Proofs.YtehjafaobaoleaaDoor
open Go.RowKit
set_option linter.all false

structure Bd where
 kind : Int
 owner : Int
 x : Int
 y : Int
 vx : Int
 vy : Int
 aim : Int
 life : Int
 timer : Int
def bdV (b : Bd) : Value := .agg #[.int .i64 b.kind, .int .i64 b.owner, .int .i64 b.x, .int .i64 b.y, .int .i64 b.vx, .int .i64 b.vy, .int .i64 b.aim, .int .i64 b.life, .int .i64 b.timer]
end Go.Proofs.YtehjafaobaoleaaDoor
namespace Go.Proofs.YtehjafaobaoleaaDoor
open Go.RowKit Go.Joins Go.ChangeShapes Go.WideShapes Go.Deep
set_option linter.all false
section
variable {H : Type} {enc : TypeId × Value → H} {P : Program} {w : World} {base : Nat} {spare : Nat → Bool} {held : Bool}
end
def Bd.fits (b : Bd) : Prop := (Lit.int .i64 b.kind).wf = true ∧ (Lit.int .i64 b.owner).wf = true ∧ (Lit.int .i64 b.x).wf = true ∧ (Lit.int .i64 b.y).wf = true ∧ (Lit.int .i64 b.vx).wf = true ∧ (Lit.int .i64 b.vy).wf = true ∧ (Lit.int .i64 b.aim).wf = true ∧ (Lit.int .i64 b.life).wf = true ∧ (Lit.int .i64 b.timer).wf = true
end Go.Proofs.YtehjafaobaoleaaDoor
namespace Go.Proofs.YtehjafaobaoleaaDoor
open Go.RowKit Go.Joins Go.ChangeShapes Go.WideShapes Go.Deep
set_option linter.all false
theorem rangeKeep {w w' : World} {b o C : Nat} {cs : List Value} (h : w.rangeAt b o cs) (hb : Below C w w') (hC : b < C) : w'.rangeAt b o cs := fun j v hv => by rw [← h j v hv]; exact hb.cell hC
theorem thereKeep {w w' : World} {b o n C : Nat} (h : w.there b o n) (hb : Below C w w') (hC : b < C) : w'.there b o n := fun j hj => by
 have hc : w'.cell? ⟨b, o + j, none⟩ = w.cell? ⟨b, o + j, none⟩ := hb.cell hC
 have hf : w'.frozen? ⟨b, o + j, none⟩ = w.frozen? ⟨b, o + j, none⟩ := hb.frozen hC
 rw [hc, hf]; exact h j hj
theorem rangeFar {w : World} {b o : Nat} {cs : List Value} (h : w.rangeAt b o cs) {p : Addr} (hp : p.block ≠ b) (u : Value) : (w.setCell p u).rangeAt b o cs := fun j v hv => by
 rw [World.cell?_setCell_other _ _ _ _ (by intro e; apply hp; rw [e])]; exact h j v hv
theorem thereFar {w : World} {b o n : Nat} (h : w.there b o n) {p : Addr} (hp : p.block ≠ b) (u : Value) : (w.setCell p u).there b o n := fun j hj => by
 rw [World.cell?_setCell_other _ _ _ _ (by intro e; apply hp; rw [e]), World.frozen?_setCell]; exact h j hj
theorem rangeSame {w w' : World} {b o : Nat} {cs : List Value} (h : w.rangeAt b o cs) (he : w'.heap[b]? = w.heap[b]?) : w'.rangeAt b o cs := fun j v hv => by rw [World.cell?_of_block (w := w) he]; exact h j v hv
theorem thereSame {w w' : World} {b o n : Nat} (h : w.there b o n) (he : w'.heap[b]? = w.heap[b]?) : w'.there b o n := fun j hj => by
 rw [World.cell?_of_block (w := w) he, show w'.frozen? ⟨b, o + j, none⟩ = w.frozen? ⟨b, o + j, none⟩ by simp [World.frozen?, he]]; exact h j hj
section
variable {H : Type} {enc : TypeId × Value → H} {P : Program} {w : World} {base : Nat} {spare : Nat → Bool} {held : Bool}
end
section
variable {H : Type} {enc : TypeId × Value → H} {w : World} {base : Nat} {spare : Nat → Bool} {held : Bool}
end
end Go.Proofs.YtehjafaobaoleaaDoor
