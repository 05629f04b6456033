/-
  Texts of this proof: Rep0, Cln, Cpy, WdC.
-/
import Derived.Test.YtehjafaobaoleaaDoorM03
import Derived.Test.YtehjafaobaoleaaDoorM06
import Derived.Test.YtehjafaobaoleaaDoorM04
import Derived.Laws.CopyOwn
import Derived.Deep.RegionLaw
import Derived.Lib.SliceRun
import Derived.Lib.AppendZeros
import Derived.Test.YtehjafaobaoleaaDoorM30
namespace Go.Proofs.YtehjafaobaoleaaDoor
open Go.RowKit
set_option linter.all false
end Go.Proofs.YtehjafaobaoleaaDoor
namespace Go.Proofs.YtehjafaobaoleaaDoor
open Go.RowKit
set_option linter.all false
theorem OwnR.capd {w : World} {B : Nat} {v : Value} {xs : List Int} (h : OwnR w B v xs) : CapI v := by
 rcases h.2 with ⟨rfl, h0⟩ | ⟨g, cap, cur, rfl, hB, hg, hn, hc, -⟩
 ·exact ⟨_, _, _, rfl, Nat.le_refl _⟩
 ·exact ⟨_, _, _, rfl, hn⟩
end Go.Proofs.YtehjafaobaoleaaDoor
namespace Go.Proofs.YtehjafaobaoleaaDoor
open Go.RowKit
set_option linter.all false
theorem OwnR.far {w : World} {B : Nat} {v : Value} {xs : List Int} (h : OwnR w B v xs) {p : Addr} (hp : p.block < B) (u : Value) : OwnR (w.setCell p u) B v xs := ownsRow_setCell_below h hp u
theorem OwnR.low {w : World} {B C : Nat} {v : Value} {xs : List Int} (h : OwnR w B v xs) (hC : C ≤ B) : OwnR w C v xs := by
 refine ⟨h.1, ?_⟩
 rcases h.2 with h | ⟨g, cap, cur, hv, hB, rest⟩
 ·exact .inl h
 ·exact .inr ⟨g, cap, cur, hv, Nat.le_trans hC hB, rest⟩
end Go.Proofs.YtehjafaobaoleaaDoor
namespace Go.Proofs.YtehjafaobaoleaaDoor
open Go.RowKit
set_option linter.all false
theorem OwnRB.low {w : World} {B C : Nat} {v : Value} {X : List Bd} (h : OwnRB w B v X) (hC : C ≤ B) : OwnRB w C v X := by
 refine ⟨h.1, ?_⟩
 rcases h.2 with h | ⟨g, cap, cur, hv, hB, rest⟩
 ·exact .inl h
 ·exact .inr ⟨g, cap, cur, hv, Nat.le_trans hC hB, rest⟩
theorem OwnRB.far {w : World} {B : Nat} {v : Value} {X : List Bd} (h : OwnRB w B v X) {p : Addr} (hp : p.block < B) (u : Value) : OwnRB (w.setCell p u) B v X := ownsRow_setCell_below h hp u
theorem OwnR.putW {w : World} {B : Nat} {v : Value} {xs : List Int} (h : OwnR w B v xs) {c : Nat} (hc : c < B) (y : Wd) (ul us ub : Value) : OwnR (putW w c y ul us ub) B v xs := by
 unfold Go.Proofs.YtehjafaobaoleaaDoor.putW
 repeat (refine OwnR.far ?_ (by simpa using hc) _)
 exact h
theorem OwnRB.putW {w : World} {B : Nat} {v : Value} {X : List Bd} (h : OwnRB w B v X) {c : Nat} (hc : c < B) (y : Wd) (ul us ub : Value) : OwnRB (putW w c y ul us ub) B v X := by
 unfold Go.Proofs.YtehjafaobaoleaaDoor.putW
 repeat (refine OwnRB.far ?_ (by simpa using hc) _)
 exact h
theorem WrS.putW {w : World} {B : Nat} {v : Value} {xs : List (List UInt8)} (h : WrS w B v xs) {c : Nat} (hc : c < B) (y : Wd) (ul us ub : Value) : WrS (putW w c y ul us ub) B v xs := by
 unfold Go.Proofs.YtehjafaobaoleaaDoor.putW
 repeat (refine WrS.far ?_ (by simpa using hc) _)
 exact h
end Go.Proofs.YtehjafaobaoleaaDoor
