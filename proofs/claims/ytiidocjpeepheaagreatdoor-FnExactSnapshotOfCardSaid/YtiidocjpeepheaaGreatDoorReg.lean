/-
  Regions that draw their order: whether a guarded operation is wanted. No condition.
-/
import Derived.Test.YtiidocjpeepheaaGreatDoorBase
import Derived.Deep.RegionHeld3
namespace Go.Proofs.YtiidocjpeepheaaGreatDoor
open Go.RowKit
set_option linter.all false
theorem wanted_off {ops : Array Oper} {tmps : Array Value} {o : Oper} {k d : Nat} {b c : Bool} (hg : o.guard = some (k, b)) (hd : (ops[k]?).bind (·.dst) = some d) (hv : tmps[d]? = some (.bool c)) (hbc : (c == b) = false) : Region.wanted o (yielded ops tmps) = false := by
  have h1 : yielded ops tmps k = some c := by unfold yielded; rw [hd]; simp [hv]
  unfold Region.wanted; rw [hg]; simp [h1]; simpa using hbc
theorem wanted_on {ops : Array Oper} {tmps : Array Value} {o : Oper} {k d : Nat} {b : Bool} (hg : o.guard = some (k, b)) (hd : (ops[k]?).bind (·.dst) = some d) (hv : tmps[d]? = some (.bool b)) : Region.wanted o (yielded ops tmps) = true := by
  have h1 : yielded ops tmps k = some b := by unfold yielded; rw [hd]; simp [hv]
  unfold Region.wanted; rw [hg]; simp [h1]
section
variable {P : Program} {ops : Array Oper} {Q : Exit → Act → World → Prop} {md : Region.Mode} {S : World → Prop}
theorem take_on {i : Nat} {oi : Oper} {v : Value} {fuel : Nat} {listed : Array Bool} {a : Act} {w : World} (d : Option Tmp) (hi : ops[i]? = some oi)
    (hs : Region.noSelect ops = true) (hf : Region.free md ops listed i = true) (hr : (Region.ready md ops listed).contains i = true) (hd : oi.dst = d)
    (hQ : ∀ c a w, Q (.panic c) (a.put d v) w → Q (.panic c) a w) (hw : Region.wanted oi (yielded ops a.tmps) = true) (hy : ∀ w, S w → (execOp a.eval oi).run P w = .ok (.value v) w) (hS : S w)
    (h : wpAnyH P md ops Q S fuel (listed.setIfInBounds i true) (a.put d v) w) : wpAnyH P md ops Q S (fuel + 1) listed a w := by
  subst hd; exact wpAnyH_take hi hs hf hr hQ (.inl ⟨hw, hy⟩) hS h
theorem take_off {i : Nat} {oi : Oper} {fuel : Nat} {listed : Array Bool} {a : Act} {w : World} (d : Option Tmp) (hi : ops[i]? = some oi)
    (hs : Region.noSelect ops = true) (hf : Region.free md ops listed i = true) (hr : (Region.ready md ops listed).contains i = true) (hd : oi.dst = d)
    (hQ : ∀ c a w, Q (.panic c) (a.put d undef) w → Q (.panic c) a w) (hw : Region.wanted oi (yielded ops a.tmps) = false) (hS : S w)
    (h : wpAnyH P md ops Q S fuel (listed.setIfInBounds i true) (a.put d undef) w) : wpAnyH P md ops Q S (fuel + 1) listed a w := by
  subst hd; exact wpAnyH_take hi hs hf hr hQ (.inr ⟨hw, rfl⟩) hS h
end
end Go.Proofs.YtiidocjpeepheaaGreatDoor
