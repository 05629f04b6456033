/-
  AddInputs in plain lists: what is known already must be the same, what is new comes behind it. No walk of the program.
-/
import Derived.Test.YtgbdpmaajihfdaaTrO
import Derived.Test.YtgbdpmaajihfdaaTrL
import Derived.Test.YtgbdpmaajihfdaaSize
namespace Go.Proofs.Ytgbdpmaajihfdaa
open Go.RowKit
set_option linter.all false
/-- Behind k of the inputs ys, told from number f on: the track xs and what is new. -/
def addAt (xs : List Int) (f : Nat) (ys : List Int) (k : Nat) : List Int := xs ++ (ys.take k).drop (xs.length - f)
def addAll (xs : List Int) (f : Nat) (ys : List Int) : List Int := xs ++ ys.drop (xs.length - f)
/-- Whether what is known already is the same. -/
def addSame (xs : List Int) (f : Nat) (ys : List Int) : Bool := sameB ((xs.drop f).take ys.length) (ys.take (xs.length - f))
def addB (xs : List Int) (f : Int) (ys : List Int) : Bool := trkB xs && inR f 0 xs.length && addSame xs f.toNat ys && trkB (addAll xs f.toNat ys)
def addT (xs : List Int) (f : Int) (ys : List Int) : List Int := if addB xs f ys then addAll xs f.toNat ys else xs
theorem addAt_zero (xs : List Int) (f : Nat) (ys : List Int) : addAt xs f ys 0 = xs := by unfold addAt; simp
theorem addAt_all {xs : List Int} {f : Nat} {ys : List Int} {k : Nat} (hk : ys.length ≤ k) : addAt xs f ys k = addAll xs f ys := by
  unfold addAt addAll; rw [List.take_of_length_le hk]
theorem addAt_len {xs : List Int} {f : Nat} {ys : List Int} {k : Nat} (hf : f ≤ xs.length) (hk : k ≤ ys.length) : (addAt xs f ys k).length = max xs.length (f + k) := by
  unfold addAt; rw [List.length_append, List.length_drop, List.length_take]; omega
theorem addAt_old {xs : List Int} {f : Nat} {ys : List Int} {k : Nat} (hf : f ≤ xs.length) (hk : k < ys.length) (hl : f + k < xs.length) : addAt xs f ys (k + 1) = addAt xs f ys k := by
  have e : ∀ m, m ≤ xs.length - f → (ys.take m).drop (xs.length - f) = [] := by
    intro m hm
    apply List.drop_eq_nil_of_le
    rw [List.length_take]; omega
  unfold addAt; rw [e _ (by omega), e _ (by omega)]
theorem addAt_new {xs : List Int} {f : Nat} {ys : List Int} {k : Nat} (hf : f ≤ xs.length) (hk : k < ys.length) (hl : ¬ f + k < xs.length) : addAt xs f ys (k + 1) = addAt xs f ys k ++ [ys[k]] := by
  unfold addAt
  rw [List.take_succ_eq_append_getElem hk, List.drop_append_of_le_length (by rw [List.length_take]; omega), List.append_assoc]
theorem addAt_read {xs : List Int} {f : Nat} {ys : List Int} {k j : Nat} (hj : j < xs.length) : ∃ h : j < (addAt xs f ys k).length, (addAt xs f ys k)[j] = xs[j] := by
  unfold addAt
  refine ⟨by rw [List.length_append]; omega, ?_⟩
  rw [List.getElem_append_left hj]
theorem addSame_bad {xs : List Int} {f : Nat} {ys : List Int} {k : Nat} (hk : k < ys.length) (hl : f + k < xs.length) (h : ¬ xs[f + k] = ys[k]) : addSame xs f ys = false := by
  unfold addSame
  refine same_bad (k := k) (by rw [List.length_take, List.length_drop]; omega) (by rw [List.length_take]; omega) ?_
  rw [List.getElem_take, List.getElem_take, List.getElem_drop]
  exact h
theorem addSame_ok {xs : List Int} {f : Nat} {ys : List Int} (hf : f ≤ xs.length) (h : ∀ k (hk : k < ys.length) (hl : f + k < xs.length), xs[f + k] = ys[k]) : addSame xs f ys = true := by
  unfold addSame
  refine same_ok (by rw [List.length_take, List.length_take, List.length_drop]; omega) ?_
  intro k h1 h2
  rw [List.getElem_take, List.getElem_take, List.getElem_drop]
  rw [List.length_take] at h2
  rw [List.length_take, List.length_drop] at h1
  exact h k (by omega) (by omega)
theorem addB_track {xs : List Int} {f : Int} {ys : List Int} (h : trkB xs = false) : addB xs f ys = false := by unfold addB; rw [h]; rfl
theorem addB_range {xs : List Int} {f : Int} {ys : List Int} (h : inR f 0 xs.length = false) : addB xs f ys = false := by unfold addB; rw [h]; simp
theorem addB_other {xs : List Int} {f : Int} {ys : List Int} (h : addSame xs f.toNat ys = false) : addB xs f ys = false := by unfold addB; rw [h]; simp
theorem addB_far {xs : List Int} {f : Int} {ys : List Int} (h : trkB (addAll xs f.toNat ys) = false) : addB xs f ys = false := by unfold addB; rw [h]; simp
theorem addB_good {xs : List Int} {f : Int} {ys : List Int} (h1 : trkB xs = true) (h2 : inR f 0 xs.length = true) (h3 : addSame xs f.toNat ys = true) (h4 : trkB (addAll xs f.toNat ys) = true) : addB xs f ys = true := by unfold addB; rw [h1, h2, h3, h4]; rfl
theorem addT_no {xs : List Int} {f : Int} {ys : List Int} (h : addB xs f ys = false) : addT xs f ys = xs := by unfold addT; rw [h]; rfl
theorem addT_yes {xs : List Int} {f : Int} {ys : List Int} (h : addB xs f ys = true) : addT xs f ys = addAll xs f.toNat ys := by unfold addT; rw [h]; rfl
/-- What the program cuts: as many numbers as both have. -/
theorem addAll_told {xs : List Int} {f : Nat} {ys : List Int} (hf : f ≤ xs.length) : xs ++ ys.drop (min (xs.length - f) ys.length) = addAll xs f ys := by
  unfold addAll
  congr 1
  by_cases h : xs.length - f ≤ ys.length
  · rw [Nat.min_eq_left h]
  · rw [Nat.min_eq_right (by omega), List.drop_length, List.drop_eq_nil_of_le (by omega)]
theorem addSame_told {xs : List Int} {f : Nat} {ys : List Int} (hf : f ≤ xs.length) : sameB ((xs.drop f).take (min (xs.length - f) ys.length)) (ys.take (min (xs.length - f) ys.length)) = addSame xs f ys := by
  unfold addSame
  have e1 : (xs.drop f).take (min (xs.length - f) ys.length) = (xs.drop f).take ys.length := by
    rw [List.take_eq_take_iff, List.length_drop]; omega
  have e2 : ys.take (min (xs.length - f) ys.length) = ys.take (xs.length - f) := by
    rw [List.take_eq_take_iff]; omega
  rw [e1, e2]
theorem addT_len {xs ys : List Int} {f : Int} (hx : xs.length ≤ 1048576) : (addT xs f ys).length ≤ 1048576 := by
  unfold addT; split
  · rename_i h
    unfold addB at h
    simp only [Bool.and_eq_true] at h
    have := (trkB_facts h.2).1
    omega
  · exact hx
/-- What AddInputs leaves. -/
def RetAd (w : World) (xs : List Int) (f : Int) (ys : List Int) (e : Ending) (w' : World) : Prop := ∃ v, e = .returned (.tuple #[.agg #[v], .bool (addB xs f ys)]) ∧ OwnI w' w.heap.size v (addT xs f ys) ∧ Below w.heap.size w w'
end Go.Proofs.Ytgbdpmaajihfdaa
