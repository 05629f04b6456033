/-
  TracksOk, KnownTicks: the contracts of the model and of the program. Lists of at most 2^20 tracks and inputs.
-/
import Derived.Test.YtlffkcmbeolohaaTrP
import Derived.Test.YtlffkcmbeolohaaRowL
namespace Go.Proofs.Ytlffkcmbeolohaa
open Go.RowKit
set_option linter.all false
def Few (X : Rowi) : Prop := X.length ≤ 1048576 ∧ ∀ x ∈ X, x.length ≤ 1048576
def trksB (X : Rowi) : Bool := X.all trkB && inR (X.length : Int) 1 4
theorem trks_bad {X : Rowi} {k : Nat} (hk : k < X.length) (h : trkB X[k] = false) : trksB X = false := by
  have : X.all trkB = false := by rw [List.all_eq_false]; exact ⟨_, List.getElem_mem hk, by rw [h]; simp⟩
  unfold trksB; rw [this]; rfl
theorem trks_all {X : Rowi} (h : ∀ k (hk : k < X.length), trkB X[k] = true) : trksB X = inR (X.length : Int) 1 4 := by
  have : X.all trkB = true := by
    rw [List.all_eq_true]; intro x hx
    obtain ⟨i, hi, rfl⟩ := List.getElem_of_mem hx
    exact h i hi
  unfold trksB; rw [this]; rfl
theorem trksB_facts {X : Rowi} (h : trksB X = true) : 1 ≤ X.length ∧ X.length ≤ 4 ∧ ∀ x ∈ X, trkB x = true := by
  unfold trksB at h
  rw [Bool.and_eq_true, inR_iff, List.all_eq_true] at h
  exact ⟨by omega, by omega, h.1⟩
end Go.Proofs.Ytlffkcmbeolohaa
