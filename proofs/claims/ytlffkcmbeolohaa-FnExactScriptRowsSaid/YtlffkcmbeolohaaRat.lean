/-
  RowAt: the contracts of the model and of the program. Lists of at most 2^20 tracks and inputs.
-/
import Derived.Test.YtlffkcmbeolohaaKnt
namespace Go.Proofs.Ytlffkcmbeolohaa
open Go.RowKit
set_option linter.all false
def rowL (X : Rowi) (t : Int) : List Int := X.map fun x => prdI x t
def rowS (X : Rowi) (t : Int) : List Int := X.map fun x => predT x t
theorem rowL_len (X : Rowi) (t : Int) : (rowL X t).length = X.length := by unfold rowL; simp
theorem rowS_len (X : Rowi) (t : Int) : (rowS X t).length = X.length := by unfold rowS; simp
theorem rowL_at {X : Rowi} {t : Int} {k : Nat} (h : k < X.length) : (rowL X t)[k]'(by rw [rowL_len]; exact h) = prdI X[k] t := by unfold rowL; simp
theorem rowS_at {X : Rowi} {t : Int} {k : Nat} (h : k < X.length) : (rowS X t)[k]'(by rw [rowS_len]; exact h) = predT X[k] t := by unfold rowS; simp
theorem rowS_eq {X : Rowi} {t : Nat} (h : trksB X = true) : rowS X (t : Int) = rowL X (t : Int) := by
  unfold rowS rowL
  refine List.map_congr_left fun x hx => ?_
  exact predT_good ((trksB_facts h).2.2 x hx)
def ratOk (X : Rowi) (t : Int) : Bool := trksB X && decide (0 ≤ t)
def ratL (X : Rowi) (t : Int) : List Int := if ratOk X t then rowL X t else []
def ratB (X : Rowi) (t : Int) : Bool := if ratOk X t then decide (t < knownI X) else false
theorem rat_no {X : Rowi} {t : Int} (h : trksB X = false ∨ t < 0) : ratL X t = [] ∧ ratB X t = false := by
  have : ratOk X t = false := by unfold ratOk; rcases h with h | h; · rw [h]; rfl
                                 · rw [show decide (0 ≤ t) = false by simp; exact h]; simp
  unfold ratL ratB; rw [this]; exact ⟨rfl, rfl⟩
theorem rat_yes {X : Rowi} {t : Nat} (h : trksB X = true) : ratL X (t : Int) = rowL X (t : Int) ∧ ratB X (t : Int) = decide ((t : Int) < knownI X) := by
  have : ratOk X (t : Int) = true := by unfold ratOk; rw [h]; simp
  unfold ratL ratB; rw [this]; exact ⟨rfl, rfl⟩
def RetOwnB (w : World) (xs : List Int) (b : Bool) (e : Ending) (w' : World) : Prop := ∃ v, e = .returned (.tuple #[v, .bool b]) ∧ OwnI w' w.heap.size v xs ∧ Below w.heap.size w w'
theorem OwnI.nil (w : World) (B : Nat) : OwnI w B (.slice none 0 0) [] := ⟨none, 0, rfl, .inl rfl⟩
end Go.Proofs.Ytlffkcmbeolohaa
