/-
  LevelOk: the contract of the program. No condition.
-/
import Derived.Test.YtnjjpeblbfomoaaLvOk
namespace Go.Proofs.Ytnjjpeblbfomoaa
open Go.RowKit
set_option linter.all false
/-- The first tile that is not a wall. -/
def openC (row : List UInt8) : Int := if row.dropWhile (· == 35) = [] then -1 else (row.length : Int) - ((row.dropWhile (· == 35)).length : Int)
theorem dropWhile_len (row : List UInt8) (p : UInt8 → Bool) : (row.dropWhile p).length ≤ row.length := by
  induction row with
  | nil => simp
  | cons a l ih => rw [List.dropWhile_cons]; split <;> simp <;> omega
theorem dropWhile_nil (row : List UInt8) : row.dropWhile (· == 35) = [] ↔ row.all (· == 35) = true := by
  induction row with
  | nil => simp
  | cons a l ih =>
    rw [List.dropWhile_cons, List.all_cons]
    by_cases h : (a == 35) = true
    · rw [if_pos h, h, ih]; simp
    · rw [if_neg h]; simp at h ⊢; intro e; exact absurd e h
theorem openC_neg (row : List UInt8) : decide (openC row < 0) = row.all (· == 35) := by
  unfold openC
  have hl := dropWhile_len row (· == 35)
  split
  · rename_i h; rw [(dropWhile_nil row).1 h]; simp
  · rename_i h
    have : row.all (· == 35) ≠ true := fun e => h ((dropWhile_nil row).2 e)
    rw [Bool.eq_false_iff.2 this]; simp; omega
theorem borderB_row {L : Rowz} {k : Nat} (hk : k < L.length) (h : ¬ (L[k].headD 0 = 35 ∧ L[k].getD (wd L - 1) 0 = 35)) : borderB L = false := by
  rw [Bool.eq_false_iff]
  intro e
  unfold borderB at e
  simp only [Bool.and_eq_true, List.all_eq_true, beq_iff_eq] at e
  exact h (e.1 L[k] (List.getElem_mem _))
theorem borderB_rows {L : Rowz} (h : ∀ k (hk : k < L.length), L[k].headD 0 = 35 ∧ L[k].getD (wd L - 1) 0 = 35) : borderB L = ((L.headD []).all (· == 35) && (L.getLastD []).all (· == 35)) := by
  unfold borderB
  have : (L.all fun row => row.headD 0 == 35 && row.getD (wd L - 1) 0 == 35) = true := by
    simp only [Bool.and_eq_true, List.all_eq_true, beq_iff_eq]
    intro row hrow
    obtain ⟨i, hi, rfl⟩ := List.mem_iff_getElem.1 hrow
    exact h i hi
  rw [this, Bool.true_and]
theorem getD_of {row : List UInt8} {k : Nat} (h : k < row.length) : row.getD k 0 = row[k] := by rw [List.getD_eq_getElem?_getD, List.getElem?_eq_getElem h, Option.getD_some]
theorem headD_of {row : List UInt8} (h : 0 < row.length) : row.headD 0 = row[0] := by
  cases row with
  | nil => simp at h
  | cons a l => rfl
end Go.Proofs.Ytnjjpeblbfomoaa
