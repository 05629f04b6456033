/-
  Rows of inputs, one input a player: whether they are valid, the inputs of one player, the texts of all of them. No walk of the program.
-/
import Derived.Test.YtecimgennncjkaaDoorRow
import Derived.Test.YtecimgennncjkaaDoorPkT
import Derived.Test.YtecimgennncjkaaDoorText
namespace Go.Proofs.YtecimgennncjkaaDoor
open Go.RowKit
set_option linter.all false
/-- A row has just n inputs, all of them valid. -/
def rokB (n : Int) (x : List Int) : Bool := decide ((x.length : Int) = n) && allW 0 15 x
def rowsB (n : Int) (X : Rowi) : Bool := X.all (rokB n)
theorem rokB_len {n : Int} {x : List Int} (h : ¬ (x.length : Int) = n) : rokB n x = false := by unfold rokB; rw [decide_eq_false h]; rfl
theorem rokB_w {n : Int} {x : List Int} (h : (x.length : Int) = n) : rokB n x = allW 0 15 x := by unfold rokB; rw [decide_eq_true h]; rfl
theorem rokB_bad {n : Int} {x : List Int} (h : allW 0 15 x = false) : rokB n x = false := by unfold rokB; rw [h]; simp
theorem rokB_ok {n : Int} {x : List Int} (h : allW 0 15 x = true) : rokB n x = decide ((x.length : Int) = n) := by unfold rokB; rw [h]; simp
theorem rokB_facts {n : Int} {x : List Int} (h : rokB n x = true) : (x.length : Int) = n ∧ allW 0 15 x = true := by
  unfold rokB at h
  rw [Bool.and_eq_true, decide_eq_true_eq] at h
  exact h
theorem rowsB_bad {n : Int} {X : Rowi} {k : Nat} (hk : k < X.length) (h : rokB n X[k] = false) : rowsB n X = false := by
  unfold rowsB; rw [List.all_eq_false]; exact ⟨_, List.getElem_mem hk, by rw [h]; simp⟩
theorem rowsB_ok {n : Int} {X : Rowi} (h : ∀ k (hk : k < X.length), rokB n X[k] = true) : rowsB n X = true := by
  unfold rowsB; rw [List.all_eq_true]; intro x hx
  obtain ⟨i, hi, rfl⟩ := List.getElem_of_mem hx
  exact h i hi
theorem rowsB_at {n : Int} {X : Rowi} (h : rowsB n X = true) {k : Nat} (hk : k < X.length) : rokB n X[k] = true := by
  unfold rowsB at h; rw [List.all_eq_true] at h
  exact h _ (List.getElem_mem hk)
/-- The inputs of player k in rows. -/
def colL (X : Rowi) (k : Nat) : List Int := X.map fun x => x.getD k 0
theorem colL_len (X : Rowi) (k : Nat) : (colL X k).length = X.length := by unfold colL; simp
theorem colL_at {X : Rowi} {k j : Nat} (h : j < X.length) (hk : k < X[j].length) : (colL X k)[j]'(by rw [colL_len]; exact h) = X[j][k] := by
  unfold colL; simp [hk]
/-- The texts of the inputs of the first n players. -/
def colT (X : Rowi) (k : Nat) : List UInt8 := packT (packTr (colL X k))
def colsT (X : Rowi) (n : Nat) : List UInt8 := ((List.range n).map (colT X)).flatten
theorem colsT_zero (X : Rowi) : colsT X 0 = [] := rfl
theorem colsT_succ (X : Rowi) (n : Nat) : colsT X (n + 1) = colsT X n ++ colT X n := by
  unfold colsT; rw [List.range_succ, List.map_append, List.flatten_append]; simp
theorem packT_le (l : List UInt8) : (packT l).length ≤ l.length + 6 := by
  unfold packT
  have := encI_six (l.length : Int)
  simp; omega
theorem colT_len (X : Rowi) (k : Nat) : (colT X k).length ≤ 6 * X.length + 6 := by
  unfold colT
  have h1 := packT_le (packTr (colL X k))
  have h2 := packTr_len (colL X k)
  rw [colL_len] at h2
  omega
theorem colsT_len (X : Rowi) (n : Nat) : (colsT X n).length ≤ n * (6 * X.length + 6) := by
  induction n with
  | zero => simp [colsT_zero]
  | succ n ih =>
    rw [colsT_succ, List.length_append, Nat.succ_mul]
    have := colT_len X n
    omega
end Go.Proofs.YtecimgennncjkaaDoor
