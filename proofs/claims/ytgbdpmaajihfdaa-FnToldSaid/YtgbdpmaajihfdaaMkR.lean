/-
  Rows of marks in plain lists; a row of slices that is left alone. No condition.
-/
import Derived.Test.YtgbdpmaajihfdaaRowL
import Derived.Test.YtgbdpmaajihfdaaOin
namespace Go.Proofs.Ytgbdpmaajihfdaa
open Go.RowKit
set_option linter.all false
/-- Rows of marks, as long as the rows X. -/
def marksR (k : Int) : Rowi → Rowi
  | [] => []
  | x :: X => marks k x.length :: marksR (k + x.length) X
theorem marksR_len : ∀ (X : Rowi) (k : Int), (marksR k X).length = X.length
  | [], _ => rfl
  | x :: X, k => by simp [marksR, marksR_len X]
theorem totalR_cons (x : List Int) (X : Rowi) : totalR (x :: X) = x.length + totalR X := by unfold totalR; simp
theorem marksR_at : ∀ (X : Rowi) (k : Int) (j : Nat) (h : j < (marksR k X).length) (h' : j < X.length), (marksR k X)[j] = marks (k + (totalR (X.take j) : Nat)) X[j].length
  | [], _, j, h, _ => by simp [marksR] at h
  | x :: X, k, 0, _, _ => by simp [marksR, totalR]
  | x :: X, k, j + 1, h, h' => by
    simp only [marksR, List.getElem_cons_succ, List.take_succ_cons]
    rw [marksR_at X _ j (by simpa [marksR] using h) (by simpa using h'), totalR_cons]
    congr 1
    omega
theorem totalR_take_le (X : Rowi) (k : Nat) : totalR (X.take k) ≤ totalR X := by
  unfold totalR
  conv => rhs; rw [← List.take_append_drop k X]
  rw [List.map_append, List.sum_append]; omega
theorem ownsRow_far {w w' : World} {B : Nat} {e : TypeId} {v : Value} {n : Nat} {xs : List Value} (h : w.ownsRow B e 1 v n xs) (hk : ∀ g, v.ownBlock = some g → w'.heap[g]? = w.heap[g]?) : w'.ownsRow B e 1 v n xs := by
  obtain ⟨h1, h2⟩ := h
  refine ⟨h1, ?_⟩
  rcases h2 with h2 | ⟨g, cap, cur, rfl, hB, hg, r⟩
  · exact .inl h2
  · exact .inr ⟨g, cap, cur, rfl, hB, by rw [hk g rfl]; exact hg, r⟩
end Go.Proofs.Ytgbdpmaajihfdaa
