/-
  Rows of rows of ints, and rows of tracks (one cell each as well), as they came in: read, opened, measured. No condition.
-/
import Derived.Test.YtgbdpmaajihfdaaTrk
import Derived.Deep.Slices
namespace Go.Proofs.Ytgbdpmaajihfdaa
open Go.RowKit Go.Joins Go.ChangeShapes Go.WideShapes Go.Deep
set_option linter.all false
abbrev Rowi := List (List Int)
/-- The slice v reads as the rows X. -/
def RdR (w : World) (v : Value) (X : Rowi) : Prop :=
  ∃ a cap, v = .slice a X.length cap ∧ (X = [] ∨ ∃ b off, a = some ⟨b, off, none⟩ ∧ ∀ j (h : j < X.length), ∃ u, w.cell? ⟨b, off + j, none⟩ = some u ∧ RdI w u X[j])
theorem RdR.keep {w w' : World} {v : Value} {X : Rowi} (h : RdR w v X) (hb : Below w.heap.size w w') : RdR w' v X := by
  obtain ⟨a, cap, hv, h⟩ := h
  refine ⟨a, cap, hv, ?_⟩
  rcases h with h | ⟨b, off, ha, hr⟩
  · exact .inl h
  · refine .inr ⟨b, off, ha, fun j hj => ?_⟩
    obtain ⟨u, h1, h2⟩ := hr j hj
    exact ⟨u, by rw [← h1]; exact hb.cell (World.block_lt_of_cell? w _ h1), h2.keep hb⟩
/-- Rows and their list are no longer than a slice can be. -/
def SaneR (X : Rowi) : Prop := X.length ≤ 9223372036854775807 ∧ ∀ x ∈ X, x.length ≤ 9223372036854775807
section
variable {H : Type} {enc : TypeId × Value → H} {w : World} {base : Nat} {spare : Nat → Bool} {held : Bool}
theorem rdR_of_cells {e : TypeId} {a : Addr} {len cap m n : Nat} {V : Nat → Value} (hl : len ≤ cap) (hm : cap ≤ maxLen) (hlm : len ≤ m)
    (hx : ∀ i, i < m → w.cell? (a.add i) = some (V i) ∧ ∃ ls, RdI w (V i) ls ∧ ls.length ≤ 9223372036854775807) : ∃ X, RdR w (.slice (some a) len cap) X ∧ SaneR X := by
  obtain ⟨Z, hZ⟩ := choose_lt (α := List Int) (p := fun i ls => RdI w (V i) ls ∧ ls.length ≤ 9223372036854775807) (n := m) (fun i hi => (hx i hi).2)
  unfold maxLen at hm
  refine ⟨(List.range len).map Z, ⟨some a, cap, by simp, ?_⟩, by simp; omega, ?_⟩
  · by_cases h0 : len = 0
    · subst h0; exact .inl rfl
    · obtain ⟨b, off, spot⟩ := a
      have hc0 := (hx 0 (by omega)).1
      have hspot : spot = none := by simpa [Addr.add] using World.cell?_spot hc0
      subst hspot
      refine .inr ⟨b, off, rfl, fun j hj => ?_⟩
      rw [List.length_map, List.length_range] at hj
      have h1 := (hx j (by omega)).1
      rw [show (⟨b, off, none⟩ : Addr).add j = ⟨b, off + j, none⟩ by unfold Addr.add; split <;> simp_all] at h1
      refine ⟨V j, h1, ?_⟩
      have := (hZ j (by omega)).1
      simpa using this
  · intro s hs
    simp only [List.mem_map, List.mem_range] at hs
    obtain ⟨i, hi, rfl⟩ := hs
    exact (hZ i (by omega)).2
end
def totalR (X : Rowi) : Nat := (X.map List.length).sum
theorem totalR_snoc (X : Rowi) (k : Nat) (hk : k < X.length) : totalR (X.take (k + 1)) = totalR (X.take k) + X[k].length := by
  unfold totalR; rw [List.take_succ_eq_append_getElem hk, List.map_append, List.sum_append]; simp
theorem totalR_mem {X : Rowi} {x : List Int} (h : x ∈ X) : x.length ≤ totalR X := by
  unfold totalR
  induction X with
  | nil => cases h
  | cons a X ih =>
    simp only [List.map_cons, List.sum_cons]
    rcases List.mem_cons.1 h with rfl | h
    · omega
    · have := ih h; omega
def SzR (left : Int) (n t : Nat) (w : World) (e : Ending) (w' : World) : Prop := ∃ r : Int, e = .returned (.int .i64 r) ∧ (r = -1 ∨ (0 ≤ r ∧ r = left - (n : Int) - (t : Int))) ∧ Below w.heap.size w w'
end Go.Proofs.Ytgbdpmaajihfdaa
