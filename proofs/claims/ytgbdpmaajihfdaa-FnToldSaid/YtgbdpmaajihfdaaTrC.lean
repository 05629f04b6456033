/-
  toTrackS with the room of its rows. Lists of at most 2^20 rows and numbers.
-/
import Derived.Test.YtgbdpmaajihfdaaTrM
import Derived.Test.YtgbdpmaajihfdaaRowL
namespace Go.Proofs.Ytgbdpmaajihfdaa
open Go.RowKit
set_option linter.all false
/-- Each cell of block g up to n is a slice with its room. -/
def CapG (w : World) (g n : Nat) : Prop := ∀ j, j < n → ∃ u, w.cell? ⟨g, j, none⟩ = some u ∧ CapI u
/-- Each row that v shows is a slice with its room. -/
def CapR (w : World) (v : Value) (X : Rowi) : Prop := X = [] ∨ ∃ b off cap, v = .slice (some ⟨b, off, none⟩) X.length cap ∧ ∀ j, j < X.length → ∃ u, w.cell? ⟨b, off + j, none⟩ = some u ∧ CapI u
theorem CapR.keep {w w' : World} {v : Value} {X : Rowi} (h : CapR w v X) (hb : Below w.heap.size w w') : CapR w' v X := by
  rcases h with h | ⟨b, off, cap, hv, h⟩
  · exact .inl h
  · refine .inr ⟨b, off, cap, hv, fun j hj => ?_⟩
    obtain ⟨u, h1, h2⟩ := h j hj
    exact ⟨u, (hb.cell (World.block_lt_of_cell? w _ h1)).trans h1, h2⟩
theorem CapG.keep {w w' : World} {g n : Nat} (h : CapG w g n) (hb : Below w.heap.size w w') (hg : g < w.heap.size) : CapG w' g n := fun j hj => by
  obtain ⟨u, h1, h2⟩ := h j hj
  exact ⟨u, (hb.cell hg).trans h1, h2⟩
theorem CapG.set {w : World} {g n : Nat} (h : CapG w g n) (k : Nat) {u : Value} (hu : CapI u) : CapG (w.setCell ⟨g, k, none⟩ u) g n := fun j hj => by
  obtain ⟨u', h1, h2⟩ := h j hj
  by_cases e : k = j
  · subst e; exact ⟨u, World.cell?_setCell_same _ _ _ h1, hu⟩
  · exact ⟨u', by rw [World.cell?_setCell_other _ _ _ _ (by simpa using e)]; exact h1, h2⟩
theorem CapG.zeros (w : World) (n : Nat) (t : TypeId) : CapG (w.alloc (.cells (madeCells #[.slice none 0 0] n) t)) w.heap.size n := fun j hj => by
  refine ⟨.slice none 0 0, ?_, none, 0, 0, rfl, Nat.le_refl _⟩
  rw [World.cell?_alloc_mark, ← Array.getElem?_toList, toList_madeCells_one]
  simp [hj]
end Go.Proofs.Ytgbdpmaajihfdaa
