/-
  What the laws do with rows of rows: measuring, copying, comparing. Lists of at most 2^20 rows and numbers.
-/
import Derived.Test.YtgbdpmaajihfdaaRow
import Derived.Deep.RegionHeld3
namespace Go.Proofs.Ytgbdpmaajihfdaa
open Go.RowKit
set_option linter.all false
/-- Block g holds the rows X, each in a block from C on, and its cells may be written. -/
def RowW (w : World) (g C : Nat) (X : Rowi) : Prop := (∀ j (h : j < X.length), ∃ u, w.cell? ⟨g, j, none⟩ = some u ∧ OwnI w C u X[j]) ∧ ∀ j, j < X.length → w.frozen? ⟨g, j, none⟩ = false
def WrR (w : World) (B : Nat) (v : Value) (X : Rowi) : Prop := ∃ a cap, v = .slice a X.length cap ∧ (X = [] ∨ ∃ g, B ≤ g ∧ a = some ⟨g, 0, none⟩ ∧ RowW w g (g + 1) X)
theorem WrR.rd {w : World} {B : Nat} {v : Value} {X : Rowi} (h : WrR w B v X) : RdR w v X := by
  obtain ⟨a, cap, hv, h⟩ := h
  refine ⟨a, cap, hv, ?_⟩
  rcases h with h | ⟨g, hB, ha, hr⟩
  · exact .inl h
  · refine .inr ⟨g, 0, ha, fun j hj => ?_⟩
    obtain ⟨u, h1, h2⟩ := hr.1 j hj
    exact ⟨u, by rw [Nat.zero_add]; exact h1, h2.rd⟩
theorem RowW.keep {w w' : World} {g C : Nat} {X : Rowi} (h : RowW w g C X) (hb : Below w.heap.size w w') (hg : g < w.heap.size) : RowW w' g C X :=
  ⟨fun j hj => by obtain ⟨u, h1, h2⟩ := h.1 j hj; exact ⟨u, by rw [← h1]; exact hb.cell hg, h2.keep hb⟩, fun j hj => by rw [← h.2 j hj]; exact hb.frozen hg⟩
theorem RowW.lt {w : World} {g C : Nat} {X : Rowi} (h : RowW w g C X) (hx : X ≠ []) : g < w.heap.size := by
  have : 0 < X.length := List.length_pos_iff.2 hx
  obtain ⟨u, h1, -⟩ := h.1 0 this
  exact World.block_lt_of_cell? w _ h1
theorem WrR.keep {w w' : World} {B : Nat} {v : Value} {X : Rowi} (h : WrR w B v X) (hb : Below w.heap.size w w') : WrR w' B v X := by
  obtain ⟨a, cap, hv, h⟩ := h
  refine ⟨a, cap, hv, ?_⟩
  by_cases hx : X = []
  · exact .inl hx
  rcases h with h | ⟨g, hB, ha, hr⟩
  · exact .inl h
  · exact .inr ⟨g, hB, ha, hr.keep hb (hr.lt hx)⟩
theorem WrR.up {w : World} {B C : Nat} {v : Value} {X : Rowi} (h : WrR w B v X) (hC : C ≤ B) : WrR w C v X := by
  obtain ⟨a, cap, hv, h⟩ := h
  refine ⟨a, cap, hv, ?_⟩
  rcases h with h | ⟨g, hB, ha, hr⟩
  · exact .inl h
  · exact .inr ⟨g, by omega, ha, hr⟩
theorem RowW.set {w : World} {g : Nat} {X : Rowi} (h : RowW w g (g + 1) X) (k : Nat) (hk : k < X.length) {u : Value} {x : List Int} (hu : OwnI w (g + 1) u x) : RowW (w.setCell ⟨g, k, none⟩ u) g (g + 1) (X.set k x) := by
  refine ⟨fun j hj => ?_, fun j hj => ?_⟩
  · rw [List.length_set] at hj
    by_cases e : k = j
    · subst e
      obtain ⟨u', h1, -⟩ := h.1 k hk
      exact ⟨u, World.cell?_setCell_same _ _ _ h1, by rw [List.getElem_set_self]; exact hu.far (by simp) _⟩
    · obtain ⟨u', h1, h2⟩ := h.1 j hj
      refine ⟨u', ?_, by rw [List.getElem_set_ne e]; exact h2.far (by simp) _⟩
      rw [World.cell?_setCell_other _ _ _ _ (by simpa using e)]
      exact h1
  · rw [List.length_set] at hj
    rw [World.frozen?_setCell]; exact h.2 j hj
theorem RowW.zeros (w : World) (n C : Nat) (t : TypeId) : RowW (w.alloc (.cells (madeCells #[.slice none 0 0] n) t)) w.heap.size C (List.replicate n []) := by
  refine ⟨fun j hj => ⟨.slice none 0 0, ?_, ?_⟩, fun j hj => ?_⟩
  · rw [List.length_replicate] at hj
    rw [World.cell?_alloc_mark, ← Array.getElem?_toList, toList_madeCells_one]
    simp [hj]
  · rw [List.getElem_replicate]; exact ⟨none, 0, rfl, .inl rfl⟩
  · rw [World.frozen?_alloc_mark]; simp
theorem info_TrackS : (Try.prog.info? 29).map (fun i => (i.zero, i.size, i.bytes)) = some (some (.agg #[.slice none 0 0]), 1, 24) := by kernel_rfl
theorem info_IntSS : (Try.prog.info? 27).map (fun i => (i.zero, i.size, i.bytes)) = some (some (.slice none 0 0), 1, 24) := by kernel_rfl
end Go.Proofs.Ytgbdpmaajihfdaa
