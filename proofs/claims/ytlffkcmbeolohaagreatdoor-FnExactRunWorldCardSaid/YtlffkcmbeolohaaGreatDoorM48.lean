/-
  Texts of this proof: MkQ.
-/
import Derived.Test.YtlffkcmbeolohaaGreatDoorM15
import Derived.Test.YtlffkcmbeolohaaGreatDoorM35
namespace Go.Proofs.YtlffkcmbeolohaaGreatDoor
open Go.RowKit
set_option linter.all false
def MkQ (w : World) (B T : Nat) (v : Value) (X : Rowi) : Prop := ∃ a cap, v = .slice a X.length cap ∧ (X = [] ∨ ∃ g, B ≤ g ∧ g < w.heap.size ∧ a = some ⟨g, 0, none⟩ ∧ ∀ j (h : j < X.length), ∃ u, w.cell? ⟨g, j, none⟩ = some u ∧ MkI w B T u X[j].length)
theorem MkQ.mk {w : World} {B T : Nat} {v : Value} {X : Rowi} (h : MkQ w B T v X) : MkR w B T v X := by
  obtain ⟨a, cap, hv, h⟩ := h
  refine ⟨a, cap, hv, ?_⟩
  rcases h with h | ⟨g, -, -, ha, hr⟩
  · exact .inl h
  · exact .inr ⟨g, ha, hr⟩
theorem MkQ.of_wr {w : World} {B : Nat} {v : Value} {X : Rowi} (h : WrR w B v X) : MkQ w B w.heap.size v X := by
  obtain ⟨a, cap, hv, h⟩ := h
  refine ⟨a, cap, hv, ?_⟩
  by_cases hx : X = []
  · exact .inl hx
  rcases h with h | ⟨g, hB, ha, hr⟩
  · exact .inl h
  · refine .inr ⟨g, hB, hr.lt hx, ha, fun j hj => ?_⟩
    obtain ⟨u, h1, h2⟩ := hr.1 j hj
    exact ⟨u, h1, MkI.of_own h2 (by omega)⟩
theorem MkI.same {w w' : World} {B T : Nat} {v : Value} {n : Nat} (h : MkI w B T v n) (he : ∀ b, B ≤ b → b < w.heap.size → w'.heap[b]? = w.heap[b]?) (hs : w.heap.size ≤ w'.heap.size) : MkI w' B T v n := by
  obtain ⟨a, cap, hv, h⟩ := h
  refine ⟨a, cap, hv, ?_⟩
  rcases h with h | ⟨b, hB, hT, hl, ha, hr⟩
  · exact .inl h
  · have hh := he b hB hl
    refine .inr ⟨b, hB, hT, by omega, ha, fun j hj => ?_⟩
    obtain ⟨⟨u, h1⟩, h2⟩ := hr j hj
    exact ⟨⟨u, by rw [World.cell?_of_block (w := w) hh]; exact h1⟩, by rw [frozen_of_block hh]; exact h2⟩
theorem MkQ.same {w w' : World} {B T : Nat} {v : Value} {X : Rowi} (h : MkQ w B T v X) (he : ∀ b, B ≤ b → b < w.heap.size → w'.heap[b]? = w.heap[b]?) (hs : w.heap.size ≤ w'.heap.size) : MkQ w' B T v X := by
  obtain ⟨a, cap, hv, h⟩ := h
  refine ⟨a, cap, hv, ?_⟩
  rcases h with h | ⟨g, hB, hl, ha, hr⟩
  · exact .inl h
  · have hh := he g hB hl
    refine .inr ⟨g, hB, by omega, ha, fun j hj => ?_⟩
    obtain ⟨u, h1, h2⟩ := hr j hj
    exact ⟨u, by rw [World.cell?_of_block (w := w) hh]; exact h1, h2.same he hs⟩
end Go.Proofs.YtlffkcmbeolohaaGreatDoor
