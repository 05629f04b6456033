/-
  A row of ints of the call's own whose block lies between two bounds; the marks on it. Lists of at most 2^20 numbers.
-/
import Derived.Test.YtgbdpmaajihfdaaRowL
namespace Go.Proofs.Ytgbdpmaajihfdaa
open Go.RowKit
set_option linter.all false
/-- A row of the call's own in a block from lo up to hi. -/
def OwnIn (w : World) (lo hi : Nat) (v : Value) (xs : List Int) : Prop := ∃ a cap, v = .slice a xs.length cap ∧ (xs = [] ∨ ∃ b, lo ≤ b ∧ b < hi ∧ a = some ⟨b, 0, none⟩ ∧ RowI w b xs)
theorem OwnIn.of {w : World} {B : Nat} {v : Value} {xs : List Int} (h : OwnI w B v xs) : OwnIn w B w.heap.size v xs := by
  obtain ⟨a, cap, hv, h⟩ := h
  refine ⟨a, cap, hv, ?_⟩
  by_cases hx : xs = []
  · exact .inl hx
  rcases h with h | ⟨b, hB, ha, hr⟩
  · exact .inl h
  · exact .inr ⟨b, hB, hr.lt hx, ha, hr⟩
theorem OwnIn.own {w : World} {lo hi : Nat} {v : Value} {xs : List Int} (h : OwnIn w lo hi v xs) : OwnI w lo v xs := by
  obtain ⟨a, cap, hv, h⟩ := h
  refine ⟨a, cap, hv, ?_⟩
  rcases h with h | ⟨b, hB, _, ha, hr⟩
  · exact .inl h
  · exact .inr ⟨b, hB, ha, hr⟩
theorem OwnIn.wide {w : World} {lo hi lo' hi' : Nat} {v : Value} {xs : List Int} (h : OwnIn w lo hi v xs) (h1 : lo' ≤ lo) (h2 : hi ≤ hi') : OwnIn w lo' hi' v xs := by
  obtain ⟨a, cap, hv, h⟩ := h
  refine ⟨a, cap, hv, ?_⟩
  rcases h with h | ⟨b, hB, hb, ha, hr⟩
  · exact .inl h
  · exact .inr ⟨b, by omega, by omega, ha, hr⟩
theorem frozen_of_block {w w' : World} {b : Nat} (h : w'.heap[b]? = w.heap[b]?) (j : Nat) : w'.frozen? ⟨b, j, none⟩ = w.frozen? ⟨b, j, none⟩ := by simp [World.frozen?, h]
theorem RowI.same {w w' : World} {b : Nat} {xs : List Int} (h : RowI w b xs) (he : w'.heap[b]? = w.heap[b]?) : RowI w' b xs :=
  ⟨fun j hj => by rw [World.cell?_of_block (w := w) he]; exact h.1 j hj, fun j hj => by rw [frozen_of_block he]; exact h.2 j hj⟩
theorem OwnIn.same {w w' : World} {lo hi : Nat} {v : Value} {xs : List Int} (h : OwnIn w lo hi v xs) (he : xs ≠ [] → ∀ b, lo ≤ b → b < hi → v.ownBlock = some b → w'.heap[b]? = w.heap[b]?) : OwnIn w' lo hi v xs := by
  obtain ⟨a, cap, rfl, h⟩ := h
  refine ⟨a, cap, rfl, ?_⟩
  by_cases hx : xs = []
  · exact .inl hx
  rcases h with h | ⟨b, hB, hb, rfl, hr⟩
  · exact .inl h
  · exact .inr ⟨b, hB, hb, rfl, hr.same (he hx b hB hb rfl)⟩
theorem OwnIn.far {w : World} {lo hi : Nat} {v : Value} {xs : List Int} (h : OwnIn w lo hi v xs) {p : Addr} (hp : p.block < lo) (u : Value) : OwnIn (w.setCell p u) lo hi v xs := by
  obtain ⟨a, cap, rfl, h⟩ := h
  refine ⟨a, cap, rfl, ?_⟩
  rcases h with h | ⟨b, h1, h2, rfl, hr⟩
  · exact .inl h
  · exact .inr ⟨b, h1, h2, rfl, hr.far (by omega) u⟩
end Go.Proofs.Ytgbdpmaajihfdaa
