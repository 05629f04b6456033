/-
  Arguments that a law has written over: only numbers in their own blocks change. Lists of at most 2^20 rows and numbers.
-/
import Derived.Test.YtgbdpmaajihfdaaRowL
namespace Go.Proofs.Ytgbdpmaajihfdaa
open Go.RowKit
set_option linter.all false
/-- From w to w' numbers in blocks from B up to T have changed, and blocks have come; nothing else. -/
def IntCh (B T : Nat) (w w' : World) : Prop := Below B w w' ∧ (∀ j, T ≤ j → j < w.heap.size → w'.heap[j]? = w.heap[j]?) ∧ (∀ p u, w.cell? p = some (.int .i64 u) → ∃ u', w'.cell? p = some (.int .i64 u')) ∧ (∀ p a l c, w.cell? p = some (.slice a l c) → w'.cell? p = some (.slice a l c)) ∧ ∀ p : Addr, p.block < w.heap.size → w'.frozen? p = w.frozen? p
theorem IntCh.trans {B T : Nat} {w w1 w2 : World} (h : IntCh B T w w1) (h' : IntCh B T w1 w2) : IntCh B T w w2 := by
  obtain ⟨a1, a2, a3, a4, a5⟩ := h
  obtain ⟨b1, b2, b3, b4, b5⟩ := h'
  have hs := a1.size
  refine ⟨a1.trans b1, fun j hj hl => (b2 j hj (by omega)).trans (a2 j hj hl), fun p u hp => ?_, fun p a l c hp => b4 _ _ _ _ (a4 _ _ _ _ hp), fun p hp => (b5 p (by omega)).trans (a5 p hp)⟩
  obtain ⟨u', h1⟩ := a3 p u hp
  exact b3 p u' h1
theorem IntCh.of_below {B T : Nat} {w w' : World} (hb : Below w.heap.size w w') (hB : B ≤ w.heap.size) : IntCh B T w w' :=
  ⟨hb.mono hB, fun j _ hl => hb.block j hl, fun p u hp => ⟨u, by rw [← hp]; exact hb.cell (World.block_lt_of_cell? w _ hp)⟩, fun p a l c hp => by rw [← hp]; exact hb.cell (World.block_lt_of_cell? w _ hp), fun p hp => hb.frozen hp⟩
theorem IntCh.set {B T : Nat} (w : World) {b k : Nat} {u : Int} (hc : w.cell? ⟨b, k, none⟩ = some (.int .i64 u)) (hB : B ≤ b) (hT : b < T) (n : Int) : IntCh B T w (w.setCell ⟨b, k, none⟩ (.int .i64 n)) := by
  refine ⟨(Below.refl _ _).setCell hB _, fun j hj _ => Below.heap_setCell _ _ _ j (by simp; omega), fun p u' hp => ?_, fun p a l c hp => ?_, fun p _ => World.frozen?_setCell _ _ _ _⟩
  · by_cases e : p = ⟨b, k, none⟩
    · subst e; exact ⟨n, World.cell?_setCell_same _ _ _ hc⟩
    · exact ⟨u', by rw [World.cell?_setCell_other _ _ _ _ (fun h => e h.symm)]; exact hp⟩
  · have e : ¬ (⟨b, k, none⟩ : Addr) = p := by intro e; rw [← e, hc] at hp; simp at hp
    rw [World.cell?_setCell_other _ _ _ _ e]; exact hp
theorem OwnI.ch {B T : Nat} {w w' : World} {v : Value} {xs : List Int} (h : OwnI w T v xs) (hc : IntCh B T w w') : OwnI w' T v xs := by
  obtain ⟨a, cap, hv, h⟩ := h
  refine ⟨a, cap, hv, ?_⟩
  by_cases hx : xs = []
  · exact .inl hx
  rcases h with h | ⟨b, hB, ha, hr⟩
  · exact .inl h
  · have hl := hr.lt hx
    have he := hc.2.1 b hB hl
    refine .inr ⟨b, hB, ha, fun j hj => ?_, fun j hj => ?_⟩
    · rw [World.cell?_of_block (w := w) he]; exact hr.1 j hj
    · rw [hc.2.2.2.2 _ hl]; exact hr.2 j hj
/-- n numbers in a block from B up to T that may be written. -/
def MkI (w : World) (B T : Nat) (v : Value) (n : Nat) : Prop := ∃ a cap, v = .slice a n cap ∧ (n = 0 ∨ ∃ b, B ≤ b ∧ b < T ∧ b < w.heap.size ∧ a = some ⟨b, 0, none⟩ ∧ ∀ j, j < n → (∃ u, w.cell? ⟨b, j, none⟩ = some (.int .i64 u)) ∧ w.frozen? ⟨b, j, none⟩ = false)
theorem MkI.of_own {w : World} {B C : Nat} {v : Value} {xs : List Int} (h : OwnI w C v xs) (hB : B ≤ C) : MkI w B w.heap.size v xs.length := by
  obtain ⟨a, cap, hv, h⟩ := h
  refine ⟨a, cap, hv, ?_⟩
  by_cases hx : xs = []
  · exact .inl (by rw [hx]; rfl)
  rcases h with h | ⟨b, hC, ha, hr⟩
  · exact absurd h hx
  · have hl := hr.lt hx
    exact .inr ⟨b, by omega, hl, hl, ha, fun j hj => ⟨⟨_, hr.1 j hj⟩, hr.2 j hj⟩⟩
theorem MkI.ch {w w' : World} {B T : Nat} {v : Value} {n : Nat} (h : MkI w B T v n) (hc : IntCh B T w w') : MkI w' B T v n := by
  obtain ⟨a, cap, hv, h⟩ := h
  refine ⟨a, cap, hv, ?_⟩
  rcases h with h | ⟨b, hB, hT, hl, ha, hr⟩
  · exact .inl h
  · have hs := hc.1.size
    refine .inr ⟨b, hB, hT, by omega, ha, fun j hj => ?_⟩
    obtain ⟨⟨u, h1⟩, h2⟩ := hr j hj
    exact ⟨hc.2.2.1 _ _ h1, by rw [hc.2.2.2.2 _ hl]; exact h2⟩
theorem MkI.slice {w : World} {B T : Nat} {v : Value} {n : Nat} (h : MkI w B T v n) : ∃ a cap, v = .slice a n cap := by
  obtain ⟨a, cap, hv, -⟩ := h; exact ⟨a, cap, hv⟩
/-- Rows of numbers that may be written. -/
def MkR (w : World) (B T : Nat) (v : Value) (X : Rowi) : Prop := ∃ a cap, v = .slice a X.length cap ∧ (X = [] ∨ ∃ g, a = some ⟨g, 0, none⟩ ∧ ∀ j (h : j < X.length), ∃ u, w.cell? ⟨g, j, none⟩ = some u ∧ MkI w B T u X[j].length)
theorem MkR.of_wr {w : World} {B : Nat} {v : Value} {X : Rowi} (h : WrR w B v X) : MkR w B w.heap.size v X := by
  obtain ⟨a, cap, hv, h⟩ := h
  refine ⟨a, cap, hv, ?_⟩
  rcases h with h | ⟨g, hB, ha, hr⟩
  · exact .inl h
  · refine .inr ⟨g, ha, fun j hj => ?_⟩
    obtain ⟨u, h1, h2⟩ := hr.1 j hj
    exact ⟨u, h1, MkI.of_own h2 (by omega)⟩
theorem MkR.ch {w w' : World} {B T : Nat} {v : Value} {X : Rowi} (h : MkR w B T v X) (hc : IntCh B T w w') : MkR w' B T v X := by
  obtain ⟨a, cap, hv, h⟩ := h
  refine ⟨a, cap, hv, ?_⟩
  rcases h with h | ⟨g, ha, hr⟩
  · exact .inl h
  · refine .inr ⟨g, ha, fun j hj => ?_⟩
    obtain ⟨u, h1, h2⟩ := hr j hj
    obtain ⟨a', c', rfl⟩ := h2.slice
    exact ⟨_, hc.2.2.2.1 _ _ _ _ h1, h2.ch hc⟩
end Go.Proofs.Ytgbdpmaajihfdaa
