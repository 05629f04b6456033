/-
  What a mark leaves alone: only blocks between two bounds change.
-/
import Derived.Test.YtgbdpmaajihfdaaMrk
import Derived.Test.YtgbdpmaajihfdaaOin
namespace Go.Proofs.Ytgbdpmaajihfdaa
open Go.RowKit
set_option linter.all false
/-- From w to w' blocks from lo up to hi have changed, and blocks have come; nothing else. -/
def FarB (lo hi : Nat) (w w' : World) : Prop := Below lo w w' ∧ ∀ j, hi ≤ j → j < w.heap.size → w'.heap[j]? = w.heap[j]?
theorem IntCh.farB {B T : Nat} {w w' : World} (h : IntCh B T w w') : FarB B T w w' := ⟨h.1, h.2.1⟩
theorem FarB.trans {lo hi : Nat} {w w1 w2 : World} (h : FarB lo hi w w1) (h' : FarB lo hi w1 w2) : FarB lo hi w w2 := by
  have hs := h.1.size
  exact ⟨h.1.trans h'.1, fun j hj hl => (h'.2 j hj (by omega)).trans (h.2 j hj hl)⟩
theorem FarB.wide {lo hi l h : Nat} {w w' : World} (hf : FarB l h w w') (h1 : lo ≤ l) (h2 : h ≤ hi) : FarB lo hi w w' := ⟨hf.1.mono h1, fun j hj hl => hf.2 j (by omega) hl⟩
theorem FarB.of_below {lo hi : Nat} {w w' : World} (hb : Below w.heap.size w w') (hl : lo ≤ w.heap.size) : FarB lo hi w w' := ⟨hb.mono hl, fun j _ h => hb.block j h⟩
theorem keepHeapFar {lo hi : Nat} {w w' : World} {k : Nat} {o : Obj} (hf : FarB lo hi w w') (h : w.heap[k]? = some o) (hk : k < lo ∨ hi ≤ k) : w'.heap[k]? = some o := by
  have hlt : k < w.heap.size := (Array.getElem?_eq_some_iff.1 h).1
  rcases hk with hk | hk
  · rw [hf.1.block k hk]; exact h
  · rw [hf.2 k hk hlt]; exact h
theorem blockLt {w : World} {k : Nat} {o : Obj} (h : w.heap[k]? = some o) : k < w.heap.size := (Array.getElem?_eq_some_iff.1 h).1
theorem OwnIn.keep {w w' : World} {lo hi : Nat} {v : Value} {xs : List Int} (h : OwnIn w lo hi v xs) (hb : Below w.heap.size w w') : OwnIn w' lo hi v xs := by
  obtain ⟨a, cap, rfl, h⟩ := h
  refine ⟨a, cap, rfl, ?_⟩
  by_cases hx : xs = []
  · exact .inl hx
  · obtain ⟨b, h1, h2, rfl, hr⟩ := h.resolve_left hx
    exact .inr ⟨b, h1, h2, rfl, hr.same (hb.block b (hr.lt hx))⟩
theorem OwnIn.afar {w w' : World} {lo hi l1 h1 : Nat} {v : Value} {xs : List Int} (h : OwnIn w l1 h1 v xs) (hf : FarB lo hi w w') (hle : hi ≤ l1) : OwnIn w' l1 h1 v xs := by
  obtain ⟨a, cap, rfl, h⟩ := h
  refine ⟨a, cap, rfl, ?_⟩
  by_cases hx : xs = []
  · exact .inl hx
  · obtain ⟨b, hb1, hb2, rfl, hr⟩ := h.resolve_left hx
    exact .inr ⟨b, hb1, hb2, rfl, hr.same (hf.2 b (by omega) (hr.lt hx))⟩
theorem OwnIn.apart2 {w w' : World} {lo hi l1 h1 : Nat} {v : Value} {xs : List Int} (h : OwnIn w l1 h1 v xs) (hf : FarB lo hi w w') (hd : hi ≤ l1 ∨ h1 ≤ lo) : OwnIn w' l1 h1 v xs := by
  obtain ⟨a, cap, rfl, h⟩ := h
  refine ⟨a, cap, rfl, ?_⟩
  by_cases hx : xs = []
  · exact .inl hx
  · obtain ⟨b, hb1, hb2, rfl, hr⟩ := h.resolve_left hx
    refine .inr ⟨b, hb1, hb2, rfl, hr.same ?_⟩
    rcases hd with hd | hd
    · exact hf.2 b (by omega) (hr.lt hx)
    · exact hf.1.block b (by omega)
theorem OwnIn.low {w w' : World} {lo hi B : Nat} {v : Value} {xs : List Int} (h : OwnIn w lo hi v xs) (hb : Below B w w') (hle : hi ≤ B) : OwnIn w' lo hi v xs := by
  obtain ⟨a, cap, rfl, h⟩ := h
  refine ⟨a, cap, rfl, ?_⟩
  by_cases hx : xs = []
  · exact .inl hx
  · obtain ⟨b, hb1, hb2, rfl, hr⟩ := h.resolve_left hx
    exact .inr ⟨b, hb1, hb2, rfl, hr.same (hb.block b (by omega))⟩
theorem OwnIn.rd {w : World} {lo hi : Nat} {v : Value} {xs : List Int} (h : OwnIn w lo hi v xs) : RdI w v xs := h.own.rd
end Go.Proofs.Ytgbdpmaajihfdaa
