/-
  Blocks of a world that are known whole. No condition.
-/
import Derived.Test.YtgbdpmaajihfdaaBase
namespace Go.Proofs.Ytgbdpmaajihfdaa
open Go.RowKit
set_option linter.all false

theorem heap_at (w : World) (o : Obj) {k : Nat} (h : k = w.heap.size) : (w.alloc o).heap[k]? = some o := by subst h; exact heap_alloc_new w o
theorem below1 (w : World) (x : Obj) : Below w.heap.size w (w.alloc x) := (Below.refl _ _).alloc (Nat.le_refl _) _
theorem below2 (w : World) (x y : Obj) : Below w.heap.size w ((w.alloc x).alloc y) := (below1 w x).alloc (by simp) _
theorem keepHeap {W W' : World} {k : Nat} {o : Obj} (hb : Below W.heap.size W W') (h : W.heap[k]? = some o) : W'.heap[k]? = some o := by
  have hlt : k < W.heap.size := (Array.getElem?_eq_some_iff.1 h).1
  rw [hb.block k hlt]; exact h
theorem rowCells {W : World} {k : Nat} {xs : Array Value} {t : TypeId} (h : W.heap[k]? = some (.cells xs t (0, 0))) : ∀ j, W.cell? ⟨k, j, none⟩ = xs[j]? := fun j => by rw [Lib.cell_of_heap h]
theorem rows1 (w : World) (xs : Array Value) (t : TypeId) : ∃ W0, w.alloc (.cells xs t) = W0 ∧ W0.heap[w.heap.size]? = some (.cells xs t (0, 0)) ∧ Below w.heap.size w W0 ∧ w.heap.size + 1 ≤ W0.heap.size :=
  ⟨_, rfl, heap_alloc_new w _, below1 _ _, by simp⟩
theorem rows2 (w : World) (xs ys : Array Value) (t u : TypeId) : ∃ W0, (w.alloc (.cells xs t)).alloc (.cells ys u) = W0 ∧ W0.heap[w.heap.size]? = some (.cells xs t (0, 0)) ∧ W0.heap[w.heap.size + 1]? = some (.cells ys u (0, 0)) ∧ Below w.heap.size w W0 ∧ w.heap.size + 2 ≤ W0.heap.size :=
  ⟨_, rfl, keepHeap (below1 _ _) (heap_alloc_new w _), heap_at _ _ (by simp), below2 _ _ _, by simp⟩
theorem rows3 (w : World) (xs ys zs : Array Value) (t u v : TypeId) : ∃ W0, ((w.alloc (.cells xs t)).alloc (.cells ys u)).alloc (.cells zs v) = W0 ∧ W0.heap[w.heap.size]? = some (.cells xs t (0, 0)) ∧ W0.heap[w.heap.size + 1]? = some (.cells ys u (0, 0)) ∧ W0.heap[w.heap.size + 1 + 1]? = some (.cells zs v (0, 0)) ∧ Below w.heap.size w W0 ∧ w.heap.size + 3 ≤ W0.heap.size := by
  obtain ⟨W1, h1, ha, hb, hc, hd⟩ := rows2 w xs ys t u
  have hsz : W1.heap.size = w.heap.size + 2 := by rw [← h1]; simp
  refine ⟨_, rfl, ?_, ?_, ?_, ?_, ?_⟩
  · rw [h1]; exact keepHeap (below1 _ _) ha
  · rw [h1]; exact keepHeap (below1 _ _) hb
  · rw [h1]; exact heap_at _ _ (by omega)
  · rw [h1]; exact hc.alloc (by omega) _
  · rw [h1]; simp; omega
theorem frozenHeap {W : World} {k : Nat} {xs : Array Value} {t : TypeId} (h : W.heap[k]? = some (.cells xs t (0, 0))) (i : Nat) : W.frozen? ⟨k, i, none⟩ = false := by simp [World.frozen?, h]
theorem setHeap {w : World} {c k : Nat} {v : Value} {cs : Array Value} {T : TypeId} {fr : Nat × Nat} (h : w.heap[c]? = some (.cells cs T fr)) : (w.setCell ⟨c, k, none⟩ v).heap[c]? = some (.cells (cs.setIfInBounds k v) T fr) := by
  simp [World.setCell, Array.getElem?_modify, h]
theorem farHeap {w : World} {c : Nat} {o : Obj} (h : w.heap[c]? = some o) {p : Addr} (hp : c ≠ p.block) (v : Value) : (w.setCell p v).heap[c]? = some o := (Below.heap_setCell w p v c hp).trans h
theorem belowDrew (w : World) (n : Nat) : Below w.heap.size w (w.drewN n) := ⟨rfl, rfl, rfl, Nat.le_refl _, fun _ _ => rfl⟩
theorem results_two {fn : Func} {p q : Tmp} {ty : TypeId} (h : fn.results = #[.cell p ty, .tmp q]) (tmps : Array Value) (w : World) (g : Nat) (u v : Value) (hp : tmps.getD p undef = .pointer (some ⟨g, 0, none⟩)) (hq : tmps.getD q undef = v) (hL : (loadVar ty ⟨g, 0, none⟩).run Try.prog w = .ok u w) :
    (results fn tmps).run Try.prog w = .ok (.tuple #[u, v]) w := by
  have hp' : tmps[p]?.getD undef = .pointer (some ⟨g, 0, none⟩) := by simpa using hp
  have hq' : tmps[q]?.getD undef = v := by simpa using hq
  simp [results, h, hp', hq', asAddr, hL]
end Go.Proofs.Ytgbdpmaajihfdaa
