/-
  Texts of this proof: Heap, Trk, Row.
-/
import Derived.Test.YtehjafaobaoleaaDoorM00
import Derived.Test.YtehjafaobaoleaaDoorM03
import Derived.Lib.SmallJoins
import Derived.Deep.Strs
import Derived.Deep.Slices
namespace Go.Proofs.YtehjafaobaoleaaDoor
open Go.RowKit
set_option linter.all false

theorem heap_at (w : World) (o : Obj) {k : Nat} (h : k = w.heap.size) : (w.alloc o).heap[k]? = some o := by subst h; exact heap_alloc_new w o
theorem below1 (w : World) (x : Obj) : Below w.heap.size w (w.alloc x) := (Below.refl _ _).alloc (Nat.le_refl _) _
theorem below2 (w : World) (x y : Obj) : Below w.heap.size w ((w.alloc x).alloc y) := (below1 w x).alloc (by simp) _
theorem keepHeap {W W' : World} {k : Nat} {o : Obj} (hb : Below W.heap.size W W') (h : W.heap[k]? = some o) : W'.heap[k]? = some o := by
 have hlt : k < W.heap.size := (Array.getElem?_eq_some_iff.1 h).1
 rw [hb.block k hlt]; exact h
theorem rowCells {W : World} {k : Nat} {xs : Array Value} {t : TypeId} (h : W.heap[k]? = some (.cells xs t (0, 0))) : ∀ j, W.cell? ⟨k, j, none⟩ = xs[j]? := fun j => by rw [Lib.cell_of_heap h]
theorem rows1 (w : World) (xs : Array Value) (t : TypeId) : ∃ W0, w.alloc (.cells xs t) = W0 ∧ W0.heap[w.heap.size]? = some (.cells xs t (0, 0)) ∧ Below w.heap.size w W0 ∧ w.heap.size + 1 ≤ W0.heap.size :=
 ⟨_, rfl, heap_alloc_new w _, below1 _ _, by simp⟩
theorem rows2 (w : World) (xs ys : Array Value) (t u : TypeId) : ∃ W0, (w.alloc (.cells xs t)).alloc (.cells ys u) = W0 ∧ W0.heap[w.heap.size]? = some (.cells xs t (0, 0)) ∧ W0.heap[w.heap.size + 1]? = some (.cells ys u (0, 0)) ∧ Below w.heap.size w W0 ∧ w.heap.size + 2 ≤ W0.heap.size :=
 ⟨_, rfl, keepHeap (below1 _ _) (heap_alloc_new w _), heap_at _ _ (by simp), below2 _ _ _, by simp⟩
theorem frozenHeap {W : World} {k : Nat} {xs : Array Value} {t : TypeId} (h : W.heap[k]? = some (.cells xs t (0, 0))) (i : Nat) : W.frozen? ⟨k, i, none⟩ = false := by simp [World.frozen?, h]
theorem setHeap {w : World} {c k : Nat} {v : Value} {cs : Array Value} {T : TypeId} {fr : Nat × Nat} (h : w.heap[c]? = some (.cells cs T fr)) : (w.setCell ⟨c, k, none⟩ v).heap[c]? = some (.cells (cs.setIfInBounds k v) T fr) := by
 simp [World.setCell, Array.getElem?_modify, h]
theorem farHeap {w : World} {c : Nat} {o : Obj} (h : w.heap[c]? = some o) {p : Addr} (hp : c ≠ p.block) (v : Value) : (w.setCell p v).heap[c]? = some o := (Below.heap_setCell w p v c hp).trans h
theorem belowDrew (w : World) (n : Nat) : Below w.heap.size w (w.drewN n) := ⟨rfl, rfl, rfl, Nat.le_refl _, fun _ _ => rfl⟩
theorem results_two {fn : Func} {p q : Tmp} {ty : TypeId} (h : fn.results = #[.cell p ty, .tmp q]) (tmps : Array Value) (w : World) (g : Nat) (u v : Value) (hp : tmps.getD p undef = .pointer (some ⟨g, 0, none⟩)) (hq : tmps.getD q undef = v) (hL : (loadVar ty ⟨g, 0, none⟩).run Tryd.prog w = .ok u w) :
  (results fn tmps).run Tryd.prog w = .ok (.tuple #[u, v]) w := by
 have hp' : tmps[p]?.getD undef = .pointer (some ⟨g, 0, none⟩) := by simpa using hp
 have hq' : tmps[q]?.getD undef = v := by simpa using hq
 simp [results, h, hp', hq', asAddr, hL]
end Go.Proofs.YtehjafaobaoleaaDoor
namespace Go.Proofs.YtehjafaobaoleaaDoor
open Go.RowKit Go.Joins Go.ChangeShapes Go.WideShapes Go.Deep
set_option linter.all false
theorem RowI.far {w : World} {b : Nat} {xs : List Int} (h : RowI w b xs) {p : Addr} (hp : p.block ≠ b) (u : Value) : RowI (w.setCell p u) b xs := by
 refine ⟨fun j hj => ?_, fun j hj => ?_⟩
 ·rw [World.cell?_setCell_other _ _ _ _ (by intro e; apply hp; rw [e])]
  exact h.1 j hj
 ·rw [World.frozen?_setCell]; exact h.2 j hj
theorem OwnI.far {w : World} {B : Nat} {v : Value} {xs : List Int} (h : OwnI w B v xs) {p : Addr} (hp : p.block < B) (u : Value) : OwnI (w.setCell p u) B v xs := by
 obtain ⟨a, cap, hv, h⟩ := h
 refine ⟨a, cap, hv, ?_⟩
 rcases h with h | ⟨b, hB, ha, hr⟩
 ·exact .inl h
 ·exact .inr ⟨b, hB, ha, hr.far (by omega) u⟩
def CapI (v : Value) : Prop := ∃ a n c, v = .slice a n c ∧ n ≤ c
section
variable {H : Type} {enc : TypeId × Value → H} {w : World} {base : Nat} {spare : Nat → Bool} {held : Bool}
end
end Go.Proofs.YtehjafaobaoleaaDoor
namespace Go.Proofs.YtehjafaobaoleaaDoor
open Go.RowKit Go.Joins Go.ChangeShapes Go.WideShapes Go.Deep
set_option linter.all false
abbrev Rowi := List (List Int)
def RdR (w : World) (v : Value) (X : Rowi) : Prop :=
 ∃ a cap, v = .slice a X.length cap ∧ (X = [] ∨ ∃ b off, a = some ⟨b, off, none⟩ ∧ ∀ j (h : j < X.length), ∃ u, w.cell? ⟨b, off + j, none⟩ = some u ∧ RdI w u X[j])
theorem RdR.keep {w w' : World} {v : Value} {X : Rowi} (h : RdR w v X) (hb : Below w.heap.size w w') : RdR w' v X := by
 obtain ⟨a, cap, hv, h⟩ := h
 refine ⟨a, cap, hv, ?_⟩
 rcases h with h | ⟨b, off, ha, hr⟩
 ·exact .inl h
 ·refine .inr ⟨b, off, ha, fun j hj => ?_⟩
  obtain ⟨u, h1, h2⟩ := hr j hj
  exact ⟨u, by rw [← h1]; exact hb.cell (World.block_lt_of_cell? w _ h1), h2.keep hb⟩
section
variable {H : Type} {enc : TypeId × Value → H} {w : World} {base : Nat} {spare : Nat → Bool} {held : Bool}
end
end Go.Proofs.YtehjafaobaoleaaDoor
