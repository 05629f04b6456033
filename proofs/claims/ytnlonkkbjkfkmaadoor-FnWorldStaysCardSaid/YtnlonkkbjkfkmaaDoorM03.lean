/-
  Texts of this proof: Heap, Trk, Row, RowL.
-/
import Derived.Test.YtnlonkkbjkfkmaaDoorM00
import Derived.Test.YtnlonkkbjkfkmaaDoorM02
import Derived.Lib.SmallJoins
import Derived.Deep.Strs
import Derived.Deep.Slices
import Derived.Deep.RegionHeld3
namespace Go.Proofs.YtnlonkkbjkfkmaaDoor
open Go.RowKit
set_option linter.all false

theorem heap_at (w : World) (o : Obj) {k : Nat} (h : k = w.heap.size) : (w.alloc o).heap[k]? = some o := by subst h; exact heap_alloc_new w o
theorem below1 (w : World) (x : Obj) : Below w.heap.size w (w.alloc x) := (Below.refl _ _).alloc (Nat.le_refl _) _
theorem below2 (w : World) (x y : Obj) : Below w.heap.size w ((w.alloc x).alloc y) := (below1 w x).alloc (by simp) _
theorem keepHeap {W W' : World} {k : Nat} {o : Obj} (hb : Below W.heap.size W W') (h : W.heap[k]? = some o) : W'.heap[k]? = some o := by
 have hlt : k < W.heap.size := (Array.getElem?_eq_some_iff.1 h).1
 rw [hb.block k hlt]; exact h
theorem rowCells {W : World} {k : Nat} {xs : Array Value} {t : TypeId} (h : W.heap[k]? = some (.cells xs t (0, 0))) : ∀ j, W.cell? ⟨k, j, none⟩ = xs[j]? := fun j => by rw [Lib.cell_of_heap h]
theorem rows1 (w : World) (xs : Array Value) (t : TypeId) : ∃ W0, w.alloc (.cells xs t) = W0 ∧ W0.heap[w.heap.size]? = some (.cells xs t (0, 0)) ∧ Below w.heap.size w W0 ∧ w.heap.size + 1 ≤ W0.heap.size :=
 ⟨_, rfl, heap_alloc_new w _, below1 _ _, by simp⟩
theorem rows2 (w : World) (xs ys : Array Value) (t u : TypeId) : ∃ W0, (w.alloc (.cells xs t)).alloc (.cells ys u) = W0 ∧ W0.heap[w.heap.size]? = some (.cells xs t (0, 0)) ∧ W0.heap[w.heap.size + 1]? = some (.cells ys u (0, 0)) ∧ Below w.heap.size w W0 ∧ w.heap.size + 2 ≤ W0.heap.size :=
 ⟨_, rfl, keepHeap (below1 _ _) (heap_alloc_new w _), heap_at _ _ (by simp), below2 _ _ _, by simp⟩
theorem rows3 (w : World) (xs ys zs : Array Value) (t u v : TypeId) : ∃ W0, ((w.alloc (.cells xs t)).alloc (.cells ys u)).alloc (.cells zs v) = W0 ∧ W0.heap[w.heap.size]? = some (.cells xs t (0, 0)) ∧ W0.heap[w.heap.size + 1]? = some (.cells ys u (0, 0)) ∧ W0.heap[w.heap.size + 1 + 1]? = some (.cells zs v (0, 0)) ∧ Below w.heap.size w W0 ∧ w.heap.size + 3 ≤ W0.heap.size := by
 obtain ⟨W1, h1, ha, hb, hc, hd⟩ := rows2 w xs ys t u
 have hsz : W1.heap.size = w.heap.size + 2 := by rw [← h1]; simp
 refine ⟨_, rfl, ?_, ?_, ?_, ?_, ?_⟩
 ·rw [h1]; exact keepHeap (below1 _ _) ha
 ·rw [h1]; exact keepHeap (below1 _ _) hb
 ·rw [h1]; exact heap_at _ _ (by omega)
 ·rw [h1]; exact hc.alloc (by omega) _
 ·rw [h1]; simp; omega
theorem frozenHeap {W : World} {k : Nat} {xs : Array Value} {t : TypeId} (h : W.heap[k]? = some (.cells xs t (0, 0))) (i : Nat) : W.frozen? ⟨k, i, none⟩ = false := by simp [World.frozen?, h]
theorem setHeap {w : World} {c k : Nat} {v : Value} {cs : Array Value} {T : TypeId} {fr : Nat × Nat} (h : w.heap[c]? = some (.cells cs T fr)) : (w.setCell ⟨c, k, none⟩ v).heap[c]? = some (.cells (cs.setIfInBounds k v) T fr) := by
 simp [World.setCell, Array.getElem?_modify, h]
theorem farHeap {w : World} {c : Nat} {o : Obj} (h : w.heap[c]? = some o) {p : Addr} (hp : c ≠ p.block) (v : Value) : (w.setCell p v).heap[c]? = some o := (Below.heap_setCell w p v c hp).trans h
theorem belowDrew (w : World) (n : Nat) : Below w.heap.size w (w.drewN n) := ⟨rfl, rfl, rfl, Nat.le_refl _, fun _ _ => rfl⟩
theorem results_two {fn : Func} {p q : Tmp} {ty : TypeId} (h : fn.results = #[.cell p ty, .tmp q]) (tmps : Array Value) (w : World) (g : Nat) (u v : Value) (hp : tmps.getD p undef = .pointer (some ⟨g, 0, none⟩)) (hq : tmps.getD q undef = v) (hL : (loadVar ty ⟨g, 0, none⟩).run Tryd.prog w = .ok u w) :
  (results fn tmps).run Tryd.prog w = .ok (.tuple #[u, v]) w := by
 have hp' : tmps[p]?.getD undef = .pointer (some ⟨g, 0, none⟩) := by simpa using hp
 have hq' : tmps[q]?.getD undef = v := by simpa using hq
 simp [results, h, hp', hq', asAddr, hL]
end Go.Proofs.YtnlonkkbjkfkmaaDoor
namespace Go.Proofs.YtnlonkkbjkfkmaaDoor
open Go.RowKit Go.Joins Go.ChangeShapes Go.WideShapes Go.Deep
set_option linter.all false
theorem RowI.far {w : World} {b : Nat} {xs : List Int} (h : RowI w b xs) {p : Addr} (hp : p.block ≠ b) (u : Value) : RowI (w.setCell p u) b xs := by
 refine ⟨fun j hj => ?_, fun j hj => ?_⟩
 ·rw [World.cell?_setCell_other _ _ _ _ (by intro e; apply hp; rw [e])]
  exact h.1 j hj
 ·rw [World.frozen?_setCell]; exact h.2 j hj
theorem OwnI.far {w : World} {B : Nat} {v : Value} {xs : List Int} (h : OwnI w B v xs) {p : Addr} (hp : p.block < B) (u : Value) : OwnI (w.setCell p u) B v xs := by
 obtain ⟨a, cap, hv, h⟩ := h
 refine ⟨a, cap, hv, ?_⟩
 rcases h with h | ⟨b, hB, ha, hr⟩
 ·exact .inl h
 ·exact .inr ⟨b, hB, ha, hr.far (by omega) u⟩
def CapI (v : Value) : Prop := ∃ a n c, v = .slice a n c ∧ n ≤ c
section
variable {H : Type} {enc : TypeId × Value → H} {w : World} {base : Nat} {spare : Nat → Bool} {held : Bool}
end
end Go.Proofs.YtnlonkkbjkfkmaaDoor
namespace Go.Proofs.YtnlonkkbjkfkmaaDoor
open Go.RowKit Go.Joins Go.ChangeShapes Go.WideShapes Go.Deep
set_option linter.all false
abbrev Rowi := List (List Int)
def RdR (w : World) (v : Value) (X : Rowi) : Prop :=
 ∃ a cap, v = .slice a X.length cap ∧ (X = [] ∨ ∃ b off, a = some ⟨b, off, none⟩ ∧ ∀ j (h : j < X.length), ∃ u, w.cell? ⟨b, off + j, none⟩ = some u ∧ RdI w u X[j])
theorem RdR.keep {w w' : World} {v : Value} {X : Rowi} (h : RdR w v X) (hb : Below w.heap.size w w') : RdR w' v X := by
 obtain ⟨a, cap, hv, h⟩ := h
 refine ⟨a, cap, hv, ?_⟩
 rcases h with h | ⟨b, off, ha, hr⟩
 ·exact .inl h
 ·refine .inr ⟨b, off, ha, fun j hj => ?_⟩
  obtain ⟨u, h1, h2⟩ := hr j hj
  exact ⟨u, by rw [← h1]; exact hb.cell (World.block_lt_of_cell? w _ h1), h2.keep hb⟩
section
variable {H : Type} {enc : TypeId × Value → H} {w : World} {base : Nat} {spare : Nat → Bool} {held : Bool}
end
end Go.Proofs.YtnlonkkbjkfkmaaDoor
namespace Go.Proofs.YtnlonkkbjkfkmaaDoor
open Go.RowKit
set_option linter.all false
def RowW (w : World) (g C : Nat) (X : Rowi) : Prop := (∀ j (h : j < X.length), ∃ u, w.cell? ⟨g, j, none⟩ = some u ∧ OwnI w C u X[j]) ∧ ∀ j, j < X.length → w.frozen? ⟨g, j, none⟩ = false
def WrR (w : World) (B : Nat) (v : Value) (X : Rowi) : Prop := ∃ a cap, v = .slice a X.length cap ∧ (X = [] ∨ ∃ g, B ≤ g ∧ a = some ⟨g, 0, none⟩ ∧ RowW w g (g + 1) X)
theorem WrR.rd {w : World} {B : Nat} {v : Value} {X : Rowi} (h : WrR w B v X) : RdR w v X := by
 obtain ⟨a, cap, hv, h⟩ := h
 refine ⟨a, cap, hv, ?_⟩
 rcases h with h | ⟨g, hB, ha, hr⟩
 ·exact .inl h
 ·refine .inr ⟨g, 0, ha, fun j hj => ?_⟩
  obtain ⟨u, h1, h2⟩ := hr.1 j hj
  exact ⟨u, by rw [Nat.zero_add]; exact h1, h2.rd⟩
theorem RowW.keep {w w' : World} {g C : Nat} {X : Rowi} (h : RowW w g C X) (hb : Below w.heap.size w w') (hg : g < w.heap.size) : RowW w' g C X :=
 ⟨fun j hj => by obtain ⟨u, h1, h2⟩ := h.1 j hj; exact ⟨u, by rw [← h1]; exact hb.cell hg, h2.keep hb⟩, fun j hj => by rw [← h.2 j hj]; exact hb.frozen hg⟩
theorem RowW.lt {w : World} {g C : Nat} {X : Rowi} (h : RowW w g C X) (hx : X ≠ []) : g < w.heap.size := by
 have : 0 < X.length := List.length_pos_iff.2 hx
 obtain ⟨u, h1, -⟩ := h.1 0 this
 exact World.block_lt_of_cell? w _ h1
theorem WrR.keep {w w' : World} {B : Nat} {v : Value} {X : Rowi} (h : WrR w B v X) (hb : Below w.heap.size w w') : WrR w' B v X := by
 obtain ⟨a, cap, hv, h⟩ := h
 refine ⟨a, cap, hv, ?_⟩
 by_cases hx : X = []
 ·exact .inl hx
 rcases h with h | ⟨g, hB, ha, hr⟩
 ·exact .inl h
 ·exact .inr ⟨g, hB, ha, hr.keep hb (hr.lt hx)⟩
theorem WrR.up {w : World} {B C : Nat} {v : Value} {X : Rowi} (h : WrR w B v X) (hC : C ≤ B) : WrR w C v X := by
 obtain ⟨a, cap, hv, h⟩ := h
 refine ⟨a, cap, hv, ?_⟩
 rcases h with h | ⟨g, hB, ha, hr⟩
 ·exact .inl h
 ·exact .inr ⟨g, by omega, ha, hr⟩
theorem RowW.set {w : World} {g : Nat} {X : Rowi} (h : RowW w g (g + 1) X) (k : Nat) (hk : k < X.length) {u : Value} {x : List Int} (hu : OwnI w (g + 1) u x) : RowW (w.setCell ⟨g, k, none⟩ u) g (g + 1) (X.set k x) := by
 refine ⟨fun j hj => ?_, fun j hj => ?_⟩
 ·rw [List.length_set] at hj
  by_cases e : k = j
  ·subst e
   obtain ⟨u', h1, -⟩ := h.1 k hk
   exact ⟨u, World.cell?_setCell_same _ _ _ h1, by rw [List.getElem_set_self]; exact hu.far (by simp) _⟩
  ·obtain ⟨u', h1, h2⟩ := h.1 j hj
   refine ⟨u', ?_, by rw [List.getElem_set_ne e]; exact h2.far (by simp) _⟩
   rw [World.cell?_setCell_other _ _ _ _ (by simpa using e)]
   exact h1
 ·rw [List.length_set] at hj
  rw [World.frozen?_setCell]; exact h.2 j hj
theorem RowW.zeros (w : World) (n C : Nat) (t : TypeId) : RowW (w.alloc (.cells (madeCells #[.slice none 0 0] n) t)) w.heap.size C (List.replicate n []) := by
 refine ⟨fun j hj => ⟨.slice none 0 0, ?_, ?_⟩, fun j hj => ?_⟩
 ·rw [List.length_replicate] at hj
  rw [World.cell?_alloc_mark, ← Array.getElem?_toList, toList_madeCells_one]
  simp [hj]
 ·rw [List.getElem_replicate]; exact ⟨none, 0, rfl, .inl rfl⟩
 ·rw [World.frozen?_alloc_mark]; simp
theorem info_IntSS : (Tryd.prog.info? 27).map (fun i => (i.zero, i.size, i.bytes)) = some (some (.slice none 0 0), 1, 24) := by kernel_rfl
end Go.Proofs.YtnlonkkbjkfkmaaDoor
