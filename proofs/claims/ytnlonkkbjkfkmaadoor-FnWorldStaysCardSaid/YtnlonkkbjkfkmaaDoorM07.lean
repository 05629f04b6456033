/-
  Texts of this proof: OpenB, Rng, Bds.
-/
import Derived.Test.YtnlonkkbjkfkmaaDoorM06
import Derived.Lib.SmallJoins
import Derived.Test.YtnlonkkbjkfkmaaDoorM03
import Derived.Deep.Slices
import Derived.Deep.MidRow
import Derived.Deep.Fields
import Derived.ChangeSame
namespace Go.Proofs.YtnlonkkbjkfkmaaDoor
open Go.RowKit Go.Joins Go.ChangeShapes Go.WideShapes Go.Deep
set_option linter.all false
section
variable {H : Type} {enc : TypeId × Value → H} {P : Program} {w : World} {base : Nat} {spare : Nat → Bool} {held : Bool}
end
def Bd.fits (b : Bd) : Prop := (Lit.int .i64 b.kind).wf = true ∧ (Lit.int .i64 b.owner).wf = true ∧ (Lit.int .i64 b.x).wf = true ∧ (Lit.int .i64 b.y).wf = true ∧ (Lit.int .i64 b.vx).wf = true ∧ (Lit.int .i64 b.vy).wf = true ∧ (Lit.int .i64 b.aim).wf = true ∧ (Lit.int .i64 b.life).wf = true ∧ (Lit.int .i64 b.timer).wf = true
end Go.Proofs.YtnlonkkbjkfkmaaDoor
namespace Go.Proofs.YtnlonkkbjkfkmaaDoor
open Go.RowKit Go.Joins Go.ChangeShapes Go.WideShapes Go.Deep
set_option linter.all false
theorem rangeKeep {w w' : World} {b o C : Nat} {cs : List Value} (h : w.rangeAt b o cs) (hb : Below C w w') (hC : b < C) : w'.rangeAt b o cs := fun j v hv => by rw [← h j v hv]; exact hb.cell hC
theorem thereKeep {w w' : World} {b o n C : Nat} (h : w.there b o n) (hb : Below C w w') (hC : b < C) : w'.there b o n := fun j hj => by
 have hc : w'.cell? ⟨b, o + j, none⟩ = w.cell? ⟨b, o + j, none⟩ := hb.cell hC
 have hf : w'.frozen? ⟨b, o + j, none⟩ = w.frozen? ⟨b, o + j, none⟩ := hb.frozen hC
 rw [hc, hf]; exact h j hj
theorem rangeFar {w : World} {b o : Nat} {cs : List Value} (h : w.rangeAt b o cs) {p : Addr} (hp : p.block ≠ b) (u : Value) : (w.setCell p u).rangeAt b o cs := fun j v hv => by
 rw [World.cell?_setCell_other _ _ _ _ (by intro e; apply hp; rw [e])]; exact h j v hv
theorem thereFar {w : World} {b o n : Nat} (h : w.there b o n) {p : Addr} (hp : p.block ≠ b) (u : Value) : (w.setCell p u).there b o n := fun j hj => by
 rw [World.cell?_setCell_other _ _ _ _ (by intro e; apply hp; rw [e]), World.frozen?_setCell]; exact h j hj
theorem rangeSame {w w' : World} {b o : Nat} {cs : List Value} (h : w.rangeAt b o cs) (he : w'.heap[b]? = w.heap[b]?) : w'.rangeAt b o cs := fun j v hv => by rw [World.cell?_of_block (w := w) he]; exact h j v hv
theorem thereSame {w w' : World} {b o n : Nat} (h : w.there b o n) (he : w'.heap[b]? = w.heap[b]?) : w'.there b o n := fun j hj => by
 rw [World.cell?_of_block (w := w) he, show w'.frozen? ⟨b, o + j, none⟩ = w.frozen? ⟨b, o + j, none⟩ by simp [World.frozen?, he]]; exact h j hj
section
variable {H : Type} {enc : TypeId × Value → H} {P : Program} {w : World} {base : Nat} {spare : Nat → Bool} {held : Bool}
end
theorem heap_setCells (b : Nat) : ∀ (vs : List Value) (o : Nat) (w : World) (j : Nat), j ≠ b → (w.setCells b o vs).heap[j]? = w.heap[j]?
 | [], _, _, _, _ => rfl
 | v :: r, o, w, j, hj => by
  rw [World.setCells, heap_setCells b r (o + 1) _ j hj]
  exact Below.heap_setCell _ _ _ j hj
theorem belowCells {B : Nat} {w0 : World} {b : Nat} (hB : B ≤ b) : ∀ (vs : List Value) (o : Nat) (w : World), Below B w0 w → Below B w0 (w.setCells b o vs)
 | [], _, _, h => h
 | v :: r, o, w, h => by
  rw [World.setCells]
  exact belowCells hB r (o + 1) _ (h.setCell hB _)
section
variable {H : Type} {enc : TypeId × Value → H} {w : World} {base : Nat} {spare : Nat → Bool} {held : Bool}
end
end Go.Proofs.YtnlonkkbjkfkmaaDoor
namespace Go.Proofs.YtnlonkkbjkfkmaaDoor
open Go.RowKit Go.Joins Go.ChangeShapes Go.WideShapes Go.Deep
set_option linter.all false
instance : Inhabited Bd := ⟨⟨0, 0, 0, 0, 0, 0, 0, 0, 0⟩⟩
def bdL (b : Bd) : List Value := [.int .i64 b.kind, .int .i64 b.owner, .int .i64 b.x, .int .i64 b.y, .int .i64 b.vx, .int .i64 b.vy, .int .i64 b.aim, .int .i64 b.life, .int .i64 b.timer]
theorem bdL_len (b : Bd) : (bdL b).length = 9 := rfl
theorem bdL_one (b : Bd) : ∀ v ∈ bdL b, v.oneCell' = true := by intro v hv; simp [bdL] at hv; rcases hv with rfl | rfl | rfl | rfl | rfl | rfl | rfl | rfl | rfl <;> rfl
theorem rangeLt {w : World} {b o : Nat} {d : Bd} (h : w.rangeAt b o (bdL d)) : b < w.heap.size := World.block_lt_of_cell? w _ (h 0 _ rfl)
def RdBd (w : World) (v : Value) (X : List Bd) : Prop :=
 ∃ a cap, v = .slice a X.length cap ∧ (X = [] ∨ ∃ b off, a = some ⟨b, off, none⟩ ∧ ∀ j (h : j < X.length), w.rangeAt b (off + j * 9) (bdL X[j]))
def RowBd (w : World) (g : Nat) (X : List Bd) : Prop := ∀ j (h : j < X.length), w.rangeAt g (j * 9) (bdL X[j]) ∧ w.there g (j * 9) 9
def OwnBd (w : World) (B : Nat) (v : Value) (X : List Bd) : Prop :=
 ∃ a cap, v = .slice a X.length cap ∧ (X = [] ∨ ∃ g, B ≤ g ∧ a = some ⟨g, 0, none⟩ ∧ RowBd w g X)
theorem OwnBd.rd {w : World} {B : Nat} {v : Value} {X : List Bd} (h : OwnBd w B v X) : RdBd w v X := by
 obtain ⟨a, cap, hv, h⟩ := h
 refine ⟨a, cap, hv, ?_⟩
 rcases h with h | ⟨g, hB, ha, hr⟩
 ·exact .inl h
 ·exact .inr ⟨g, 0, ha, fun j hj => by rw [Nat.zero_add]; exact (hr j hj).1⟩
theorem RdBd.keep {w w' : World} {v : Value} {X : List Bd} (h : RdBd w v X) (hb : Below w.heap.size w w') : RdBd w' v X := by
 obtain ⟨a, cap, hv, h⟩ := h
 refine ⟨a, cap, hv, ?_⟩
 rcases h with h | ⟨b, off, ha, hr⟩
 ·exact .inl h
 ·exact .inr ⟨b, off, ha, fun j hj => rangeKeep (hr j hj) hb (rangeLt (hr j hj))⟩
theorem RowBd.lt {w : World} {g : Nat} {X : List Bd} (h : RowBd w g X) (hx : X ≠ []) : g < w.heap.size := rangeLt (h 0 (List.length_pos_iff.2 hx)).1
theorem RowBd.keep {w w' : World} {g : Nat} {X : List Bd} (h : RowBd w g X) {C : Nat} (hb : Below C w w') (hC : g < C) : RowBd w' g X :=
 fun j hj => ⟨rangeKeep (h j hj).1 hb hC, thereKeep (h j hj).2 hb hC⟩
theorem OwnBd.keep {w w' : World} {B : Nat} {v : Value} {X : List Bd} (h : OwnBd w B v X) (hb : Below w.heap.size w w') : OwnBd w' B v X := by
 obtain ⟨a, cap, hv, h⟩ := h
 refine ⟨a, cap, hv, ?_⟩
 by_cases hx : X = []
 ·exact .inl hx
 ·obtain ⟨g, hB, ha, hr⟩ := h.resolve_left hx
  exact .inr ⟨g, hB, ha, hr.keep hb (hr.lt hx)⟩
theorem OwnBd.up {w : World} {B C : Nat} {v : Value} {X : List Bd} (h : OwnBd w B v X) (hC : C ≤ B) : OwnBd w C v X := by
 obtain ⟨a, cap, hv, h⟩ := h
 refine ⟨a, cap, hv, ?_⟩
 rcases h with h | ⟨g, hB, ha, hr⟩
 ·exact .inl h
 ·exact .inr ⟨g, by omega, ha, hr⟩
theorem RowBd.far {w : World} {g : Nat} {X : List Bd} (h : RowBd w g X) {p : Addr} (hp : p.block ≠ g) (u : Value) : RowBd (w.setCell p u) g X :=
 fun j hj => ⟨rangeFar (h j hj).1 hp u, thereFar (h j hj).2 hp u⟩
theorem OwnBd.far {w : World} {B : Nat} {v : Value} {X : List Bd} (h : OwnBd w B v X) {p : Addr} (hp : p.block < B) (u : Value) : OwnBd (w.setCell p u) B v X := by
 obtain ⟨a, cap, hv, h⟩ := h
 refine ⟨a, cap, hv, ?_⟩
 rcases h with h | ⟨b, hB, ha, hr⟩
 ·exact .inl h
 ·exact .inr ⟨b, hB, ha, hr.far (by omega) u⟩
theorem RowBd.put {w : World} {g : Nat} {X : List Bd} (h : RowBd w g X) (k : Nat) (hk : k < X.length) (b : Bd) : RowBd (w.setCells g (k * 9) (bdL b)) g (X.set k b) := by
 intro j hj0
 have hj : j < X.length := by rw [List.length_set] at hj0; exact hj0
 refine ⟨?_, World.there_setCells (h j hj).2 _ _ _⟩
 by_cases e : k = j
 ·subst e
  rw [List.getElem_set_self]
  exact World.rangeAt_setCells_same _ _ _ _ (h k hk).2
 ·rw [List.getElem_set_ne e]
  exact World.rangeAt_setCells_apart (h j hj).1 _ _ _ (by rw [bdL_len, bdL_len]; omega)
def Bd.set (b : Bd) (i : Nat) (n : Int) : Bd :=
 match i with
 | 0 => { b with kind := n } | 1 => { b with owner := n } | 2 => { b with x := n } | 3 => { b with y := n } | 4 => { b with vx := n }
 | 5 => { b with vy := n } | 6 => { b with aim := n } | 7 => { b with life := n } | _ => { b with timer := n }
theorem bdL_set (b : Bd) (n : Int) : ∀ i, i < 9 → bdL (b.set i n) = (bdL b).set i (.int .i64 n)
 | 0, _ => rfl | 1, _ => rfl | 2, _ => rfl | 3, _ => rfl | 4, _ => rfl | 5, _ => rfl | 6, _ => rfl | 7, _ => rfl | 8, _ => rfl
 | i + 9, h => by omega
section
variable {H : Type} {enc : TypeId × Value → H} {w : World} {base : Nat} {spare : Nat → Bool} {held : Bool}
end
end Go.Proofs.YtnlonkkbjkfkmaaDoor
