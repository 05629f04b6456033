/-
  Texts of this proof: Bds.
-/
import Derived.Test.YtehjafaobaoleaaDoorM10
import Derived.Test.YtehjafaobaoleaaDoorM04
import Derived.Deep.Slices
import Derived.Deep.MidRow
import Derived.Deep.Fields
import Derived.ChangeSame
namespace Go.Proofs.YtehjafaobaoleaaDoor
open Go.RowKit Go.Joins Go.ChangeShapes Go.WideShapes Go.Deep
set_option linter.all false
instance : Inhabited Bd := ⟨⟨0, 0, 0, 0, 0, 0, 0, 0, 0⟩⟩
def bdL (b : Bd) : List Value := [.int .i64 b.kind, .int .i64 b.owner, .int .i64 b.x, .int .i64 b.y, .int .i64 b.vx, .int .i64 b.vy, .int .i64 b.aim, .int .i64 b.life, .int .i64 b.timer]
theorem bdL_len (b : Bd) : (bdL b).length = 9 := rfl
theorem bdL_one (b : Bd) : ∀ v ∈ bdL b, v.oneCell' = true := by intro v hv; simp [bdL] at hv; rcases hv with rfl | rfl | rfl | rfl | rfl | rfl | rfl | rfl | rfl <;> rfl
theorem rangeLt {w : World} {b o : Nat} {d : Bd} (h : w.rangeAt b o (bdL d)) : b < w.heap.size := World.block_lt_of_cell? w _ (h 0 _ rfl)
def RdBd (w : World) (v : Value) (X : List Bd) : Prop :=
 ∃ a cap, v = .slice a X.length cap ∧ (X = [] ∨ ∃ b off, a = some ⟨b, off, none⟩ ∧ ∀ j (h : j < X.length), w.rangeAt b (off + j * 9) (bdL X[j]))
def RowBd (w : World) (g : Nat) (X : List Bd) : Prop := ∀ j (h : j < X.length), w.rangeAt g (j * 9) (bdL X[j]) ∧ w.there g (j * 9) 9
def OwnBd (w : World) (B : Nat) (v : Value) (X : List Bd) : Prop :=
 ∃ a cap, v = .slice a X.length cap ∧ (X = [] ∨ ∃ g, B ≤ g ∧ a = some ⟨g, 0, none⟩ ∧ RowBd w g X)
theorem OwnBd.rd {w : World} {B : Nat} {v : Value} {X : List Bd} (h : OwnBd w B v X) : RdBd w v X := by
 obtain ⟨a, cap, hv, h⟩ := h
 refine ⟨a, cap, hv, ?_⟩
 rcases h with h | ⟨g, hB, ha, hr⟩
 ·exact .inl h
 ·exact .inr ⟨g, 0, ha, fun j hj => by rw [Nat.zero_add]; exact (hr j hj).1⟩
theorem RdBd.keep {w w' : World} {v : Value} {X : List Bd} (h : RdBd w v X) (hb : Below w.heap.size w w') : RdBd w' v X := by
 obtain ⟨a, cap, hv, h⟩ := h
 refine ⟨a, cap, hv, ?_⟩
 rcases h with h | ⟨b, off, ha, hr⟩
 ·exact .inl h
 ·exact .inr ⟨b, off, ha, fun j hj => rangeKeep (hr j hj) hb (rangeLt (hr j hj))⟩
theorem RowBd.lt {w : World} {g : Nat} {X : List Bd} (h : RowBd w g X) (hx : X ≠ []) : g < w.heap.size := rangeLt (h 0 (List.length_pos_iff.2 hx)).1
theorem RowBd.keep {w w' : World} {g : Nat} {X : List Bd} (h : RowBd w g X) {C : Nat} (hb : Below C w w') (hC : g < C) : RowBd w' g X :=
 fun j hj => ⟨rangeKeep (h j hj).1 hb hC, thereKeep (h j hj).2 hb hC⟩
theorem OwnBd.keep {w w' : World} {B : Nat} {v : Value} {X : List Bd} (h : OwnBd w B v X) (hb : Below w.heap.size w w') : OwnBd w' B v X := by
 obtain ⟨a, cap, hv, h⟩ := h
 refine ⟨a, cap, hv, ?_⟩
 by_cases hx : X = []
 ·exact .inl hx
 ·obtain ⟨g, hB, ha, hr⟩ := h.resolve_left hx
  exact .inr ⟨g, hB, ha, hr.keep hb (hr.lt hx)⟩
theorem OwnBd.up {w : World} {B C : Nat} {v : Value} {X : List Bd} (h : OwnBd w B v X) (hC : C ≤ B) : OwnBd w C v X := by
 obtain ⟨a, cap, hv, h⟩ := h
 refine ⟨a, cap, hv, ?_⟩
 rcases h with h | ⟨g, hB, ha, hr⟩
 ·exact .inl h
 ·exact .inr ⟨g, by omega, ha, hr⟩
theorem RowBd.far {w : World} {g : Nat} {X : List Bd} (h : RowBd w g X) {p : Addr} (hp : p.block ≠ g) (u : Value) : RowBd (w.setCell p u) g X :=
 fun j hj => ⟨rangeFar (h j hj).1 hp u, thereFar (h j hj).2 hp u⟩
theorem OwnBd.far {w : World} {B : Nat} {v : Value} {X : List Bd} (h : OwnBd w B v X) {p : Addr} (hp : p.block < B) (u : Value) : OwnBd (w.setCell p u) B v X := by
 obtain ⟨a, cap, hv, h⟩ := h
 refine ⟨a, cap, hv, ?_⟩
 rcases h with h | ⟨b, hB, ha, hr⟩
 ·exact .inl h
 ·exact .inr ⟨b, hB, ha, hr.far (by omega) u⟩
theorem RowBd.put {w : World} {g : Nat} {X : List Bd} (h : RowBd w g X) (k : Nat) (hk : k < X.length) (b : Bd) : RowBd (w.setCells g (k * 9) (bdL b)) g (X.set k b) := by
 intro j hj0
 have hj : j < X.length := by rw [List.length_set] at hj0; exact hj0
 refine ⟨?_, World.there_setCells (h j hj).2 _ _ _⟩
 by_cases e : k = j
 ·subst e
  rw [List.getElem_set_self]
  exact World.rangeAt_setCells_same _ _ _ _ (h k hk).2
 ·rw [List.getElem_set_ne e]
  exact World.rangeAt_setCells_apart (h j hj).1 _ _ _ (by rw [bdL_len, bdL_len]; omega)
def Bd.set (b : Bd) (i : Nat) (n : Int) : Bd :=
 match i with
 | 0 => { b with kind := n } | 1 => { b with owner := n } | 2 => { b with x := n } | 3 => { b with y := n } | 4 => { b with vx := n }
 | 5 => { b with vy := n } | 6 => { b with aim := n } | 7 => { b with life := n } | _ => { b with timer := n }
end Go.Proofs.YtehjafaobaoleaaDoor
