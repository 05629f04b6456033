/-
  Texts of this proof: NwI, MoveI, MoveP.
-/
import Derived.Test.YtehjafaobaoleaaDoorM30
import Derived.Test.YtehjafaobaoleaaDoorM33
import Derived.Test.YtehjafaobaoleaaDoorM21
import Derived.Deep.Cut
import Derived.Deep.CutBlock
import Derived.Test.YtehjafaobaoleaaDoorM20
namespace Go.Proofs.YtehjafaobaoleaaDoor
open Go.RowKit
set_option linter.all false
theorem putW_farB (w : World) (c : Nat) (x : Wd) (vl vs vb : Value) : FarB c (c + 1) w (putW w c x vl vs vb) :=
 ⟨putW_below (Below.refl _ _) (Nat.le_refl _) x vl vs vb, fun j hj _ => by
  unfold putW
  repeat (rw [Below.heap_setCell _ _ _ j (by show j ≠ c; omega)])⟩
theorem ownW_zero (w : World) (B : Nat) (hB : B ≤ w.heap.size) : OwnWIn w B w.heap.size wd0 (.slice none 0 0) (.slice none 0 0) (.slice none 0 0) :=
 ⟨B, B, B, B, B, B, ⟨Nat.le_refl _, Nat.le_refl _, hB⟩, ⟨Nat.le_refl _, Nat.le_refl _, hB⟩, ⟨Nat.le_refl _, Nat.le_refl _, hB⟩, .inl (Nat.le_refl _), .inl (Nat.le_refl _), .inl (Nat.le_refl _), ⟨none, 0, rfl, .inl rfl⟩, .inl rfl, ⟨none, 0, rfl, .inl rfl⟩, ⟨none, 0, rfl, .inl rfl⟩⟩
def RetNw (w : World) (L : Rowz) (n s : Int) (e : Ending) (w' : World) : Prop := ∃ vl vs vb, e = .returned (.tuple #[.agg (wdC (nwX L n s) vl vs vb), .bool (nwOk L n s)]) ∧ OwnWIn w' w.heap.size w'.heap.size (nwX L n s) vl vs vb ∧ CapW vl vs vb ∧ Below w.heap.size w w'
def frs (L : Rowz) (k : Nat) : List Bd := (List.range k).map fun (j : Nat) => freshB L j
def NwR (w3 wr : World) (p : Nat) (vl vs vb : Value) (s : Int) (X : List Bd) : Prop := wr.heap[p]? = some (.cells #[vl, .int .i64 0, .int .i64 s, vs, vb] 30 (0, 0)) ∧ OwnRB wr w3.heap.size vb X ∧ Below p w3 wr ∧ (∀ j, j < w3.heap.size → j ≠ p → wr.heap[j]? = w3.heap[j]?) ∧ w3.heap.size ≤ wr.heap.size
theorem NwR.far {w3 wr : World} {p : Nat} {vl vs vb : Value} {s : Int} {X : List Bd} (h : NwR w3 wr p vl vs vb s X) : FarB p (p + 1) w3 wr := ⟨h.2.2.1, fun j h1 h2 => h.2.2.2.1 j h2 (by omega)⟩
theorem range_made (w : World) (b : Bd) (T : TypeId) : (w.alloc (.cells #[.int .i64 b.kind, .int .i64 b.owner, .int .i64 b.x, .int .i64 b.y, .int .i64 b.vx, .int .i64 b.vy, .int .i64 b.aim, .int .i64 b.life, .int .i64 b.timer] T)).rangeAt w.heap.size 0 (bdL b) := by
 intro i v hv
 rw [Nat.zero_add, cell_of_row _ w.heap.size i _ _ (0, 0) (heap_alloc_new w _), ← hv]
 unfold bdL
 simp
theorem capW_nil : CapW (.slice none 0 0) (.slice none 0 0) (.slice none 0 0) := ⟨⟨_, _, _, rfl, Nat.le_refl _⟩, ⟨_, _, _, rfl, Nat.le_refl _⟩, ⟨_, _, _, rfl, Nat.le_refl _⟩⟩
end Go.Proofs.YtehjafaobaoleaaDoor
namespace Go.Proofs.YtehjafaobaoleaaDoor
open Go.RowKit
set_option linter.all false
end Go.Proofs.YtehjafaobaoleaaDoor
namespace Go.Proofs.YtehjafaobaoleaaDoor
open Go.RowKit
set_option linter.all false
end Go.Proofs.YtehjafaobaoleaaDoor
