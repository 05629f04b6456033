/-
  LevelOk: the contracts of the model and of the program. No condition.
-/
import Derived.Test.YtnjjpeblbfomoaaLvM
import Derived.Test.YtnjjpeblbfomoaaLevel
import Derived.Test.YtnjjpeblbfomoaaSize
import Derived.Test.YtnjjpeblbfomoaaShelf
namespace Go.Proofs.Ytnjjpeblbfomoaa
open Go.RowKit
set_option linter.all false
def boolsV (sn : List Bool) : Array Value := (sn.map Value.bool).toArray
theorem boolsV_set (sn : List Bool) (k : Nat) (hk : k < sn.length) : (boolsV sn).setIfInBounds k (.bool true) = boolsV (sn.set k true) := by
  unfold boolsV; rw [List.map_set]; simp
theorem boolsV_at (sn : List Bool) (k : Nat) (hk : k < sn.length) : (boolsV sn)[k]? = some (.bool (sn.getD k false)) := by
  unfold boolsV; simp [List.getD_eq_getElem?_getD, List.getElem?_eq_getElem hk]
theorem four {sn : List Bool} (h : sn.length = 4) : ∃ a b c d, sn = [a, b, c, d] := by
  match sn, h with
  | [a, b, c, d], _ => exact ⟨a, b, c, d, rfl⟩
/-- The world of a walk over a level: the level's own block, the digits seen, nothing old turned. -/
def LW (w : World) (rv : Value) (sn : List Bool) (wr : World) : Prop := wr.heap[w.heap.size]? = some (.cells #[rv] 71 (0, 0)) ∧ wr.heap[w.heap.size + 1]? = some (.cells (boolsV sn) 4 (0, 0)) ∧ Below w.heap.size w wr
theorem LW.set {w wr : World} {rv : Value} {sn : List Bool} (h : LW w rv sn wr) {k : Nat} (hk : k < sn.length) : LW w rv (sn.set k true) (wr.setCell ⟨w.heap.size + 1, k, none⟩ (.bool true)) := by
  refine ⟨farHeap h.1 (by simp) _, ?_, h.2.2.setCell (by simp) _⟩
  have := setHeap (k := k) (v := .bool true) h.2.1
  rwa [boolsV_set sn k hk] at this
theorem LW.seen {w wr : World} {rv : Value} {sn : List Bool} (h : LW w rv sn wr) {k : Nat} (hk : k < sn.length) : wr.cell? ⟨w.heap.size + 1, k, none⟩ = some (.bool (sn.getD k false)) := by
  rw [rowCells h.2.1 k, boolsV_at sn k hk]
end Go.Proofs.Ytnjjpeblbfomoaa
