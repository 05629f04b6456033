/-
  Texts of this proof: SolidA, Slide.
-/
import Derived.Test.YtnlonkkbjkfkmaaGreatDoorM20
import Derived.Test.YtnlonkkbjkfkmaaGreatDoorM04
namespace Go.Proofs.YtnlonkkbjkfkmaaGreatDoor
open Go.RowKit
set_option linter.all false
def I64 (x : Int) : Prop := -9223372036854775808 ≤ x ∧ x ≤ 9223372036854775807
theorem I64.of {x : Int} (h : (Lit.int .i64 x).wf = true) : I64 x := by
 simp only [Lit.wf, Bool.and_eq_true, decide_eq_true_eq] at h
 exact ⟨h.1, h.2⟩
end Go.Proofs.YtnlonkkbjkfkmaaGreatDoor
namespace Go.Proofs.YtnlonkkbjkfkmaaGreatDoor
open Go.RowKit
set_option linter.all false
theorem setH {w : World} {c k : Nat} {v : Value} {l : List Value} {T : TypeId} (h : w.heap[c]? = some (.cells ⟨l⟩ T (0, 0))) : (w.setCell ⟨c, k, none⟩ v).heap[c]? = some (.cells ⟨l.set k v⟩ T (0, 0)) := by
 rw [setHeap h]; simp
end Go.Proofs.YtnlonkkbjkfkmaaGreatDoor
