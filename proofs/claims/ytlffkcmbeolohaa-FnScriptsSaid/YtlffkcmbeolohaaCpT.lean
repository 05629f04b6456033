/-
  Copies of lists of tracks, of the model and of the program. Lists of at most 2^20 tracks and inputs.
-/
import Derived.Test.YtlffkcmbeolohaaOwT
import Derived.Test.YtlffkcmbeolohaaCpy
import Derived.Test.YtlffkcmbeolohaaTrs
import Derived.Test.YtlffkcmbeolohaaAppI
namespace Go.Proofs.Ytlffkcmbeolohaa
open Go.RowKit
set_option linter.all false
def RetTT (w : World) (X : Rowi) (e : Ending) (w' : World) : Prop := ∃ v, e = .returned v ∧ OwnTT w' w.heap.size w'.heap.size v X ∧ Below w.heap.size w w'
theorem run_make_capT (W : World) (n : Nat) (hn : n ≤ 1048576) : (Instr.makeSlice 24 (.int .i64 0) (.int .i64 (n : Int))).run Try.prog W = .ok (.slice (some ⟨W.heap.size, 0, none⟩) 0 n) (W.alloc (.cells (madeCells #[.slice none 0 0] n) 29)) := by
  obtain ⟨i0, hi, hz0, hz1, hz2⟩ := info_parts info_TrackS
  have := run_make (P := Try.prog) W 24 29 i0 (.agg #[.slice none 0 0]) Try.underlying24 hi hz0 .i64 .i64 0 n (by omega) (by omega) (by rw [hz2]; omega) (by omega)
  rw [this, hz1, Nat.mul_one, Int.toNat_natCast]; rfl
theorem OwnTT.capped (w : World) (n : Nat) (hn : n ≤ 1048576) : OwnTT (w.alloc (.cells (madeCells #[.slice none 0 0] n) 29)) w.heap.size (w.alloc (.cells (madeCells #[.slice none 0 0] n) 29)).heap.size (.slice (some ⟨w.heap.size, 0, none⟩) 0 n) [] := by
  have hc : (madeCells #[Value.slice none 0 0] n).size = n := by rw [← Array.length_toList, toList_madeCells_one]; simp
  have := OwnTT.made w w.heap.size (madeCells #[.slice none 0 0] n) (Nat.le_refl _) (by rw [hc]; unfold maxLen; omega)
  rwa [hc] at this
end Go.Proofs.Ytlffkcmbeolohaa
