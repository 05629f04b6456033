/-
  Making rows of ints with room. No condition.
-/
import Derived.Test.YtecimgennncjkaaDoorTrk
import Derived.Test.YtecimgennncjkaaDoorAppI
namespace Go.Proofs.YtecimgennncjkaaDoor
open Go.RowKit
set_option linter.all false
theorem run_make_cap (W : World) (n : Nat) (hn : n ≤ 1099511627776) : (Instr.makeSlice 24 (.int .i64 0) (.int .i64 (n : Int))).run Tryd.prog W = .ok (.slice (some ⟨W.heap.size, 0, none⟩) 0 n) (W.alloc (.cells (madeCells #[.int .i64 0] n) 3)) := by
  obtain ⟨i0, hi, hz0, hz1, hz2⟩ := info_parts info_int
  have := run_make (P := Tryd.prog) W 24 3 i0 (.int .i64 0) Tryd.underlying24 hi hz0 .i64 .i64 0 n (by omega) (by omega) (by rw [hz2]; omega) (by omega)
  rw [this, hz1, Nat.mul_one, Int.toNat_natCast]; rfl
theorem OwnR.capped (w : World) (n : Nat) (hn : n ≤ 1099511627776) : OwnR (w.alloc (.cells (madeCells #[.int .i64 0] n) 3)) w.heap.size (.slice (some ⟨w.heap.size, 0, none⟩) 0 n) [] := by
  have hsz : (madeCells #[Value.int .i64 0] n).size = n := by simp [madeCells]
  have := OwnR.made w (madeCells #[.int .i64 0] n) w.heap.size (Nat.le_refl _) (by rw [hsz]; unfold maxLen; omega)
  rwa [hsz] at this
end Go.Proofs.YtecimgennncjkaaDoor
