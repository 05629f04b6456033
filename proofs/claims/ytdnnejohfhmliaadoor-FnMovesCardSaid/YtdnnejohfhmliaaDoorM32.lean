/-
  Texts of this proof: Shot.
-/
import Derived.Test.YtdnnejohfhmliaaDoorM08
namespace Go.Proofs.YtdnnejohfhmliaaDoor
open Go.RowKit
set_option linter.all false
def shotB (b : Bd) : Bd := if inR b.x 0 1000 && (inR b.y 0 1000 && inR b.aim (-1) 1) then ⟨1, b.owner, b.x + 4, b.y + 4, 6 * b.aim, 0, 0, 0, 25⟩ else ⟨0, 0, 0, 0, 0, 0, 0, 0, 0⟩
theorem placed_at (b : Bd) (w : World) : Calls Tryd.prog 45 #[.agg #[.int .i64 b.kind, .int .i64 b.owner, .int .i64 b.x, .int .i64 b.y, .int .i64 b.vx, .int .i64 b.vy, .int .i64 b.aim, .int .i64 b.life, .int .i64 b.timer]] w fun e w' => e = .returned (.bool (inR b.x 0 1000 && inR b.y 0 1000)) ∧ w.alloc (.cells #[.int .i64 b.kind, .int .i64 b.owner, .int .i64 b.x, .int .i64 b.y, .int .i64 b.vx, .int .i64 b.vy, .int .i64 b.aim, .int .i64 b.life, .int .i64 b.timer] 36) = w' := by
  cases q1 : inR b.x 0 1000 with
  | true =>
    have Q := Lib.hid q1
    clear q1
    go_enter Tryd.func45, Tryd.ntmps45
    go_wp2_with (go_at_call 31; refine (within_impl _ _ _ _).mono ?_; rintro e w1 ⟨rfl, rfl⟩; try rw [Q.out])
    go_ret
    exact ⟨rfl, rfl⟩
  | false =>
    have Q := Lib.hid q1
    clear q1
    go_enter Tryd.func45, Tryd.ntmps45
    go_wp2_with (go_at_call 31; refine (within_impl _ _ _ _).mono ?_; rintro e w1 ⟨rfl, rfl⟩; try rw [Q.out])
    go_ret
    exact ⟨rfl, rfl⟩
set_option maxHeartbeats 1000000 in
theorem shotOf_spec (b : Bd) (w : World) : Calls Tryd.prog 77 #[bdV b] w fun e w' => e = .returned (bdV (shotB b)) ∧ Below w.heap.size w w' := by
  unfold bdV
  cases q1 : inR b.x 0 1000 with
  | false =>
    have HF0 : shotB b = ⟨0, 0, 0, 0, 0, 0, 0, 0, 0⟩ := by unfold shotB; simp only [q1]; rfl
    rw [HF0]
    clear HF0
    go_enter Tryd.func77, Tryd.ntmps77
    go_wp2_with (go_at_call 73; refine (in_spec _ _ _ _).mono ?_; rintro e w1 ⟨rfl, rfl⟩)
    refine bodyPost_ret (results_cell_row rfl _ _ (w.heap.size + 1) 36 #[.int .i64 0, .int .i64 0, .int .i64 0, .int .i64 0, .int .i64 0, .int .i64 0, .int .i64 0, .int .i64 0, .int .i64 0] (0, 0) ?d ?hp ?hg ?hu ?hd ?hi) rfl ?_
    case hp => rfl
    case hg => exact heap_at _ _ (by simp)
    case hu => exact Tryd.underlying36
    case hd => rfl
    case hi => kernel_rfl
    exact ⟨rfl, below2 _ _ _⟩
  | true =>
    cases q2 : inR b.y 0 1000 with
    | false =>
      have HF0 : shotB b = ⟨0, 0, 0, 0, 0, 0, 0, 0, 0⟩ := by unfold shotB; simp only [q1, q2]; rfl
      rw [HF0]
      clear HF0
      go_enter Tryd.func77, Tryd.ntmps77
      go_wp2_with (go_at_call 73; refine (in_spec _ _ _ _).mono ?_; rintro e w1 ⟨rfl, rfl⟩)
      refine bodyPost_ret (results_cell_row rfl _ _ (w.heap.size + 1) 36 #[.int .i64 0, .int .i64 0, .int .i64 0, .int .i64 0, .int .i64 0, .int .i64 0, .int .i64 0, .int .i64 0, .int .i64 0] (0, 0) ?d ?hp ?hg ?hu ?hd ?hi) rfl ?_
      case hp => rfl
      case hg => exact heap_at _ _ (by simp)
      case hu => exact Tryd.underlying36
      case hd => rfl
      case hi => kernel_rfl
      exact ⟨rfl, below2 _ _ _⟩
    | true =>
      cases q3 : inR b.aim (-1) 1 with
      | false =>
        have HF0 : shotB b = ⟨0, 0, 0, 0, 0, 0, 0, 0, 0⟩ := by unfold shotB; simp only [q1, q2, q3]; rfl
        rw [HF0]
        clear HF0
        go_enter Tryd.func77, Tryd.ntmps77
        go_wp2_with (go_at_call 73; refine (in_spec _ _ _ _).mono ?_; rintro e w1 ⟨rfl, rfl⟩)
        refine bodyPost_ret (results_cell_row rfl _ _ (w.heap.size + 1) 36 #[.int .i64 0, .int .i64 0, .int .i64 0, .int .i64 0, .int .i64 0, .int .i64 0, .int .i64 0, .int .i64 0, .int .i64 0] (0, 0) ?d ?hp ?hg ?hu ?hd ?hi) rfl ?_
        case hp => rfl
        case hg => exact heap_at _ _ (by simp)
        case hu => exact Tryd.underlying36
        case hd => rfl
        case hi => kernel_rfl
        exact ⟨rfl, below2 _ _ _⟩
      | true =>
        have HF0 : shotB b = ⟨1, b.owner, b.x + 4, b.y + 4, 6 * b.aim, 0, 0, 0, 25⟩ := by unfold shotB; simp only [q1, q2, q3]; rfl
        rw [HF0]
        clear HF0
        have r1 := (inR_iff _ _ _).1 q1; have r2 := (inR_iff _ _ _).1 q2; have r3 := (inR_iff _ _ _).1 q3
        go_enter Tryd.func77, Tryd.ntmps77
        go_wp2_with (go_at_call 73; refine (in_spec _ _ _ _).mono ?_; rintro e w1 ⟨rfl, rfl⟩)
        refine bodyPost_ret (results_cell_row rfl _ _ (w.heap.size + 1) 36 #[.int .i64 1, .int .i64 b.owner, .int .i64 (b.x + 4), .int .i64 (b.y + 4), .int .i64 (6 * b.aim), .int .i64 0, .int .i64 0, .int .i64 0, .int .i64 25] (0, 0) ?d ?hp ?hg ?hu ?hd ?hi) rfl ?_
        case hp => rfl
        case hg => exact heap_at _ _ (by simp)
        case hu => exact Tryd.underlying36
        case hd => rfl
        case hi => kernel_rfl
        exact ⟨rfl, below2 _ _ _⟩
set_option maxHeartbeats 1000000 in
theorem shotOf_impl (b : Bd) (w : World) : Calls Tryd.prog 19 #[bdV b] w fun e w' => e = .returned (bdV (shotB b)) ∧ Below w.heap.size w w' := by
  unfold bdV
  cases q1 : inR b.x 0 1000 with
  | false =>
    have HF0 : shotB b = ⟨0, 0, 0, 0, 0, 0, 0, 0, 0⟩ := by unfold shotB; simp only [q1]; rfl
    rw [HF0]
    clear HF0
    go_enter Tryd.func19, Tryd.ntmps19
    go_wp2_with (first | (go_at_call 45; refine (placed_at b _).mono ?_; rintro e w1 ⟨rfl, rfl⟩) | (go_at_call 31; refine (within_impl _ _ _ _).mono ?_; rintro e w1 ⟨rfl, rfl⟩))
    refine bodyPost_ret (results_cell_row rfl _ _ (w.heap.size + 1) 36 #[.int .i64 0, .int .i64 0, .int .i64 0, .int .i64 0, .int .i64 0, .int .i64 0, .int .i64 0, .int .i64 0, .int .i64 0] (0, 0) ?d ?hp ?hg ?hu ?hd ?hi) rfl ?_
    case hp => rfl
    case hg => rw [heap_alloc_old _ _ (by simp)]; exact heap_at _ _ (by simp)
    case hu => exact Tryd.underlying36
    case hd => rfl
    case hi => kernel_rfl
    exact ⟨rfl, (below2 _ _ _).alloc (by simp; omega) _⟩
  | true =>
    cases q2 : inR b.y 0 1000 with
    | false =>
      have HF0 : shotB b = ⟨0, 0, 0, 0, 0, 0, 0, 0, 0⟩ := by unfold shotB; simp only [q1, q2]; rfl
      rw [HF0]
      clear HF0
      go_enter Tryd.func19, Tryd.ntmps19
      go_wp2_with (first | (go_at_call 45; refine (placed_at b _).mono ?_; rintro e w1 ⟨rfl, rfl⟩) | (go_at_call 31; refine (within_impl _ _ _ _).mono ?_; rintro e w1 ⟨rfl, rfl⟩))
      refine bodyPost_ret (results_cell_row rfl _ _ (w.heap.size + 1) 36 #[.int .i64 0, .int .i64 0, .int .i64 0, .int .i64 0, .int .i64 0, .int .i64 0, .int .i64 0, .int .i64 0, .int .i64 0] (0, 0) ?d ?hp ?hg ?hu ?hd ?hi) rfl ?_
      case hp => rfl
      case hg => rw [heap_alloc_old _ _ (by simp)]; exact heap_at _ _ (by simp)
      case hu => exact Tryd.underlying36
      case hd => rfl
      case hi => kernel_rfl
      exact ⟨rfl, (below2 _ _ _).alloc (by simp; omega) _⟩
    | true =>
      cases q3 : inR b.aim (-1) 1 with
      | false =>
        have HF0 : shotB b = ⟨0, 0, 0, 0, 0, 0, 0, 0, 0⟩ := by unfold shotB; simp only [q1, q2, q3]; rfl
        rw [HF0]
        clear HF0
        go_enter Tryd.func19, Tryd.ntmps19
        go_wp2_with (first | (go_at_call 45; refine (placed_at b _).mono ?_; rintro e w1 ⟨rfl, rfl⟩) | (go_at_call 31; refine (within_impl _ _ _ _).mono ?_; rintro e w1 ⟨rfl, rfl⟩))
        refine bodyPost_ret (results_cell_row rfl _ _ (w.heap.size + 1) 36 #[.int .i64 0, .int .i64 0, .int .i64 0, .int .i64 0, .int .i64 0, .int .i64 0, .int .i64 0, .int .i64 0, .int .i64 0] (0, 0) ?d ?hp ?hg ?hu ?hd ?hi) rfl ?_
        case hp => rfl
        case hg => rw [heap_alloc_old _ _ (by simp)]; exact heap_at _ _ (by simp)
        case hu => exact Tryd.underlying36
        case hd => rfl
        case hi => kernel_rfl
        exact ⟨rfl, (below2 _ _ _).alloc (by simp; omega) _⟩
      | true =>
        have HF0 : shotB b = ⟨1, b.owner, b.x + 4, b.y + 4, 6 * b.aim, 0, 0, 0, 25⟩ := by unfold shotB; simp only [q1, q2, q3]; rfl
        rw [HF0]
        clear HF0
        have r1 := (inR_iff _ _ _).1 q1; have r2 := (inR_iff _ _ _).1 q2; have r3 := (inR_iff _ _ _).1 q3
        go_enter Tryd.func19, Tryd.ntmps19
        go_wp2_with (first | (go_at_call 45; refine (placed_at b _).mono ?_; rintro e w1 ⟨rfl, rfl⟩) | (go_at_call 31; refine (within_impl _ _ _ _).mono ?_; rintro e w1 ⟨rfl, rfl⟩))
        refine bodyPost_ret (results_cell_row rfl _ _ (w.heap.size + 1) 36 #[.int .i64 1, .int .i64 b.owner, .int .i64 (b.x + 4), .int .i64 (b.y + 4), .int .i64 (6 * b.aim), .int .i64 0, .int .i64 0, .int .i64 0, .int .i64 25] (0, 0) ?d ?hp ?hg ?hu ?hd ?hi) rfl ?_
        case hp => rfl
        case hg => rw [heap_alloc_old _ _ (by simp)]; exact heap_at _ _ (by simp)
        case hu => exact Tryd.underlying36
        case hd => rfl
        case hi => kernel_rfl
        exact ⟨rfl, (below2 _ _ _).alloc (by simp; omega) _⟩
end Go.Proofs.YtdnnejohfhmliaaDoor
