/-
  Contracts of ShotOf, and the law on it.
-/
import Derived.Test.YtgpphklfmgdnhabOpenB
namespace Go.Proofs.Ytgpphklfmgdnhab
open Go.RowKit
set_option linter.all false
/-- The shot that a player fires. -/
def shotB (b : Bd) : Bd := if inR b.x 0 1000 && (inR b.y 0 1000 && inR b.aim (-1) 1) then ⟨1, b.owner, b.x + 4, b.y + 4, 6 * b.aim, 0, 0, 0, 25⟩ else ⟨0, 0, 0, 0, 0, 0, 0, 0, 0⟩
theorem placed_at (b : Bd) (w : World) : Calls Try.prog 14 #[.agg #[.int .i64 b.kind, .int .i64 b.owner, .int .i64 b.x, .int .i64 b.y, .int .i64 b.vx, .int .i64 b.vy, .int .i64 b.aim, .int .i64 b.life, .int .i64 b.timer]] w fun e w' => e = .returned (.bool (inR b.x 0 1000 && inR b.y 0 1000)) ∧ w.alloc (.cells #[.int .i64 b.kind, .int .i64 b.owner, .int .i64 b.x, .int .i64 b.y, .int .i64 b.vx, .int .i64 b.vy, .int .i64 b.aim, .int .i64 b.life, .int .i64 b.timer] 25) = w' := by
  cases q1 : inR b.x 0 1000 with
  | true =>
    have Q := Lib.hid q1
    clear q1
    go_enter Try.func14, Try.ntmps14
    go_wp2_with (go_at_call 15; refine (within_impl _ _ _ _).mono ?_; rintro e w1 ⟨rfl, rfl⟩; try rw [Q.out])
    go_ret
    exact ⟨rfl, rfl⟩
  | false =>
    have Q := Lib.hid q1
    clear q1
    go_enter Try.func14, Try.ntmps14
    go_wp2_with (go_at_call 15; refine (within_impl _ _ _ _).mono ?_; rintro e w1 ⟨rfl, rfl⟩; try rw [Q.out])
    go_ret
    exact ⟨rfl, rfl⟩
set_option maxHeartbeats 1000000 in
theorem shotOf_spec (b : Bd) (w : World) : Calls Try.prog 8 #[bdV b] w fun e w' => e = .returned (bdV (shotB b)) ∧ Below w.heap.size w w' := by
  unfold bdV
  cases q1 : inR b.x 0 1000 with
  | false =>
    have HF0 : shotB b = ⟨0, 0, 0, 0, 0, 0, 0, 0, 0⟩ := by unfold shotB; simp only [q1]; rfl
    rw [HF0]
    clear HF0
    go_enter Try.func8, Try.ntmps8
    go_wp2_with (go_at_call 12; refine (in_spec _ _ _ _).mono ?_; rintro e w1 ⟨rfl, rfl⟩)
    refine bodyPost_ret (results_cell_row rfl _ _ (w.heap.size + 1) 25 #[.int .i64 0, .int .i64 0, .int .i64 0, .int .i64 0, .int .i64 0, .int .i64 0, .int .i64 0, .int .i64 0, .int .i64 0] (0, 0) ?d ?hp ?hg ?hu ?hd ?hi) rfl ?_
    case hp => rfl
    case hg => exact heap_at _ _ (by simp)
    case hu => exact Try.underlying25
    case hd => rfl
    case hi => kernel_rfl
    exact ⟨rfl, below2 _ _ _⟩
  | true =>
    cases q2 : inR b.y 0 1000 with
    | false =>
      have HF0 : shotB b = ⟨0, 0, 0, 0, 0, 0, 0, 0, 0⟩ := by unfold shotB; simp only [q1, q2]; rfl
      rw [HF0]
      clear HF0
      go_enter Try.func8, Try.ntmps8
      go_wp2_with (go_at_call 12; refine (in_spec _ _ _ _).mono ?_; rintro e w1 ⟨rfl, rfl⟩)
      refine bodyPost_ret (results_cell_row rfl _ _ (w.heap.size + 1) 25 #[.int .i64 0, .int .i64 0, .int .i64 0, .int .i64 0, .int .i64 0, .int .i64 0, .int .i64 0, .int .i64 0, .int .i64 0] (0, 0) ?d ?hp ?hg ?hu ?hd ?hi) rfl ?_
      case hp => rfl
      case hg => exact heap_at _ _ (by simp)
      case hu => exact Try.underlying25
      case hd => rfl
      case hi => kernel_rfl
      exact ⟨rfl, below2 _ _ _⟩
    | true =>
      cases q3 : inR b.aim (-1) 1 with
      | false =>
        have HF0 : shotB b = ⟨0, 0, 0, 0, 0, 0, 0, 0, 0⟩ := by unfold shotB; simp only [q1, q2, q3]; rfl
        rw [HF0]
        clear HF0
        go_enter Try.func8, Try.ntmps8
        go_wp2_with (go_at_call 12; refine (in_spec _ _ _ _).mono ?_; rintro e w1 ⟨rfl, rfl⟩)
        refine bodyPost_ret (results_cell_row rfl _ _ (w.heap.size + 1) 25 #[.int .i64 0, .int .i64 0, .int .i64 0, .int .i64 0, .int .i64 0, .int .i64 0, .int .i64 0, .int .i64 0, .int .i64 0] (0, 0) ?d ?hp ?hg ?hu ?hd ?hi) rfl ?_
        case hp => rfl
        case hg => exact heap_at _ _ (by simp)
        case hu => exact Try.underlying25
        case hd => rfl
        case hi => kernel_rfl
        exact ⟨rfl, below2 _ _ _⟩
      | true =>
        have HF0 : shotB b = ⟨1, b.owner, b.x + 4, b.y + 4, 6 * b.aim, 0, 0, 0, 25⟩ := by unfold shotB; simp only [q1, q2, q3]; rfl
        rw [HF0]
        clear HF0
        have r1 := (inR_iff _ _ _).1 q1; have r2 := (inR_iff _ _ _).1 q2; have r3 := (inR_iff _ _ _).1 q3
        go_enter Try.func8, Try.ntmps8
        go_wp2_with (go_at_call 12; refine (in_spec _ _ _ _).mono ?_; rintro e w1 ⟨rfl, rfl⟩)
        refine bodyPost_ret (results_cell_row rfl _ _ (w.heap.size + 1) 25 #[.int .i64 1, .int .i64 b.owner, .int .i64 (b.x + 4), .int .i64 (b.y + 4), .int .i64 (6 * b.aim), .int .i64 0, .int .i64 0, .int .i64 0, .int .i64 25] (0, 0) ?d ?hp ?hg ?hu ?hd ?hi) rfl ?_
        case hp => rfl
        case hg => exact heap_at _ _ (by simp)
        case hu => exact Try.underlying25
        case hd => rfl
        case hi => kernel_rfl
        exact ⟨rfl, below2 _ _ _⟩
set_option maxHeartbeats 1000000 in
theorem shotOf_impl (b : Bd) (w : World) : Calls Try.prog 9 #[bdV b] w fun e w' => e = .returned (bdV (shotB b)) ∧ Below w.heap.size w w' := by
  unfold bdV
  cases q1 : inR b.x 0 1000 with
  | false =>
    have HF0 : shotB b = ⟨0, 0, 0, 0, 0, 0, 0, 0, 0⟩ := by unfold shotB; simp only [q1]; rfl
    rw [HF0]
    clear HF0
    go_enter Try.func9, Try.ntmps9
    go_wp2_with (first | (go_at_call 14; refine (placed_at b _).mono ?_; rintro e w1 ⟨rfl, rfl⟩) | (go_at_call 15; refine (within_impl _ _ _ _).mono ?_; rintro e w1 ⟨rfl, rfl⟩))
    refine bodyPost_ret (results_cell_row rfl _ _ (w.heap.size + 1) 25 #[.int .i64 0, .int .i64 0, .int .i64 0, .int .i64 0, .int .i64 0, .int .i64 0, .int .i64 0, .int .i64 0, .int .i64 0] (0, 0) ?d ?hp ?hg ?hu ?hd ?hi) rfl ?_
    case hp => rfl
    case hg => rw [heap_alloc_old _ _ (by simp)]; exact heap_at _ _ (by simp)
    case hu => exact Try.underlying25
    case hd => rfl
    case hi => kernel_rfl
    exact ⟨rfl, (below2 _ _ _).alloc (by simp; omega) _⟩
  | true =>
    cases q2 : inR b.y 0 1000 with
    | false =>
      have HF0 : shotB b = ⟨0, 0, 0, 0, 0, 0, 0, 0, 0⟩ := by unfold shotB; simp only [q1, q2]; rfl
      rw [HF0]
      clear HF0
      go_enter Try.func9, Try.ntmps9
      go_wp2_with (first | (go_at_call 14; refine (placed_at b _).mono ?_; rintro e w1 ⟨rfl, rfl⟩) | (go_at_call 15; refine (within_impl _ _ _ _).mono ?_; rintro e w1 ⟨rfl, rfl⟩))
      refine bodyPost_ret (results_cell_row rfl _ _ (w.heap.size + 1) 25 #[.int .i64 0, .int .i64 0, .int .i64 0, .int .i64 0, .int .i64 0, .int .i64 0, .int .i64 0, .int .i64 0, .int .i64 0] (0, 0) ?d ?hp ?hg ?hu ?hd ?hi) rfl ?_
      case hp => rfl
      case hg => rw [heap_alloc_old _ _ (by simp)]; exact heap_at _ _ (by simp)
      case hu => exact Try.underlying25
      case hd => rfl
      case hi => kernel_rfl
      exact ⟨rfl, (below2 _ _ _).alloc (by simp; omega) _⟩
    | true =>
      cases q3 : inR b.aim (-1) 1 with
      | false =>
        have HF0 : shotB b = ⟨0, 0, 0, 0, 0, 0, 0, 0, 0⟩ := by unfold shotB; simp only [q1, q2, q3]; rfl
        rw [HF0]
        clear HF0
        go_enter Try.func9, Try.ntmps9
        go_wp2_with (first | (go_at_call 14; refine (placed_at b _).mono ?_; rintro e w1 ⟨rfl, rfl⟩) | (go_at_call 15; refine (within_impl _ _ _ _).mono ?_; rintro e w1 ⟨rfl, rfl⟩))
        refine bodyPost_ret (results_cell_row rfl _ _ (w.heap.size + 1) 25 #[.int .i64 0, .int .i64 0, .int .i64 0, .int .i64 0, .int .i64 0, .int .i64 0, .int .i64 0, .int .i64 0, .int .i64 0] (0, 0) ?d ?hp ?hg ?hu ?hd ?hi) rfl ?_
        case hp => rfl
        case hg => rw [heap_alloc_old _ _ (by simp)]; exact heap_at _ _ (by simp)
        case hu => exact Try.underlying25
        case hd => rfl
        case hi => kernel_rfl
        exact ⟨rfl, (below2 _ _ _).alloc (by simp; omega) _⟩
      | true =>
        have HF0 : shotB b = ⟨1, b.owner, b.x + 4, b.y + 4, 6 * b.aim, 0, 0, 0, 25⟩ := by unfold shotB; simp only [q1, q2, q3]; rfl
        rw [HF0]
        clear HF0
        have r1 := (inR_iff _ _ _).1 q1; have r2 := (inR_iff _ _ _).1 q2; have r3 := (inR_iff _ _ _).1 q3
        go_enter Try.func9, Try.ntmps9
        go_wp2_with (first | (go_at_call 14; refine (placed_at b _).mono ?_; rintro e w1 ⟨rfl, rfl⟩) | (go_at_call 15; refine (within_impl _ _ _ _).mono ?_; rintro e w1 ⟨rfl, rfl⟩))
        refine bodyPost_ret (results_cell_row rfl _ _ (w.heap.size + 1) 25 #[.int .i64 1, .int .i64 b.owner, .int .i64 (b.x + 4), .int .i64 (b.y + 4), .int .i64 (6 * b.aim), .int .i64 0, .int .i64 0, .int .i64 0, .int .i64 25] (0, 0) ?d ?hp ?hg ?hu ?hd ?hi) rfl ?_
        case hp => rfl
        case hg => rw [heap_alloc_old _ _ (by simp)]; exact heap_at _ _ (by simp)
        case hu => exact Try.underlying25
        case hd => rfl
        case hi => kernel_rfl
        exact ⟨rfl, (below2 _ _ _).alloc (by simp; omega) _⟩
theorem eqBody_same (b : Bd) (w : World) : Calls Try.prog 10 #[bdV b, bdV b] w fun e w' => e = .returned (.bool true) ∧ Below w.heap.size w w' := by
  unfold bdV
  go_enter Try.func10, Try.ntmps10
  go_wp2_with (fail)
  go_ret
  exact ⟨rfl, below2 _ _ _⟩
set_option maxHeartbeats 1000000 in
theorem lawShotOf (a : Bd) (fa : a.fits) (w : World) :
    Calls Try.prog 4 #[bdV a] w fun e w' => e = .returned (.bool true) ∧ Below w.heap.size w w' := by
  clear fa
  have ta := fun W => toBody_any a W
  have ms := fun W => shotOf_spec a W
  have mi := fun W => shotOf_impl a W
  generalize shotB a = r at ms mi
  have es := fun W => eqBody_same r W
  unfold bdV at ta ms mi es ⊢
  obtain ⟨W0, hW, hA, hB0, hS0⟩ := rows1 w #[.int .i64 a.kind, .int .i64 a.owner, .int .i64 a.x, .int .i64 a.y, .int .i64 a.vx, .int .i64 a.vy, .int .i64 a.aim, .int .i64 a.life, .int .i64 a.timer] 23
  have kA := rowCells hA
  go_enter Try.func4, Try.ntmps4
  go_wp2_with (first
    | (go_at_call 6; clear hW; refine (ta _).mono ?_; rintro e w1 ⟨rfl, hb1⟩; have hA1 := keepHeap hb1 hA; clear kA; have kA1 := rowCells hA1; have hbel1 := hB0.trans (hb1.mono hB0.size))
    | (go_at_call 8; refine (ms _).mono ?_; rintro e w2 ⟨rfl, hb2⟩; have hA2 := keepHeap hb2 hA1; clear kA1; have kA2 := fun o => rowCells (keepHeap (below1 w2 o) hA2); have hbel2 := hbel1.trans (hb2.mono hbel1.size))
    | (go_at_call 6; clear kA2; refine (ta _).mono ?_; rintro e w3 ⟨rfl, hb3⟩; have h0 := keepHeap hb3 (heap_alloc_new w2 _); have hbel3 := (hbel2.alloc hbel2.size _).trans (hb3.mono (by have := hbel2.size; simp; omega)))
    | (go_at_call 9; refine (mi _).mono ?_; rintro e w4 ⟨rfl, hb4⟩; have k0 := fun o => rowCells (keepHeap (below1 w4 o) (keepHeap hb4 h0)); have hbel4 := hbel3.trans (hb4.mono hbel3.size))
    | (go_at_call 10; refine (es _).mono ?_; rintro e w5 ⟨rfl, hb5⟩; have hbel5 := (hbel4.alloc hbel4.size _).trans (hb5.mono (by have := hbel4.size; simp; omega))))
  go_ret
  exact ⟨rfl, hbel5⟩
end Go.Proofs.Ytgpphklfmgdnhab
