/-
  The law on BodiesMeet.
-/
import Derived.Test.YtgpphklfmgdnhabOpenB
namespace Go.Proofs.Ytgpphklfmgdnhab
open Go.RowKit
set_option linter.all false
theorem lawBodiesMeet (a : Bd) (fa : a.fits) (b : Bd) (fb : b.fits) (w : World) :
    Calls Try.prog 3 #[bdV a, bdV b] w fun e w' => e = .returned (.bool true) ∧ Below w.heap.size w w' := by
  have ta := fun W => toBody_any a W
  have tb := fun W => toBody_any b W
  have ms := fun W => meet_spec a b W
  have mi := fun W => meet_impl a b W
  generalize meetB a b = r at ms mi
  unfold bdV at ta tb ms mi ⊢
  obtain ⟨W0, hW, hA, hB, hB0, hS0⟩ := rows2 w #[.int .i64 a.kind, .int .i64 a.owner, .int .i64 a.x, .int .i64 a.y, .int .i64 a.vx, .int .i64 a.vy, .int .i64 a.aim, .int .i64 a.life, .int .i64 a.timer] #[.int .i64 b.kind, .int .i64 b.owner, .int .i64 b.x, .int .i64 b.y, .int .i64 b.vx, .int .i64 b.vy, .int .i64 b.aim, .int .i64 b.life, .int .i64 b.timer] 23 23
  have kA := rowCells hA
  have kB := rowCells hB
  go_enter Try.func3, Try.ntmps3
  go_wp2_with (fail)
  try rw [hW]
  go_region_held3 (fun w' => (∀ j, w'.cell? ⟨w.heap.size, j, none⟩ = #[.int .i64 a.kind, .int .i64 a.owner, .int .i64 a.x, .int .i64 a.y, .int .i64 a.vx, .int .i64 a.vy, .int .i64 a.aim, .int .i64 a.life, .int .i64 a.timer][j]?) ∧ (∀ j, w'.cell? ⟨w.heap.size + 1, j, none⟩ = #[.int .i64 b.kind, .int .i64 b.owner, .int .i64 b.x, .int .i64 b.y, .int .i64 b.vx, .int .i64 b.vy, .int .i64 b.aim, .int .i64 b.life, .int .i64 b.timer][j]?)) (first | go_keep | (exact ⟨kA1, kB1⟩) | (exact ⟨kA2, kB2⟩) | exact ⟨kA3, kB3⟩)
    (first
    | (go_at_call_of 6 (Value.int .i64 a.kind); refine (ta _).mono ?_; rintro e w1 ⟨rfl, hb1⟩; have hA1 := keepHeap hb1 hA; have hB1 := keepHeap hb1 hB; have kA1 := rowCells hA1; have kB1 := rowCells hB1; have hbel1 := hB0.drew.trans (hb1.mono (by simp; omega)))
    | (go_at_call_of 6 (Value.int .i64 b.kind); refine (tb _).mono ?_; rintro e w2 ⟨rfl, hb2⟩; have hA2 := keepHeap hb2 hA1; have hB2 := keepHeap hb2 hB1; have kA2 := rowCells hA2; have kB2 := rowCells hB2; have hbel2 := hbel1.trans (hb2.mono hbel1.size))
    | (go_at_call 5; refine (ms _).mono ?_; rintro e w3 ⟨rfl, hb3⟩; have hA3 := keepHeap hb3 hA2; have hB3 := keepHeap hb3 hB2; have kA3 := rowCells hA3; have kB3 := rowCells hB3; have hbel3 := hbel2.trans (hb3.mono hbel2.size)))
  go_wp2_with (fail)
  go_region_held3 (fun w' => (∀ j, w'.cell? ⟨w.heap.size, j, none⟩ = #[.int .i64 a.kind, .int .i64 a.owner, .int .i64 a.x, .int .i64 a.y, .int .i64 a.vx, .int .i64 a.vy, .int .i64 a.aim, .int .i64 a.life, .int .i64 a.timer][j]?) ∧ (∀ j, w'.cell? ⟨w.heap.size + 1, j, none⟩ = #[.int .i64 b.kind, .int .i64 b.owner, .int .i64 b.x, .int .i64 b.y, .int .i64 b.vx, .int .i64 b.vy, .int .i64 b.aim, .int .i64 b.life, .int .i64 b.timer][j]?)) (first | go_keep | (exact ⟨kA4, kB4⟩) | (exact ⟨kA5, kB5⟩) | exact ⟨kA6, kB6⟩)
    (first
    | (go_at_call_of 6 (Value.int .i64 a.kind); refine (ta _).mono ?_; rintro e w4 ⟨rfl, hb4⟩; have hA4 := keepHeap hb4 hA3; have hB4 := keepHeap hb4 hB3; have kA4 := rowCells hA4; have kB4 := rowCells hB4; have hbel4 := hbel3.drew.trans (hb4.mono (by simp; exact hbel3.size)))
    | (go_at_call_of 6 (Value.int .i64 b.kind); refine (tb _).mono ?_; rintro e w5 ⟨rfl, hb5⟩; have hA5 := keepHeap hb5 hA4; have hB5 := keepHeap hb5 hB4; have kA5 := rowCells hA5; have kB5 := rowCells hB5; have hbel5 := hbel4.trans (hb5.mono hbel4.size))
    | (go_at_call 7; refine (mi _).mono ?_; rintro e w6 ⟨rfl, hb6⟩; have hA6 := keepHeap hb6 hA5; have hB6 := keepHeap hb6 hB5; have kA6 := rowCells hA6; have kB6 := rowCells hB6; have hbel := hbel5.trans (hb6.mono hbel5.size)))
  go_wp2_with (fail)
  go_ret
  exact ⟨rfl, hbel⟩
end Go.Proofs.Ytgpphklfmgdnhab
