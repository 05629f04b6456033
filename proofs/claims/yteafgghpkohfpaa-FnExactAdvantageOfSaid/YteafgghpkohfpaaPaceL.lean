/-
  The laws on PaceOk, GuessTick and AdvantageOf. No condition.
-/
import Derived.Test.YteafgghpkohfpaaAdv
namespace Go.Proofs.Yteafgghpkohfpaa
open Go.RowKit
set_option linter.all false
set_option maxHeartbeats 1000000 in
theorem lawPaceOk (q : Pc) (fq : q.fits) {w : World} :
    Calls Try.prog 5 #[pcV q] w fun e w' => e = .returned (.bool true) ∧ Below w.heap.size w w' := by
  have tf := fun W => toPace_any q W
  have ms := fun W => paceOk_spec q W
  have mi := fun W => paceOk_impl q W
  generalize paceB q = r at ms mi
  unfold pcV at tf ms mi ⊢
  obtain ⟨W0, hW, hA, hB0, hS0⟩ := rows1 w #[.int .i64 q.newest, .int .i64 q.their, .int .i64 q.at0, .int .i64 q.trip, .int .i64 q.samples] 29
  have kA := rowCells hA
  go_enter Try.func5, Try.ntmps5
  go_wp2_with (fail)
  try rw [hW]
  clear hW
  refine (tf _).mono ?_
  rintro e w1 ⟨rfl, hb1⟩
  have hA1 := keepHeap hb1 hA
  have kA1 := rowCells hA1
  have hbel1 := hB0.trans (hb1.mono hB0.size)
  clear kA hA hb1
  go_wp2_with (fail)
  refine (ms _).mono ?_
  rintro e w2 ⟨rfl, hb2⟩
  have hA2 := keepHeap hb2 hA1
  have kA2 := rowCells hA2
  have hbel2 := hbel1.trans (hb2.mono hbel1.size)
  clear kA1 hA1 hb2
  go_wp2_with (fail)
  refine (tf _).mono ?_
  rintro e w3 ⟨rfl, hb3⟩
  have hbel3 := hbel2.trans (hb3.mono hbel2.size)
  clear kA2 hA2 hb3
  go_wp2_with (fail)
  refine (mi _).mono ?_
  rintro e w4 ⟨rfl, hb4⟩
  have hbel4 := hbel3.trans (hb4.mono hbel3.size)
  go_wp2_with (fail)
  go_ret
  exact ⟨rfl, hbel4⟩
set_option maxHeartbeats 1000000 in
theorem lawGuessTick (q : Pc) (fq : q.fits) (now : Int) (wnow : (Lit.int .i64 now).wf = true) {w : World} :
    Calls Try.prog 6 #[pcV q, .int .i64 now] w fun e w' => e = .returned (.bool true) ∧ Below w.heap.size w w' := by
  have tf := fun W => toPace_any q W
  have ms := fun W => guess_spec q now W
  have mi := fun W => guess_impl q now W
  generalize guessI q now = r at ms mi
  unfold pcV at tf ms mi ⊢
  obtain ⟨W0, hW, hA, hB0, hS0⟩ := rows1 w #[.int .i64 q.newest, .int .i64 q.their, .int .i64 q.at0, .int .i64 q.trip, .int .i64 q.samples] 29
  have kA := rowCells hA
  go_enter Try.func6, Try.ntmps6
  go_wp2_with (fail)
  try rw [hW]
  clear hW
  refine (tf _).mono ?_
  rintro e w1 ⟨rfl, hb1⟩
  have hA1 := keepHeap hb1 hA
  have kA1 := rowCells hA1
  have hbel1 := hB0.trans (hb1.mono hB0.size)
  clear kA hA hb1
  go_wp2_with (fail)
  refine (ms _).mono ?_
  rintro e w2 ⟨rfl, hb2⟩
  have hA2 := keepHeap hb2 hA1
  have kA2 := rowCells hA2
  have hbel2 := hbel1.trans (hb2.mono hbel1.size)
  clear kA1 hA1 hb2
  go_wp2_with (fail)
  refine (tf _).mono ?_
  rintro e w3 ⟨rfl, hb3⟩
  have hbel3 := hbel2.trans (hb3.mono hbel2.size)
  clear kA2 hA2 hb3
  go_wp2_with (fail)
  refine (mi _).mono ?_
  rintro e w4 ⟨rfl, hb4⟩
  have hbel4 := hbel3.trans (hb4.mono hbel3.size)
  go_wp2_with (fail)
  go_ret
  exact ⟨rfl, hbel4⟩
set_option maxHeartbeats 1000000 in
theorem lawAdvantageOf (q : Pc) (fq : q.fits) (tick : Int) (wtick : (Lit.int .i64 tick).wf = true) (now : Int) (wnow : (Lit.int .i64 now).wf = true) {w : World} :
    Calls Try.prog 7 #[pcV q, .int .i64 tick, .int .i64 now] w fun e w' => e = .returned (.bool true) ∧ Below w.heap.size w w' := by
  have tf := fun W => toPace_any q W
  have ms := fun W => adv_spec q tick now W
  have mi := fun W => adv_impl q tick now W
  generalize advI q tick now = r at ms mi
  unfold pcV at tf ms mi ⊢
  obtain ⟨W0, hW, hA, hB0, hS0⟩ := rows1 w #[.int .i64 q.newest, .int .i64 q.their, .int .i64 q.at0, .int .i64 q.trip, .int .i64 q.samples] 29
  have kA := rowCells hA
  go_enter Try.func7, Try.ntmps7
  go_wp2_with (fail)
  try rw [hW]
  clear hW
  refine (tf _).mono ?_
  rintro e w1 ⟨rfl, hb1⟩
  have hA1 := keepHeap hb1 hA
  have kA1 := rowCells hA1
  have hbel1 := hB0.trans (hb1.mono hB0.size)
  clear kA hA hb1
  go_wp2_with (fail)
  refine (ms _).mono ?_
  rintro e w2 ⟨rfl, hb2⟩
  have hA2 := keepHeap hb2 hA1
  have kA2 := rowCells hA2
  have hbel2 := hbel1.trans (hb2.mono hbel1.size)
  clear kA1 hA1 hb2
  go_wp2_with (fail)
  refine (tf _).mono ?_
  rintro e w3 ⟨rfl, hb3⟩
  have hbel3 := hbel2.trans (hb3.mono hbel2.size)
  clear kA2 hA2 hb3
  go_wp2_with (fail)
  refine (mi _).mono ?_
  rintro e w4 ⟨rfl, hb4⟩
  have hbel4 := hbel3.trans (hb4.mono hbel3.size)
  go_wp2_with (fail)
  go_ret
  exact ⟨rfl, hbel4⟩
end Go.Proofs.Yteafgghpkohfpaa
