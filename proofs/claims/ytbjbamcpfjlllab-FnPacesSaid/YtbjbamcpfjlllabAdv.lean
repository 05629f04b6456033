/-
  AdvantageOf of the program and of the model. No condition.
-/
import Derived.Test.YtbjbamcpfjlllabPace
namespace Go.Proofs.Ytbjbamcpfjlllab
open Go.RowKit
set_option linter.all false
theorem advI_1 {q : Pc} {tick now : Int} (h : canB q now = false) : advI q tick now = 0 := by unfold advI; rw [h]; rfl
theorem advI_2 {q : Pc} {tick now : Int} (h : inR tick 0 400 = false) : advI q tick now = 0 := by unfold advI; rw [h]; simp
theorem advI_yes {q : Pc} {tick now : Int} (h : canB q now = true) (h2 : inR tick 0 400 = true) : advI q tick now = tick - guessI q now := by unfold advI; rw [h, h2]; rfl
theorem advI_range (q : Pc) (tick now : Int) : -3000000 ≤ advI q tick now ∧ advI q tick now ≤ 400 := by
  have := guessI_range q now
  cases h : canB q now with
  | false => rw [advI_1 h]; omega
  | true =>
    cases h2 : inR tick 0 400 with
    | false => rw [advI_2 h2]; omega
    | true => rw [advI_yes h h2]; have := (inR_iff _ _ _).1 h2; omega
set_option maxHeartbeats 1000000 in
theorem adv_impl (q : Pc) (tick now : Int) (w : World) : Calls Try.prog 10 #[pcV q, .int .i64 tick, .int .i64 now] w fun e w' => e = .returned (.int .i64 (advI q tick now)) ∧ Below w.heap.size w w' := by
  have P1 := fun W => canGuess_impl q now W
  have P2 := fun W => guess_impl q now W
  unfold pcV at P1 P2 ⊢
  obtain ⟨W0, hW, hA, hB0, hS0⟩ := rows1 w #[.int .i64 q.newest, .int .i64 q.their, .int .i64 q.at0, .int .i64 q.trip, .int .i64 q.samples] 26
  have cA := rowCells hA
  go_enter Try.func10, Try.ntmps10
  go_wp2_with (fail)
  try rw [hW]
  clear hW
  refine (P1 _).mono ?_
  rintro e w1 ⟨rfl, hb1⟩
  have hA1 := keepHeap hb1 hA
  have cA1 := rowCells hA1
  have hb01 := hB0.trans (hb1.mono hB0.size)
  clear cA hb1 hA
  cases q1 : canB q now with
  | false =>
    have HF := Lib.hid (advI_1 (tick := tick) q1)
    clear q1
    go_wp2_with (fail)
    go_ret
    exact ⟨by rw [HF.out]; rfl, hb01⟩
  | true =>
    have Q1 := Lib.hid q1
    clear q1
    go_wp2_with (fail)
    refine (within_impl _ _ _ _).mono ?_
    rintro e w2 ⟨rfl, rfl⟩
    cases q2 : inR tick 0 400 with
    | false =>
      have HF := Lib.hid (advI_2 (q := q) (now := now) q2)
      clear q2
      go_wp2_with (fail)
      go_ret
      exact ⟨by rw [HF.out]; rfl, hb01⟩
    | true =>
      have HF := Lib.hid (advI_yes Q1.out q2)
      obtain ⟨t1, t2⟩ := (inR_iff _ _ _).1 q2
      obtain ⟨g1, g2⟩ := guessI_range q now
      generalize guessI q now = g at *
      clear q2
      go_wp2_with (fail)
      refine (P2 _).mono ?_
      rintro e w3 ⟨rfl, hb3⟩
      go_wp2_with (fail)
      go_ret
      exact ⟨ret_int (by rw [HF.out]), hb01.trans (hb3.mono hb01.size)⟩
end Go.Proofs.Ytbjbamcpfjlllab
