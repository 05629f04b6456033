/-
  PacketOk: the contracts of the model and of the program. No condition.
-/
import Derived.Test.YtgbdpmaajihfdaaPk
namespace Go.Proofs.Ytgbdpmaajihfdaa
open Go.RowKit
set_option linter.all false
/-- Whether a packet is valid. -/
def pktB (p : Pk) : Bool := inR (p.acks.length : Int) 1 4 && (allW 0 400 p.acks && (inR p.fr 0 ((p.acks.length : Int) - 1) && (decide (p.ins.length ≤ 40) && (allW 0 15 p.ins && (inR p.first 0 (400 - (p.ins.length : Int)) && (inR p.tick 0 400 && (inR p.sumTick 0 400 && (inR p.sum 0 274877906943 && (inR p.time 0 1000000 && inR p.echo 0 1000000)))))))))
theorem RdI.two (W : World) (a b : Int) (t : TypeId) : RdI (W.alloc (.cells #[.int .i64 a, .int .i64 b] t)) (.slice (some ⟨W.heap.size, 0, none⟩) 2 2) [a, b] := by
  refine ⟨some ⟨W.heap.size, 0, none⟩, 2, rfl, .inr ⟨W.heap.size, 0, rfl, fun j hj => ?_⟩⟩
  rw [World.cell?_alloc_mark]
  match j, hj with
  | 0, _ => rfl
  | 1, _ => rfl
theorem allW_two (lo hi a b : Int) : allW lo hi [a, b] = (inR a lo hi && inR b lo hi) := by unfold allW; simp
set_option maxRecDepth 100000 in
set_option maxHeartbeats 4000000 in
theorem packetOk_impl {w : World} {p : Pk} {vi va : Value} (h : RdP w p vi va) (hs : p.sane) :
    Calls Try.prog 17 #[.agg (pkC p vi va)] w fun e w' => e = .returned (.bool (pktB p)) ∧ Below w.heap.size w w' := by
  obtain ⟨hs1, hs2⟩ := hs
  have h0 := h
  obtain ⟨ai, ci, rfl, -⟩ := id h.1
  obtain ⟨aa, ca, rfl, h2⟩ := id h.2
  unfold pkC
  obtain ⟨W0, hW, hA, hB0, hS0⟩ := rows1 w #[.int .i64 p.fr, .int .i64 p.tick, .int .i64 p.first, (.slice ai p.ins.length ci), (.slice aa p.acks.length ca), .int .i64 p.sumTick, .int .i64 p.sum, .int .i64 p.time, .int .i64 p.echo] 31
  have cA := rowCells hA
  have hli : (p.ins.length : Int) ≤ 9223372036854775807 := by omega
  have hla : (p.acks.length : Int) ≤ 9223372036854775807 := by omega
  have hk := h.keep hB0
  obtain ⟨W2, hW2, r2, hb2⟩ : ∃ W2, W0.alloc (.cells #[.int .i64 p.tick, .int .i64 p.sumTick] 3) = W2 ∧ RdI W2 (.slice (some ⟨W0.heap.size, 0, none⟩) 2 2) [p.tick, p.sumTick] ∧ Below W0.heap.size W0 W2 := ⟨_, rfl, RdI.two _ _ _ _, below1 _ _⟩
  have hA2 := keepHeap hb2 hA
  have cA2 := rowCells hA2
  have hb02 := hB0.trans (hb2.mono hB0.size)
  obtain ⟨W3, hW3, r3, hb3⟩ : ∃ W3, W2.alloc (.cells #[.int .i64 p.time, .int .i64 p.echo] 3) = W3 ∧ RdI W3 (.slice (some ⟨W2.heap.size, 0, none⟩) 2 2) [p.time, p.echo] ∧ Below W2.heap.size W2 W3 := ⟨_, rfl, RdI.two _ _ _ _, below1 _ _⟩
  have hb03 := hb02.trans (hb3.mono hb02.size)
  have T1 := allWithin_any r2 (by simp) 0 400
  have T2 := allWithin_any r3 (by simp) 0 1000000
  clear r2 r3 hb2 hb3 hA2
  go_enter Try.func17, Try.ntmps17
  go_wp2_with (fail)
  try rw [hW]
  clear hW
  refine (within_impl _ _ _ _).mono ?_
  rintro e w1 ⟨rfl, rfl⟩
  cases q0 : inR (p.acks.length : Int) 1 4 with
  | false =>
    have HF : Hid (pktB p = false) := Lib.hid (by unfold pktB; rw [q0]; simp)
    clear q0
    go_wp2_with (fail)
    go_ret
    exact ⟨by rw [HF.out]; rfl, hB0⟩
  | true =>
    have Q0 := Lib.hid q0
    clear q0
    go_wp2_with (fail)
    refine (allWithin_any hk.2 hs2 0 400).mono ?_
    rintro e w1 ⟨rfl, rfl⟩
    cases q1 : allW 0 400 p.acks with
    | false =>
      have HF : Hid (pktB p = false) := Lib.hid (by unfold pktB; rw [q1]; simp)
      clear q1
      go_wp2_with (fail)
      go_ret
      exact ⟨by rw [HF.out]; rfl, hB0⟩
    | true =>
      have Q1 := Lib.hid q1
      clear q1
      go_wp2_with (fail)
      refine (within_impl _ _ _ _).mono ?_
      rintro e w1 ⟨rfl, rfl⟩
      cases q2 : inR p.fr 0 ((p.acks.length : Int) - 1) with
      | false =>
        have HF : Hid (pktB p = false) := Lib.hid (by unfold pktB; rw [q2]; simp)
        clear q2
        go_wp2_with (fail)
        go_ret
        exact ⟨by rw [HF.out]; rfl, hB0⟩
      | true =>
        have Q2 := Lib.hid q2
        clear q2
        cases q3 : decide (p.ins.length ≤ 40) with
        | false =>
          have HF : Hid (pktB p = false) := Lib.hid (by unfold pktB; rw [q3]; simp)
          have z4 : decide ((40 : Int) < (p.ins.length : Int)) = true := by simp at q3 ⊢; omega
          clear q3
          go_wp2_with (fail)
          go_ret
          exact ⟨by rw [HF.out]; rfl, hB0⟩
        | true =>
          have Q3 := Lib.hid q3
          have z4 : decide ((40 : Int) < (p.ins.length : Int)) = false := by simp at q3 ⊢; omega
          clear q3
          go_wp2_with (fail)
          refine (inputsOk_any hk.1 hs1).mono ?_
          rintro e w1 ⟨rfl, rfl⟩
          cases q4 : allW 0 15 p.ins with
          | false =>
            have HF : Hid (pktB p = false) := Lib.hid (by unfold pktB; rw [q4]; simp)
            clear q4
            go_wp2_with (fail)
            go_ret
            exact ⟨by rw [HF.out]; rfl, hB0⟩
          | true =>
            have Q4 := Lib.hid q4
            clear q4
            go_wp2_with (fail)
            refine (within_impl _ _ _ _).mono ?_
            rintro e w1 ⟨rfl, rfl⟩
            cases q5 : inR p.first 0 (400 - (p.ins.length : Int)) with
            | false =>
              have HF : Hid (pktB p = false) := Lib.hid (by unfold pktB; rw [q5]; simp)
              clear q5
              go_wp2_with (fail)
              go_ret
              exact ⟨by rw [HF.out]; rfl, hB0⟩
            | true =>
              have Q5 := Lib.hid q5
              clear q5
              go_wp2_with (fail)
              try rw [hW2]
              clear hW2
              refine (T1).mono ?_
              rintro e w1 ⟨rfl, rfl⟩
              cases q6 : allW 0 400 [p.tick, p.sumTick] with
              | false =>
                have HF : Hid (pktB p = false) := Lib.hid (by rw [allW_two] at q6; unfold pktB; revert q6; cases inR p.tick 0 400 <;> cases inR p.sumTick 0 400 <;> simp)
                clear q6
                go_wp2_with (fail)
                go_ret
                exact ⟨by rw [HF.out]; rfl, hb02⟩
              | true =>
                have Q6 := Lib.hid q6
                clear q6
                go_wp2_with (fail)
                refine (within_impl _ _ _ _).mono ?_
                rintro e w1 ⟨rfl, rfl⟩
                cases q7 : inR p.sum 0 274877906943 with
                | false =>
                  have HF : Hid (pktB p = false) := Lib.hid (by unfold pktB; rw [q7]; simp)
                  clear q7
                  go_wp2_with (fail)
                  go_ret
                  exact ⟨by rw [HF.out]; rfl, hb02⟩
                | true =>
                  have Q7 := Lib.hid q7
                  clear q7
                  go_wp2_with (fail)
                  try rw [hW3]
                  clear hW3
                  refine (T2).mono ?_
                  rintro e w1 ⟨rfl, rfl⟩
                  cases q8 : allW 0 1000000 [p.time, p.echo] with
                  | false =>
                    have HF : Hid (pktB p = false) := Lib.hid (by rw [allW_two] at q8; unfold pktB; revert q8; cases inR p.time 0 1000000 <;> cases inR p.echo 0 1000000 <;> simp)
                    clear q8
                    go_wp2_with (fail)
                    go_ret
                    exact ⟨by rw [HF.out]; rfl, hb03⟩
                  | true =>
                    have Q8 := Lib.hid q8
                    clear q8
                    go_wp2_with (fail)
                    have HF : Hid (pktB p = true) := Lib.hid (by have q6 := Q6.out; have q8 := Q8.out; rw [allW_two, Bool.and_eq_true] at q6 q8; unfold pktB; rw [Q0.out, Q1.out, Q2.out, Q3.out, Q4.out, Q5.out, Q7.out, q6.1, q6.2, q8.1, q8.2]; rfl)
                    go_ret
                    exact ⟨by rw [HF.out]; rfl, hb03⟩
end Go.Proofs.Ytgbdpmaajihfdaa
