/-
  Suspects: the model, the program, the law. No condition.
-/
import Derived.Test.YtiidocjpeepheaaGreatDoorPrO
import Derived.Deep.RegionHeld3
import Derived.Deep.WholeRow
import Derived.Great.Walk
import Derived.Deep.Cut
import Derived.Deep.CutBlock
import Derived.Test.YtiidocjpeepheaaGreatDoorPk
namespace Go.Proofs.YtiidocjpeepheaaGreatDoor
open Go.RowKit
set_option linter.all false
/-- Whether a packet is valid. -/
def pktB (p : Pk) : Bool := inR (p.acks.length : Int) 1 4 && (allW 0 400 p.acks && (inR p.fr 0 ((p.acks.length : Int) - 1) && (decide (p.ins.length ≤ 40) && (allW 0 15 p.ins && (inR p.first 0 (400 - (p.ins.length : Int)) && (inR p.tick 0 400 && (inR p.sumTick 0 400 && (inR p.sum 0 274877906943 && (inR p.time 0 1000000 && inR p.echo 0 1000000)))))))))
theorem RdI.two (W : World) (a b : Int) (t : TypeId) : RdI (W.alloc (.cells #[.int .i64 a, .int .i64 b] t)) (.slice (some ⟨W.heap.size, 0, none⟩) 2 2) [a, b] := by
  refine ⟨some ⟨W.heap.size, 0, none⟩, 2, rfl, .inr ⟨W.heap.size, 0, rfl, fun j hj => ?_⟩⟩
  rw [World.cell?_alloc_mark]
  match j, hj with
  | 0, _ => rfl
  | 1, _ => rfl
theorem allW_two (lo hi a b : Int) : allW lo hi [a, b] = (inR a lo hi && inR b lo hi) := by unfold allW; simp
set_option maxRecDepth 100000 in
set_option maxHeartbeats 4000000 in
theorem packetOk_impl {w : World} {p : Pk} {vi va : Value} (h : RdP w p vi va) (hs : p.sane) :
    Calls Tryz.prog 48 #[.agg (pkC p vi va)] w fun e w' => e = .returned (.bool (pktB p)) ∧ Below w.heap.size w w' := by
  obtain ⟨hs1, hs2⟩ := hs
  have h0 := h
  obtain ⟨ai, ci, rfl, -⟩ := id h.1
  obtain ⟨aa, ca, rfl, h2⟩ := id h.2
  unfold pkC
  obtain ⟨W0, hW, hA, hB0, hS0⟩ := rows1 w #[.int .i64 p.fr, .int .i64 p.tick, .int .i64 p.first, (.slice ai p.ins.length ci), (.slice aa p.acks.length ca), .int .i64 p.sumTick, .int .i64 p.sum, .int .i64 p.time, .int .i64 p.echo] 55
  have cA := rowCells hA
  have hli : (p.ins.length : Int) ≤ 9223372036854775807 := by omega
  have hla : (p.acks.length : Int) ≤ 9223372036854775807 := by omega
  have hk := h.keep hB0
  obtain ⟨W2, hW2, r2, hb2⟩ : ∃ W2, W0.alloc (.cells #[.int .i64 p.tick, .int .i64 p.sumTick] 3) = W2 ∧ RdI W2 (.slice (some ⟨W0.heap.size, 0, none⟩) 2 2) [p.tick, p.sumTick] ∧ Below W0.heap.size W0 W2 := ⟨_, rfl, RdI.two _ _ _ _, below1 _ _⟩
  have hA2 := keepHeap hb2 hA
  have cA2 := rowCells hA2
  have hb02 := hB0.trans (hb2.mono hB0.size)
  obtain ⟨W3, hW3, r3, hb3⟩ : ∃ W3, W2.alloc (.cells #[.int .i64 p.time, .int .i64 p.echo] 3) = W3 ∧ RdI W3 (.slice (some ⟨W2.heap.size, 0, none⟩) 2 2) [p.time, p.echo] ∧ Below W2.heap.size W2 W3 := ⟨_, rfl, RdI.two _ _ _ _, below1 _ _⟩
  have hb03 := hb02.trans (hb3.mono hb02.size)
  have T1 := allWithin_any r2 (by simp) 0 400
  have T2 := allWithin_any r3 (by simp) 0 1000000
  clear r2 r3 hb2 hb3 hA2
  go_enter Tryz.func48, Tryz.ntmps48
  go_wp2_with (fail)
  try rw [hW]
  clear hW
  refine (within_impl _ _ _ _).mono ?_
  rintro e w1 ⟨rfl, rfl⟩
  cases q0 : inR (p.acks.length : Int) 1 4 with
  | false =>
    have HF : Hid (pktB p = false) := Lib.hid (by unfold pktB; rw [q0]; simp)
    clear q0
    go_wp2_with (fail)
    go_ret
    exact ⟨by rw [HF.out]; rfl, hB0⟩
  | true =>
    have Q0 := Lib.hid q0
    clear q0
    go_wp2_with (fail)
    refine (allWithin_any hk.2 hs2 0 400).mono ?_
    rintro e w1 ⟨rfl, rfl⟩
    cases q1 : allW 0 400 p.acks with
    | false =>
      have HF : Hid (pktB p = false) := Lib.hid (by unfold pktB; rw [q1]; simp)
      clear q1
      go_wp2_with (fail)
      go_ret
      exact ⟨by rw [HF.out]; rfl, hB0⟩
    | true =>
      have Q1 := Lib.hid q1
      clear q1
      go_wp2_with (fail)
      refine (within_impl _ _ _ _).mono ?_
      rintro e w1 ⟨rfl, rfl⟩
      cases q2 : inR p.fr 0 ((p.acks.length : Int) - 1) with
      | false =>
        have HF : Hid (pktB p = false) := Lib.hid (by unfold pktB; rw [q2]; simp)
        clear q2
        go_wp2_with (fail)
        go_ret
        exact ⟨by rw [HF.out]; rfl, hB0⟩
      | true =>
        have Q2 := Lib.hid q2
        clear q2
        cases q3 : decide (p.ins.length ≤ 40) with
        | false =>
          have HF : Hid (pktB p = false) := Lib.hid (by unfold pktB; rw [q3]; simp)
          have z4 : decide ((40 : Int) < (p.ins.length : Int)) = true := by simp at q3 ⊢; omega
          clear q3
          go_wp2_with (fail)
          go_ret
          exact ⟨by rw [HF.out]; rfl, hB0⟩
        | true =>
          have Q3 := Lib.hid q3
          have z4 : decide ((40 : Int) < (p.ins.length : Int)) = false := by simp at q3 ⊢; omega
          clear q3
          go_wp2_with (fail)
          refine (inputsOk_any hk.1 hs1).mono ?_
          rintro e w1 ⟨rfl, rfl⟩
          cases q4 : allW 0 15 p.ins with
          | false =>
            have HF : Hid (pktB p = false) := Lib.hid (by unfold pktB; rw [q4]; simp)
            clear q4
            go_wp2_with (fail)
            go_ret
            exact ⟨by rw [HF.out]; rfl, hB0⟩
          | true =>
            have Q4 := Lib.hid q4
            clear q4
            go_wp2_with (fail)
            refine (within_impl _ _ _ _).mono ?_
            rintro e w1 ⟨rfl, rfl⟩
            cases q5 : inR p.first 0 (400 - (p.ins.length : Int)) with
            | false =>
              have HF : Hid (pktB p = false) := Lib.hid (by unfold pktB; rw [q5]; simp)
              clear q5
              go_wp2_with (fail)
              go_ret
              exact ⟨by rw [HF.out]; rfl, hB0⟩
            | true =>
              have Q5 := Lib.hid q5
              clear q5
              go_wp2_with (fail)
              try rw [hW2]
              clear hW2
              refine (T1).mono ?_
              rintro e w1 ⟨rfl, rfl⟩
              cases q6 : allW 0 400 [p.tick, p.sumTick] with
              | false =>
                have HF : Hid (pktB p = false) := Lib.hid (by rw [allW_two] at q6; unfold pktB; revert q6; cases inR p.tick 0 400 <;> cases inR p.sumTick 0 400 <;> simp)
                clear q6
                go_wp2_with (fail)
                go_ret
                exact ⟨by rw [HF.out]; rfl, hb02⟩
              | true =>
                have Q6 := Lib.hid q6
                clear q6
                go_wp2_with (fail)
                refine (within_impl _ _ _ _).mono ?_
                rintro e w1 ⟨rfl, rfl⟩
                cases q7 : inR p.sum 0 274877906943 with
                | false =>
                  have HF : Hid (pktB p = false) := Lib.hid (by unfold pktB; rw [q7]; simp)
                  clear q7
                  go_wp2_with (fail)
                  go_ret
                  exact ⟨by rw [HF.out]; rfl, hb02⟩
                | true =>
                  have Q7 := Lib.hid q7
                  clear q7
                  go_wp2_with (fail)
                  try rw [hW3]
                  clear hW3
                  refine (T2).mono ?_
                  rintro e w1 ⟨rfl, rfl⟩
                  cases q8 : allW 0 1000000 [p.time, p.echo] with
                  | false =>
                    have HF : Hid (pktB p = false) := Lib.hid (by rw [allW_two] at q8; unfold pktB; revert q8; cases inR p.time 0 1000000 <;> cases inR p.echo 0 1000000 <;> simp)
                    clear q8
                    go_wp2_with (fail)
                    go_ret
                    exact ⟨by rw [HF.out]; rfl, hb03⟩
                  | true =>
                    have Q8 := Lib.hid q8
                    clear q8
                    go_wp2_with (fail)
                    have HF : Hid (pktB p = true) := Lib.hid (by have q6 := Q6.out; have q8 := Q8.out; rw [allW_two, Bool.and_eq_true] at q6 q8; unfold pktB; rw [Q0.out, Q1.out, Q2.out, Q3.out, Q4.out, Q5.out, Q7.out, q6.1, q6.2, q8.1, q8.2]; rfl)
                    go_ret
                    exact ⟨by rw [HF.out]; rfl, hb03⟩
set_option maxRecDepth 100000 in
set_option maxHeartbeats 4000000 in
theorem packetOk_spec {w : World} {p : Pk} {vi va : Value} (h : RdP w p vi va) (hs : p.sane) :
    Calls Tryz.prog 47 #[.agg (pkC p vi va)] w fun e w' => e = .returned (.bool (pktB p)) ∧ Below w.heap.size w w' := by
  obtain ⟨hs1, hs2⟩ := hs
  have h0 := h
  obtain ⟨ai, ci, rfl, -⟩ := id h.1
  obtain ⟨aa, ca, rfl, h2⟩ := id h.2
  unfold pkC
  obtain ⟨W0, hW, hA, hB0, hS0⟩ := rows1 w #[.int .i64 p.fr, .int .i64 p.tick, .int .i64 p.first, (.slice ai p.ins.length ci), (.slice aa p.acks.length ca), .int .i64 p.sumTick, .int .i64 p.sum, .int .i64 p.time, .int .i64 p.echo] 55
  have cA := rowCells hA
  have hli : (p.ins.length : Int) ≤ 9223372036854775807 := by omega
  have hla : (p.acks.length : Int) ≤ 9223372036854775807 := by omega
  have hk := h.keep hB0
  go_enter Tryz.func47, Tryz.ntmps47
  go_wp2_with (fail)
  try rw [hW]
  go_loop [3] (fun i => ∃ k : Nat, k ≤ p.acks.length ∧ i = .int .i64 (k : Int) ∧ ∀ j (hj : j < p.acks.length), j < k → inR p.acks[j] 0 400 = true) (fun i => p.acks.length - (intOf i).toNat)
  case atStart => exact ⟨0, Nat.zero_le _, rfl, fun _ _ h => by omega⟩
  case round =>
    obtain ⟨k, hkk, rfl, hat⟩ := hrel
    have HA := Lib.hid hat
    clear hat
    by_cases hkl : k < p.acks.length
    · obtain ⟨b, off, rfl, hc⟩ := h2.resolve_left (by intro e; rw [e] at hkl; simp at hkl)
      obtain ⟨x, hx⟩ : ∃ x, x = p.acks[k] := ⟨_, rfl⟩
      have c0 := hc k hkl
      have c1 : W0.cell? ⟨b, off + k, none⟩ = some (.int .i64 x) := by rw [hx]; exact (hB0.cell (World.block_lt_of_cell? w _ c0)).trans c0
      have hl1 : (k : Int) < (p.acks.length : Int) := by omega
      cases hq : inR x 0 400 with
      | true =>
        have HQ : Hid (inR p.acks[k] 0 400 = true) := Lib.hid (by rw [← hx]; exact hq)
        have Q := Lib.hid hq
        clear hx hc h2 hq c0
        go_wp2_with (fail)
        refine (in_spec _ _ _ _).mono ?_
        rintro e w1 ⟨rfl, rfl⟩
        rw [Q.out]
        go_wp2_with (fail)
        go_round
        case rel =>
          refine ⟨k + 1, by omega, by go_num, fun j hj hjk => ?_⟩
          by_cases e : j = k
          · subst e; exact HQ.out
          · exact HA.out j hj (by omega)
        case measure => simp [intOf]; omega
      | false =>
        have HF : Hid (pktB p = false) := Lib.hid (by unfold pktB; rw [allW_bad (lo := 0) (hi := 400) hkl (by rw [← hx]; exact hq)]; simp)
        have Q := Lib.hid hq
        clear hx hc h2 hq c0
        go_wp2_with (fail)
        refine (in_spec _ _ _ _).mono ?_
        rintro e w1 ⟨rfl, rfl⟩
        rw [Q.out]
        go_wp2_with (fail)
        go_ret
        exact ⟨by rw [HF.out]; rfl, hB0⟩
    · have HALL := Lib.hid (allW_ok (lo := 0) (hi := 400) (xs := p.acks) (fun j hj => HA.out j hj (by omega)))
      go_wp2_with (fail)
      refine (in_spec _ _ _ _).mono ?_
      rintro e w1 ⟨rfl, rfl⟩
      cases q0 : inR (p.acks.length : Int) 1 4 with
      | false =>
        have HF : Hid (pktB p = false) := Lib.hid (by unfold pktB; rw [q0]; simp)
        clear q0
        go_wp2_with (fail)
        go_ret
        exact ⟨by rw [HF.out]; rfl, hB0⟩
      | true =>
        have Q0 := Lib.hid q0
        clear q0
        go_wp2_with (fail)
        refine (in_spec _ _ _ _).mono ?_
        rintro e w1 ⟨rfl, rfl⟩
        cases q1 : inR p.fr 0 ((p.acks.length : Int) - 1) with
        | false =>
          have HF : Hid (pktB p = false) := Lib.hid (by unfold pktB; rw [q1]; simp)
          clear q1
          go_wp2_with (fail)
          go_ret
          exact ⟨by rw [HF.out]; rfl, hB0⟩
        | true =>
          have Q1 := Lib.hid q1
          clear q1
          cases q2 : decide (p.ins.length ≤ 40) with
          | false =>
            have HF : Hid (pktB p = false) := Lib.hid (by unfold pktB; rw [q2]; simp)
            have z4 : decide ((p.ins.length : Int) ≤ 40) = false := by simp at q2 ⊢; omega
            clear q2
            go_wp2_with (fail)
            go_ret
            exact ⟨by rw [HF.out]; rfl, hB0⟩
          | true =>
            have Q2 := Lib.hid q2
            have z4 : decide ((p.ins.length : Int) ≤ 40) = true := by simp at q2 ⊢; omega
            clear q2
            go_wp2_with (fail)
            refine (l03Inputs_any hk.1 hs1).mono ?_
            rintro e w1 ⟨rfl, rfl⟩
            cases q3 : allW 0 15 p.ins with
            | false =>
              have HF : Hid (pktB p = false) := Lib.hid (by unfold pktB; rw [q3]; simp)
              clear q3
              go_wp2_with (fail)
              go_ret
              exact ⟨by rw [HF.out]; rfl, hB0⟩
            | true =>
              have Q3 := Lib.hid q3
              clear q3
              go_wp2_with (fail)
              refine (in_spec _ _ _ _).mono ?_
              rintro e w1 ⟨rfl, rfl⟩
              cases q4 : inR p.first 0 (400 - (p.ins.length : Int)) with
              | false =>
                have HF : Hid (pktB p = false) := Lib.hid (by unfold pktB; rw [q4]; simp)
                clear q4
                go_wp2_with (fail)
                go_ret
                exact ⟨by rw [HF.out]; rfl, hB0⟩
              | true =>
                have Q4 := Lib.hid q4
                clear q4
                go_wp2_with (fail)
                refine (in_spec _ _ _ _).mono ?_
                rintro e w1 ⟨rfl, rfl⟩
                cases q5 : inR p.tick 0 400 with
                | false =>
                  have HF : Hid (pktB p = false) := Lib.hid (by unfold pktB; rw [q5]; simp)
                  clear q5
                  go_wp2_with (fail)
                  go_ret
                  exact ⟨by rw [HF.out]; rfl, hB0⟩
                | true =>
                  have Q5 := Lib.hid q5
                  clear q5
                  go_wp2_with (fail)
                  refine (in_spec _ _ _ _).mono ?_
                  rintro e w1 ⟨rfl, rfl⟩
                  cases q6 : inR p.sumTick 0 400 with
                  | false =>
                    have HF : Hid (pktB p = false) := Lib.hid (by unfold pktB; rw [q6]; simp)
                    clear q6
                    go_wp2_with (fail)
                    go_ret
                    exact ⟨by rw [HF.out]; rfl, hB0⟩
                  | true =>
                    have Q6 := Lib.hid q6
                    clear q6
                    go_wp2_with (fail)
                    refine (in_spec _ _ _ _).mono ?_
                    rintro e w1 ⟨rfl, rfl⟩
                    cases q7 : inR p.sum 0 274877906943 with
                    | false =>
                      have HF : Hid (pktB p = false) := Lib.hid (by unfold pktB; rw [q7]; simp)
                      clear q7
                      go_wp2_with (fail)
                      go_ret
                      exact ⟨by rw [HF.out]; rfl, hB0⟩
                    | true =>
                      have Q7 := Lib.hid q7
                      clear q7
                      go_wp2_with (fail)
                      refine (in_spec _ _ _ _).mono ?_
                      rintro e w1 ⟨rfl, rfl⟩
                      cases q8 : inR p.time 0 1000000 with
                      | false =>
                        have HF : Hid (pktB p = false) := Lib.hid (by unfold pktB; rw [q8]; simp)
                        clear q8
                        go_wp2_with (fail)
                        go_ret
                        exact ⟨by rw [HF.out]; rfl, hB0⟩
                      | true =>
                        have Q8 := Lib.hid q8
                        clear q8
                        go_wp2_with (fail)
                        refine (in_spec _ _ _ _).mono ?_
                        rintro e w1 ⟨rfl, rfl⟩
                        cases q9 : inR p.echo 0 1000000 with
                        | false =>
                          have HF : Hid (pktB p = false) := Lib.hid (by unfold pktB; rw [q9]; simp)
                          clear q9
                          go_wp2_with (fail)
                          go_ret
                          exact ⟨by rw [HF.out]; rfl, hB0⟩
                        | true =>
                          have Q9 := Lib.hid q9
                          clear q9
                          go_wp2_with (fail)
                          have HF : Hid (pktB p = true) := Lib.hid (by unfold pktB; rw [HALL.out, Q0.out, Q1.out, Q2.out, Q3.out, Q4.out, Q5.out, Q6.out, Q7.out, Q8.out, Q9.out]; rfl)
                          go_ret
                          exact ⟨by rw [HF.out]; rfl, hB0⟩
end Go.Proofs.YtiidocjpeepheaaGreatDoor
namespace Go.Proofs.YtiidocjpeepheaaGreatDoor
open Go.RowKit Go.Great
set_option linter.all false
theorem exec_load_row {P : Program} {o : Oper} {a : Act} {w : World} (ty : TypeId) (x : Operand) (ho : o.op = .load ty x)
    (g : Nat) (hx : a.eval x = .pointer (some ⟨g, 0, none⟩)) (t : TypeId) (cs : Array Value) (fr : Nat × Nat) (d : TypeDesc) (hg : w.heap[g]? = some (.cells cs t fr))
    (hu : P.underlying ty = some d) (hd : (match d with | .struct _ | .array _ _ => true | _ => false) = true) (hi : (P.info? ty).map (·.size) = some cs.size) :
    (execOp a.eval o).run P w = .ok (.value (.agg cs)) w := by
  unfold execOp
  simp only [ho, hx, Instr.loadAt, Instr.sureAddr, Sem.run_bind, Sem.run_pure, Result.andThen_ok, run_loadVar_row w g t ty cs fr d hg hu hd hi]
def suspB (p : Pr) (x : Pk) : Bool := peerB p && (pktB x && (decide (x.sumTick < (p.sums.length : Int)) && (p.sums.getD x.sumTick.toNat 0 != x.sum)))
theorem susp_p {p : Pr} {x : Pk} (h : peerB p = false) : suspB p x = false := by unfold suspB; rw [h]; rfl
theorem susp_x {p : Pr} {x : Pk} (h : pktB x = false) : suspB p x = false := by unfold suspB; rw [h]; simp
theorem susp_l {p : Pr} {x : Pk} (h : ¬ x.sumTick < (p.sums.length : Int)) : suspB p x = false := by unfold suspB; rw [decide_eq_false h]; simp
theorem susp_ok {p : Pr} {x : Pk} {k : Nat} (h1 : peerB p = true) (h2 : pktB x = true) (hk : x.sumTick = (k : Int)) (hl : k < p.sums.length) : suspB p x = (p.sums[k] != x.sum) := by
  have e : p.sums.getD x.sumTick.toNat 0 = p.sums[k] := by rw [hk, Int.toNat_natCast, List.getD_eq_getElem?_getD, List.getElem?_eq_getElem hl, Option.getD_some]
  have e2 : x.sumTick < (p.sums.length : Int) := by rw [hk]; omega
  unfold suspB; rw [h1, h2, decide_eq_true e2, e]; rfl
theorem pk_sum {x : Pk} (h : pktB x = true) : 0 ≤ x.sumTick := by
  unfold pktB at h
  simp only [Bool.and_eq_true] at h
  exact ((inR_iff _ _ _).1 h.2.2.2.2.2.2.2.1).1
set_option maxRecDepth 100000 in
set_option maxHeartbeats 8000000 in
theorem suspects_spec {w : World} {p : Pr} {vt bl bs bb nl ns nb vu vv vs : Value} {x : Pk} {vi va : Value} (h : RdPr w p vt bl bs bb nl ns nb vu vv vs) (hs : p.sane) (hn : p.few) (g : RdP w x vi va) (gs : x.sane) :
    Calls Tryz.prog 18 #[.agg (prC p vt bl bs bb nl ns nb vu vv vs), .agg (pkC x vi va)] w fun e w' => e = .returned (.bool (suspB p x)) ∧ Below w.heap.size w w' := by
  cases hq : peerB p with
  | false =>
    have HC := Lib.hid (susp_p (x := x) hq)
    have h0 := h
    have g0 := g
    have hp := fun {W : World} (h1 : RdPr W p vt bl bs bb nl ns nb vu vv vs) => peerOk_spec h1 hs hn
    have hx := fun {W : World} (h1 : RdP W x vi va) => packetOk_spec h1 gs
    rw [hq] at hp
    clear h g hq 
    unfold prC pkC at *
    obtain ⟨W0, hW, hAr, hBr, q_0, -⟩ := rows2 w #[Value.int .i64 p.me, .int .i64 p.delay, .int .i64 p.ahead, .int .i64 p.seed, vt, bl, .int .i64 p.base.tick, .int .i64 p.base.seed, bs, bb, nl, .int .i64 p.now.tick, .int .i64 p.now.seed, ns, nb, vu, vv, vs, .int .i64 p.fault.tick, .int .i64 p.fault.player, .int .i64 p.fault.add, .int .i64 p.rolls, .int .i64 p.again] #[Value.int .i64 x.fr, .int .i64 x.tick, .int .i64 x.first, vi, va, .int .i64 x.sumTick, .int .i64 x.sum, .int .i64 x.time, .int .i64 x.echo] 46 55
    go_enter Tryz.func18, Tryz.ntmps18
    go_upto_region 1 with (fail)
    try rw [hW]
    clear hW
    have bs_0 : Below W0.heap.size W0 W0.drew := belowDrew W0 1
    refine wp_region_held_drew (S := (fun w' => w'.heap[w.heap.size]? = some (.cells #[Value.int .i64 p.me, .int .i64 p.delay, .int .i64 p.ahead, .int .i64 p.seed, vt, bl, .int .i64 p.base.tick, .int .i64 p.base.seed, bs, bb, nl, .int .i64 p.now.tick, .int .i64 p.now.seed, ns, nb, vu, vv, vs, .int .i64 p.fault.tick, .int .i64 p.fault.player, .int .i64 p.fault.add, .int .i64 p.rolls, .int .i64 p.again] 46 (0, 0)) ∧ (∀ j, w'.cell? ⟨w.heap.size, j, none⟩ = #[Value.int .i64 p.me, .int .i64 p.delay, .int .i64 p.ahead, .int .i64 p.seed, vt, bl, .int .i64 p.base.tick, .int .i64 p.base.seed, bs, bb, nl, .int .i64 p.now.tick, .int .i64 p.now.seed, ns, nb, vu, vv, vs, .int .i64 p.fault.tick, .int .i64 p.fault.player, .int .i64 p.fault.add, .int .i64 p.rolls, .int .i64 p.again][j]?) ∧ (∀ j, w'.cell? ⟨w.heap.size + 1, j, none⟩ = #[Value.int .i64 x.fr, .int .i64 x.tick, .int .i64 x.first, vi, va, .int .i64 x.sumTick, .int .i64 x.sum, .int .i64 x.time, .int .i64 x.echo][j]?))) (by kernel_rfl) ?_ (fun hHeld => ?_)
    · exact ⟨keepHeap bs_0 hAr, rowCells (keepHeap bs_0 hAr), rowCells (keepHeap bs_0 hBr)⟩
    refine take_on (i := 0) (v := .agg #[Value.int .i64 p.me, .int .i64 p.delay, .int .i64 p.ahead, .int .i64 p.seed, vt, bl, .int .i64 p.base.tick, .int .i64 p.base.seed, bs, bb, nl, .int .i64 p.now.tick, .int .i64 p.now.seed, ns, nb, vu, vv, vs, .int .i64 p.fault.tick, .int .i64 p.fault.player, .int .i64 p.fault.add, .int .i64 p.rolls, .int .i64 p.again]) (some 5) rfl (by kernel_rfl) (by kernel_rfl) (by kernel_rfl) rfl (fun _ _ _ h => h) (by rfl) (fun W hW => exec_load_row 46 _ rfl (w.heap.size) rfl 46 _ (0, 0) _ hW.1 Tryz.underlying46 rfl (by kernel_rfl)) (by assumption) ?_
    (try simp only [Act.put, List.setIfInBounds_toArray, List.set_cons_zero, List.set_cons_succ])
    refine wpAnyH_ready (rs := [1]) (by kernel_rfl) (by simp) ?_
    refine AllReadyH.cons rfl (fun K hK => ?_) AllReadyH.nil
    go_simp
    refine (hp (h0.keep (q_0.trans (bs_0.mono q_0.size)))).mono ?_
    rintro e w_1 ⟨rfl, hb_1⟩
    have bs_1 := bs_0.trans (hb_1.mono bs_0.size)
    (try go_wp2_with (fail))
    refine hK.out _ _ ?_ (fun hHeld => ?_)
    · exact ⟨keepHeap bs_1 hAr, rowCells (keepHeap bs_1 hAr), rowCells (keepHeap bs_1 hBr)⟩
    clear hK K
    (try simp only [Act.put, List.setIfInBounds_toArray, List.set_cons_zero, List.set_cons_succ])
    refine take_on (i := 2) (v := ?_) (some 7) rfl (by kernel_rfl) (by kernel_rfl) (by kernel_rfl) rfl (fun _ _ _ h => h) (by rfl) ?_ (by assumption) ?_
    rotate_left
    · intro w hSw; (try dsimp only at hSw); go_simp; (try with_reducible rfl)
    (try simp only [Act.put, List.setIfInBounds_toArray, List.set_cons_zero, List.set_cons_succ])
    refine take_off (i := 3) (some 8) rfl (by kernel_rfl) (by kernel_rfl) (by kernel_rfl) rfl (fun _ _ _ h => h) (wanted_off (k := 2) (d := 7) (b := true) (c := false) rfl rfl rfl rfl) (by assumption) ?_
    (try simp only [Act.put, List.setIfInBounds_toArray, List.set_cons_zero, List.set_cons_succ])
    refine take_off (i := 4) (some 9) rfl (by kernel_rfl) (by kernel_rfl) (by kernel_rfl) rfl (fun _ _ _ h => h) (wanted_off (k := 2) (d := 7) (b := true) (c := false) rfl rfl rfl rfl) (by assumption) ?_
    (try simp only [Act.put, List.setIfInBounds_toArray, List.set_cons_zero, List.set_cons_succ])
    refine take_on (i := 5) (v := ?_) (some 10) rfl (by kernel_rfl) (by kernel_rfl) (by kernel_rfl) rfl (fun _ _ _ h => h) (by rfl) ?_ (by assumption) ?_
    rotate_left
    · intro w hSw; (try dsimp only at hSw); go_simp; (try with_reducible rfl)
    (try simp only [Act.put, List.setIfInBounds_toArray, List.set_cons_zero, List.set_cons_succ])
    refine take_on (i := 6) (v := ?_) (some 11) rfl (by kernel_rfl) (by kernel_rfl) (by kernel_rfl) rfl (fun _ _ _ h => h) (by rfl) ?_ (by assumption) ?_
    rotate_left
    · intro w hSw; (try dsimp only at hSw); go_simp; (try with_reducible rfl)
    (try simp only [Act.put, List.setIfInBounds_toArray, List.set_cons_zero, List.set_cons_succ])
    refine take_off (i := 7) (some 12) rfl (by kernel_rfl) (by kernel_rfl) (by kernel_rfl) rfl (fun _ _ _ h => h) (wanted_off (k := 6) (d := 11) (b := true) (c := false) rfl rfl rfl rfl) (by assumption) ?_
    (try simp only [Act.put, List.setIfInBounds_toArray, List.set_cons_zero, List.set_cons_succ])
    refine take_off (i := 8) (some 13) rfl (by kernel_rfl) (by kernel_rfl) (by kernel_rfl) rfl (fun _ _ _ h => h) (wanted_off (k := 6) (d := 11) (b := true) (c := false) rfl rfl rfl rfl) (by assumption) ?_
    (try simp only [Act.put, List.setIfInBounds_toArray, List.set_cons_zero, List.set_cons_succ])
    refine take_off (i := 9) (some 14) rfl (by kernel_rfl) (by kernel_rfl) (by kernel_rfl) rfl (fun _ _ _ h => h) (wanted_off (k := 6) (d := 11) (b := true) (c := false) rfl rfl rfl rfl) (by assumption) ?_
    (try simp only [Act.put, List.setIfInBounds_toArray, List.set_cons_zero, List.set_cons_succ])
    refine take_off (i := 10) (some 15) rfl (by kernel_rfl) (by kernel_rfl) (by kernel_rfl) rfl (fun _ _ _ h => h) (wanted_off (k := 6) (d := 11) (b := true) (c := false) rfl rfl rfl rfl) (by assumption) ?_
    (try simp only [Act.put, List.setIfInBounds_toArray, List.set_cons_zero, List.set_cons_succ])
    refine take_off (i := 11) (some 16) rfl (by kernel_rfl) (by kernel_rfl) (by kernel_rfl) rfl (fun _ _ _ h => h) (wanted_off (k := 6) (d := 11) (b := true) (c := false) rfl rfl rfl rfl) (by assumption) ?_
    (try simp only [Act.put, List.setIfInBounds_toArray, List.set_cons_zero, List.set_cons_succ])
    refine take_off (i := 12) (some 17) rfl (by kernel_rfl) (by kernel_rfl) (by kernel_rfl) rfl (fun _ _ _ h => h) (wanted_off (k := 6) (d := 11) (b := true) (c := false) rfl rfl rfl rfl) (by assumption) ?_
    (try simp only [Act.put, List.setIfInBounds_toArray, List.set_cons_zero, List.set_cons_succ])
    refine take_on (i := 13) (v := ?_) (some 18) rfl (by kernel_rfl) (by kernel_rfl) (by kernel_rfl) rfl (fun _ _ _ h => h) (by rfl) ?_ (by assumption) ?_
    rotate_left
    · intro w hSw; (try dsimp only at hSw); go_simp; (try with_reducible rfl)
    (try simp only [Act.put, List.setIfInBounds_toArray, List.set_cons_zero, List.set_cons_succ])
    refine take_on (i := 14) (v := ?_) (some 19) rfl (by kernel_rfl) (by kernel_rfl) (by kernel_rfl) rfl (fun _ _ _ h => h) (by rfl) ?_ (by assumption) ?_
    rotate_left
    · intro w hSw; (try dsimp only at hSw); go_simp; (try with_reducible rfl)
    (try simp only [Act.put, List.setIfInBounds_toArray, List.set_cons_zero, List.set_cons_succ])
    refine take_off (i := 15) (some 20) rfl (by kernel_rfl) (by kernel_rfl) (by kernel_rfl) rfl (fun _ _ _ h => h) (wanted_off (k := 14) (d := 19) (b := true) (c := false) rfl rfl rfl rfl) (by assumption) ?_
    (try simp only [Act.put, List.setIfInBounds_toArray, List.set_cons_zero, List.set_cons_succ])
    refine take_off (i := 16) (some 21) rfl (by kernel_rfl) (by kernel_rfl) (by kernel_rfl) rfl (fun _ _ _ h => h) (wanted_off (k := 14) (d := 19) (b := true) (c := false) rfl rfl rfl rfl) (by assumption) ?_
    (try simp only [Act.put, List.setIfInBounds_toArray, List.set_cons_zero, List.set_cons_succ])
    refine take_off (i := 17) (some 22) rfl (by kernel_rfl) (by kernel_rfl) (by kernel_rfl) rfl (fun _ _ _ h => h) (wanted_off (k := 14) (d := 19) (b := true) (c := false) rfl rfl rfl rfl) (by assumption) ?_
    (try simp only [Act.put, List.setIfInBounds_toArray, List.set_cons_zero, List.set_cons_succ])
    refine take_off (i := 18) (some 23) rfl (by kernel_rfl) (by kernel_rfl) (by kernel_rfl) rfl (fun _ _ _ h => h) (wanted_off (k := 14) (d := 19) (b := true) (c := false) rfl rfl rfl rfl) (by assumption) ?_
    (try simp only [Act.put, List.setIfInBounds_toArray, List.set_cons_zero, List.set_cons_succ])
    refine take_off (i := 19) (some 24) rfl (by kernel_rfl) (by kernel_rfl) (by kernel_rfl) rfl (fun _ _ _ h => h) (wanted_off (k := 14) (d := 19) (b := true) (c := false) rfl rfl rfl rfl) (by assumption) ?_
    (try simp only [Act.put, List.setIfInBounds_toArray, List.set_cons_zero, List.set_cons_succ])
    refine take_off (i := 20) (some 25) rfl (by kernel_rfl) (by kernel_rfl) (by kernel_rfl) rfl (fun _ _ _ h => h) (wanted_off (k := 14) (d := 19) (b := true) (c := false) rfl rfl rfl rfl) (by assumption) ?_
    (try simp only [Act.put, List.setIfInBounds_toArray, List.set_cons_zero, List.set_cons_succ])
    refine take_off (i := 21) (some 26) rfl (by kernel_rfl) (by kernel_rfl) (by kernel_rfl) rfl (fun _ _ _ h => h) (wanted_off (k := 14) (d := 19) (b := true) (c := false) rfl rfl rfl rfl) (by assumption) ?_
    (try simp only [Act.put, List.setIfInBounds_toArray, List.set_cons_zero, List.set_cons_succ])
    refine take_off (i := 22) (some 27) rfl (by kernel_rfl) (by kernel_rfl) (by kernel_rfl) rfl (fun _ _ _ h => h) (wanted_off (k := 14) (d := 19) (b := true) (c := false) rfl rfl rfl rfl) (by assumption) ?_
    (try simp only [Act.put, List.setIfInBounds_toArray, List.set_cons_zero, List.set_cons_succ])
    refine take_off (i := 23) (some 28) rfl (by kernel_rfl) (by kernel_rfl) (by kernel_rfl) rfl (fun _ _ _ h => h) (wanted_off (k := 14) (d := 19) (b := true) (c := false) rfl rfl rfl rfl) (by assumption) ?_
    (try simp only [Act.put, List.setIfInBounds_toArray, List.set_cons_zero, List.set_cons_succ])
    refine take_on (i := 24) (v := ?_) (some 29) rfl (by kernel_rfl) (by kernel_rfl) (by kernel_rfl) rfl (fun _ _ _ h => h) (by rfl) ?_ (by assumption) ?_
    rotate_left
    · intro w hSw; (try dsimp only at hSw); go_simp; (try with_reducible rfl)
    (try simp only [Act.put, List.setIfInBounds_toArray, List.set_cons_zero, List.set_cons_succ])
    refine take_on (i := 25) (v := ?_) (some 4) rfl (by kernel_rfl) (by kernel_rfl) (by kernel_rfl) rfl (fun _ _ _ h => h) (by rfl) ?_ (by assumption) ?_
    rotate_left
    · intro w hSw; (try dsimp only at hSw); go_simp; (try with_reducible rfl)
    (try simp only [Act.put, List.setIfInBounds_toArray, List.set_cons_zero, List.set_cons_succ])
    refine wpAnyH_done (by kernel_rfl) ?_ _
    have HF := Lib.hid HC.out
    go_wp2_with (fail)
    go_ret
    exact ⟨by rw [HF.out]; first | rfl | (simp; done), q_0.trans (bs_1.mono q_0.size)⟩
  | true =>
    cases hqx : pktB x with
    | false =>
      have HC := Lib.hid (susp_x (p := p) hqx)
      have h0 := h
      have g0 := g
      have hp := fun {W : World} (h1 : RdPr W p vt bl bs bb nl ns nb vu vv vs) => peerOk_spec h1 hs hn
      have hx := fun {W : World} (h1 : RdP W x vi va) => packetOk_spec h1 gs
      rw [hq] at hp
      rw [hqx] at hx
      clear h g hq hqx
      unfold prC pkC at *
      obtain ⟨W0, hW, hAr, hBr, q_0, -⟩ := rows2 w #[Value.int .i64 p.me, .int .i64 p.delay, .int .i64 p.ahead, .int .i64 p.seed, vt, bl, .int .i64 p.base.tick, .int .i64 p.base.seed, bs, bb, nl, .int .i64 p.now.tick, .int .i64 p.now.seed, ns, nb, vu, vv, vs, .int .i64 p.fault.tick, .int .i64 p.fault.player, .int .i64 p.fault.add, .int .i64 p.rolls, .int .i64 p.again] #[Value.int .i64 x.fr, .int .i64 x.tick, .int .i64 x.first, vi, va, .int .i64 x.sumTick, .int .i64 x.sum, .int .i64 x.time, .int .i64 x.echo] 46 55
      go_enter Tryz.func18, Tryz.ntmps18
      go_upto_region 1 with (fail)
      try rw [hW]
      clear hW
      have bs_0 : Below W0.heap.size W0 W0.drew := belowDrew W0 1
      refine wp_region_held_drew (S := (fun w' => w'.heap[w.heap.size]? = some (.cells #[Value.int .i64 p.me, .int .i64 p.delay, .int .i64 p.ahead, .int .i64 p.seed, vt, bl, .int .i64 p.base.tick, .int .i64 p.base.seed, bs, bb, nl, .int .i64 p.now.tick, .int .i64 p.now.seed, ns, nb, vu, vv, vs, .int .i64 p.fault.tick, .int .i64 p.fault.player, .int .i64 p.fault.add, .int .i64 p.rolls, .int .i64 p.again] 46 (0, 0)) ∧ (∀ j, w'.cell? ⟨w.heap.size, j, none⟩ = #[Value.int .i64 p.me, .int .i64 p.delay, .int .i64 p.ahead, .int .i64 p.seed, vt, bl, .int .i64 p.base.tick, .int .i64 p.base.seed, bs, bb, nl, .int .i64 p.now.tick, .int .i64 p.now.seed, ns, nb, vu, vv, vs, .int .i64 p.fault.tick, .int .i64 p.fault.player, .int .i64 p.fault.add, .int .i64 p.rolls, .int .i64 p.again][j]?) ∧ (∀ j, w'.cell? ⟨w.heap.size + 1, j, none⟩ = #[Value.int .i64 x.fr, .int .i64 x.tick, .int .i64 x.first, vi, va, .int .i64 x.sumTick, .int .i64 x.sum, .int .i64 x.time, .int .i64 x.echo][j]?))) (by kernel_rfl) ?_ (fun hHeld => ?_)
      · exact ⟨keepHeap bs_0 hAr, rowCells (keepHeap bs_0 hAr), rowCells (keepHeap bs_0 hBr)⟩
      refine take_on (i := 0) (v := .agg #[Value.int .i64 p.me, .int .i64 p.delay, .int .i64 p.ahead, .int .i64 p.seed, vt, bl, .int .i64 p.base.tick, .int .i64 p.base.seed, bs, bb, nl, .int .i64 p.now.tick, .int .i64 p.now.seed, ns, nb, vu, vv, vs, .int .i64 p.fault.tick, .int .i64 p.fault.player, .int .i64 p.fault.add, .int .i64 p.rolls, .int .i64 p.again]) (some 5) rfl (by kernel_rfl) (by kernel_rfl) (by kernel_rfl) rfl (fun _ _ _ h => h) (by rfl) (fun W hW => exec_load_row 46 _ rfl (w.heap.size) rfl 46 _ (0, 0) _ hW.1 Tryz.underlying46 rfl (by kernel_rfl)) (by assumption) ?_
      (try simp only [Act.put, List.setIfInBounds_toArray, List.set_cons_zero, List.set_cons_succ])
      refine wpAnyH_ready (rs := [1]) (by kernel_rfl) (by simp) ?_
      refine AllReadyH.cons rfl (fun K hK => ?_) AllReadyH.nil
      go_simp
      refine (hp (h0.keep (q_0.trans (bs_0.mono q_0.size)))).mono ?_
      rintro e w_1 ⟨rfl, hb_1⟩
      have bs_1 := bs_0.trans (hb_1.mono bs_0.size)
      (try go_wp2_with (fail))
      refine hK.out _ _ ?_ (fun hHeld => ?_)
      · exact ⟨keepHeap bs_1 hAr, rowCells (keepHeap bs_1 hAr), rowCells (keepHeap bs_1 hBr)⟩
      clear hK K
      (try simp only [Act.put, List.setIfInBounds_toArray, List.set_cons_zero, List.set_cons_succ])
      refine take_on (i := 2) (v := ?_) (some 7) rfl (by kernel_rfl) (by kernel_rfl) (by kernel_rfl) rfl (fun _ _ _ h => h) (by rfl) ?_ (by assumption) ?_
      rotate_left
      · intro w hSw; (try dsimp only at hSw); go_simp; (try with_reducible rfl)
      (try simp only [Act.put, List.setIfInBounds_toArray, List.set_cons_zero, List.set_cons_succ])
      refine take_on (i := 3) (v := ?_) (some 8) rfl (by kernel_rfl) (by kernel_rfl) (by kernel_rfl) rfl (fun _ _ _ h => h) (wanted_on (k := 2) (d := 7) (b := true) rfl rfl rfl) ?_ (by assumption) ?_
      rotate_left
      · intro w hSw; (try dsimp only at hSw); go_simp; (try with_reducible rfl)
      (try simp only [Act.put, List.setIfInBounds_toArray, List.set_cons_zero, List.set_cons_succ])
      refine wpAnyH_ready (rs := [4]) (by kernel_rfl) (by simp) ?_
      refine AllReadyH.cons rfl (fun K hK => ?_) AllReadyH.nil
      go_simp
      refine (hx (g0.keep (q_0.trans (bs_1.mono q_0.size)))).mono ?_
      rintro e w_2 ⟨rfl, hb_2⟩
      have bs_2 := bs_1.trans (hb_2.mono bs_1.size)
      (try go_wp2_with (fail))
      refine hK.out _ _ ?_ (fun hHeld => ?_)
      · exact ⟨keepHeap bs_2 hAr, rowCells (keepHeap bs_2 hAr), rowCells (keepHeap bs_2 hBr)⟩
      clear hK K
      (try simp only [Act.put, List.setIfInBounds_toArray, List.set_cons_zero, List.set_cons_succ])
      refine take_on (i := 5) (v := ?_) (some 10) rfl (by kernel_rfl) (by kernel_rfl) (by kernel_rfl) rfl (fun _ _ _ h => h) (by rfl) ?_ (by assumption) ?_
      rotate_left
      · intro w hSw; (try dsimp only at hSw); go_simp; (try with_reducible rfl)
      (try simp only [Act.put, List.setIfInBounds_toArray, List.set_cons_zero, List.set_cons_succ])
      refine take_on (i := 6) (v := ?_) (some 11) rfl (by kernel_rfl) (by kernel_rfl) (by kernel_rfl) rfl (fun _ _ _ h => h) (by rfl) ?_ (by assumption) ?_
      rotate_left
      · intro w hSw; (try dsimp only at hSw); go_simp; (try with_reducible rfl)
      (try simp only [Act.put, List.setIfInBounds_toArray, List.set_cons_zero, List.set_cons_succ])
      refine take_off (i := 7) (some 12) rfl (by kernel_rfl) (by kernel_rfl) (by kernel_rfl) rfl (fun _ _ _ h => h) (wanted_off (k := 6) (d := 11) (b := true) (c := false) rfl rfl rfl rfl) (by assumption) ?_
      (try simp only [Act.put, List.setIfInBounds_toArray, List.set_cons_zero, List.set_cons_succ])
      refine take_off (i := 8) (some 13) rfl (by kernel_rfl) (by kernel_rfl) (by kernel_rfl) rfl (fun _ _ _ h => h) (wanted_off (k := 6) (d := 11) (b := true) (c := false) rfl rfl rfl rfl) (by assumption) ?_
      (try simp only [Act.put, List.setIfInBounds_toArray, List.set_cons_zero, List.set_cons_succ])
      refine take_off (i := 9) (some 14) rfl (by kernel_rfl) (by kernel_rfl) (by kernel_rfl) rfl (fun _ _ _ h => h) (wanted_off (k := 6) (d := 11) (b := true) (c := false) rfl rfl rfl rfl) (by assumption) ?_
      (try simp only [Act.put, List.setIfInBounds_toArray, List.set_cons_zero, List.set_cons_succ])
      refine take_off (i := 10) (some 15) rfl (by kernel_rfl) (by kernel_rfl) (by kernel_rfl) rfl (fun _ _ _ h => h) (wanted_off (k := 6) (d := 11) (b := true) (c := false) rfl rfl rfl rfl) (by assumption) ?_
      (try simp only [Act.put, List.setIfInBounds_toArray, List.set_cons_zero, List.set_cons_succ])
      refine take_off (i := 11) (some 16) rfl (by kernel_rfl) (by kernel_rfl) (by kernel_rfl) rfl (fun _ _ _ h => h) (wanted_off (k := 6) (d := 11) (b := true) (c := false) rfl rfl rfl rfl) (by assumption) ?_
      (try simp only [Act.put, List.setIfInBounds_toArray, List.set_cons_zero, List.set_cons_succ])
      refine take_off (i := 12) (some 17) rfl (by kernel_rfl) (by kernel_rfl) (by kernel_rfl) rfl (fun _ _ _ h => h) (wanted_off (k := 6) (d := 11) (b := true) (c := false) rfl rfl rfl rfl) (by assumption) ?_
      (try simp only [Act.put, List.setIfInBounds_toArray, List.set_cons_zero, List.set_cons_succ])
      refine take_on (i := 13) (v := ?_) (some 18) rfl (by kernel_rfl) (by kernel_rfl) (by kernel_rfl) rfl (fun _ _ _ h => h) (by rfl) ?_ (by assumption) ?_
      rotate_left
      · intro w hSw; (try dsimp only at hSw); go_simp; (try with_reducible rfl)
      (try simp only [Act.put, List.setIfInBounds_toArray, List.set_cons_zero, List.set_cons_succ])
      refine take_on (i := 14) (v := ?_) (some 19) rfl (by kernel_rfl) (by kernel_rfl) (by kernel_rfl) rfl (fun _ _ _ h => h) (by rfl) ?_ (by assumption) ?_
      rotate_left
      · intro w hSw; (try dsimp only at hSw); go_simp; (try with_reducible rfl)
      (try simp only [Act.put, List.setIfInBounds_toArray, List.set_cons_zero, List.set_cons_succ])
      refine take_off (i := 15) (some 20) rfl (by kernel_rfl) (by kernel_rfl) (by kernel_rfl) rfl (fun _ _ _ h => h) (wanted_off (k := 14) (d := 19) (b := true) (c := false) rfl rfl rfl rfl) (by assumption) ?_
      (try simp only [Act.put, List.setIfInBounds_toArray, List.set_cons_zero, List.set_cons_succ])
      refine take_off (i := 16) (some 21) rfl (by kernel_rfl) (by kernel_rfl) (by kernel_rfl) rfl (fun _ _ _ h => h) (wanted_off (k := 14) (d := 19) (b := true) (c := false) rfl rfl rfl rfl) (by assumption) ?_
      (try simp only [Act.put, List.setIfInBounds_toArray, List.set_cons_zero, List.set_cons_succ])
      refine take_off (i := 17) (some 22) rfl (by kernel_rfl) (by kernel_rfl) (by kernel_rfl) rfl (fun _ _ _ h => h) (wanted_off (k := 14) (d := 19) (b := true) (c := false) rfl rfl rfl rfl) (by assumption) ?_
      (try simp only [Act.put, List.setIfInBounds_toArray, List.set_cons_zero, List.set_cons_succ])
      refine take_off (i := 18) (some 23) rfl (by kernel_rfl) (by kernel_rfl) (by kernel_rfl) rfl (fun _ _ _ h => h) (wanted_off (k := 14) (d := 19) (b := true) (c := false) rfl rfl rfl rfl) (by assumption) ?_
      (try simp only [Act.put, List.setIfInBounds_toArray, List.set_cons_zero, List.set_cons_succ])
      refine take_off (i := 19) (some 24) rfl (by kernel_rfl) (by kernel_rfl) (by kernel_rfl) rfl (fun _ _ _ h => h) (wanted_off (k := 14) (d := 19) (b := true) (c := false) rfl rfl rfl rfl) (by assumption) ?_
      (try simp only [Act.put, List.setIfInBounds_toArray, List.set_cons_zero, List.set_cons_succ])
      refine take_off (i := 20) (some 25) rfl (by kernel_rfl) (by kernel_rfl) (by kernel_rfl) rfl (fun _ _ _ h => h) (wanted_off (k := 14) (d := 19) (b := true) (c := false) rfl rfl rfl rfl) (by assumption) ?_
      (try simp only [Act.put, List.setIfInBounds_toArray, List.set_cons_zero, List.set_cons_succ])
      refine take_off (i := 21) (some 26) rfl (by kernel_rfl) (by kernel_rfl) (by kernel_rfl) rfl (fun _ _ _ h => h) (wanted_off (k := 14) (d := 19) (b := true) (c := false) rfl rfl rfl rfl) (by assumption) ?_
      (try simp only [Act.put, List.setIfInBounds_toArray, List.set_cons_zero, List.set_cons_succ])
      refine take_off (i := 22) (some 27) rfl (by kernel_rfl) (by kernel_rfl) (by kernel_rfl) rfl (fun _ _ _ h => h) (wanted_off (k := 14) (d := 19) (b := true) (c := false) rfl rfl rfl rfl) (by assumption) ?_
      (try simp only [Act.put, List.setIfInBounds_toArray, List.set_cons_zero, List.set_cons_succ])
      refine take_off (i := 23) (some 28) rfl (by kernel_rfl) (by kernel_rfl) (by kernel_rfl) rfl (fun _ _ _ h => h) (wanted_off (k := 14) (d := 19) (b := true) (c := false) rfl rfl rfl rfl) (by assumption) ?_
      (try simp only [Act.put, List.setIfInBounds_toArray, List.set_cons_zero, List.set_cons_succ])
      refine take_on (i := 24) (v := ?_) (some 29) rfl (by kernel_rfl) (by kernel_rfl) (by kernel_rfl) rfl (fun _ _ _ h => h) (by rfl) ?_ (by assumption) ?_
      rotate_left
      · intro w hSw; (try dsimp only at hSw); go_simp; (try with_reducible rfl)
      (try simp only [Act.put, List.setIfInBounds_toArray, List.set_cons_zero, List.set_cons_succ])
      refine take_on (i := 25) (v := ?_) (some 4) rfl (by kernel_rfl) (by kernel_rfl) (by kernel_rfl) rfl (fun _ _ _ h => h) (by rfl) ?_ (by assumption) ?_
      rotate_left
      · intro w hSw; (try dsimp only at hSw); go_simp; (try with_reducible rfl)
      (try simp only [Act.put, List.setIfInBounds_toArray, List.set_cons_zero, List.set_cons_succ])
      refine wpAnyH_done (by kernel_rfl) ?_ _
      have HF := Lib.hid HC.out
      go_wp2_with (fail)
      go_ret
      exact ⟨by rw [HF.out]; first | rfl | (simp; done), q_0.trans (bs_2.mono q_0.size)⟩
    | true =>
      obtain ⟨k0, hk0⟩ : ∃ k0 : Nat, x.sumTick = (k0 : Int) := ⟨x.sumTick.toNat, by have := pk_sum hqx; omega⟩
      have hsl : (p.sums.length : Int) ≤ 9223372036854775807 := by have := hn.2.2.2.2.2; omega
      by_cases hkl : k0 < p.sums.length
      · obtain ⟨a9, c9, rfl, hss⟩ := id h.2.2.2.2.2
        obtain ⟨sb, so, rfl, hc⟩ := hss.resolve_left (by intro e; rw [e] at hkl; simp at hkl)
        have cs := hc k0 hkl
        have HC := Lib.hid (susp_ok hq hqx hk0 hkl)
        have z7 : decide ((k0 : Int) < (p.sums.length : Int)) = true := by simpa using hkl
        have hl7 : (k0 : Int) < (p.sums.length : Int) := by omega
        generalize p.sums[k0] = sv at cs HC
        clear hc hss
        have h0 := h
        have g0 := g
        have hp := fun {W : World} (h1 : RdPr W p vt bl bs bb nl ns nb vu vv (.slice (some ⟨sb, so, none⟩) p.sums.length c9)) => peerOk_spec h1 hs hn
        have hx := fun {W : World} (h1 : RdP W x vi va) => packetOk_spec h1 gs
        rw [hq] at hp
        rw [hqx] at hx
        clear h g hq hqx
        unfold prC pkC at *
        rw [hk0] at hx ⊢
        have HK0 := Lib.hid hk0
        clear hk0
        obtain ⟨W0, hW, hAr, hBr, q_0, -⟩ := rows2 w #[Value.int .i64 p.me, .int .i64 p.delay, .int .i64 p.ahead, .int .i64 p.seed, vt, bl, .int .i64 p.base.tick, .int .i64 p.base.seed, bs, bb, nl, .int .i64 p.now.tick, .int .i64 p.now.seed, ns, nb, vu, vv, (.slice (some ⟨sb, so, none⟩) p.sums.length c9), .int .i64 p.fault.tick, .int .i64 p.fault.player, .int .i64 p.fault.add, .int .i64 p.rolls, .int .i64 p.again] #[Value.int .i64 x.fr, .int .i64 x.tick, .int .i64 x.first, vi, va, .int .i64 (k0 : Int), .int .i64 x.sum, .int .i64 x.time, .int .i64 x.echo] 46 55
        have cs := (q_0.cell (World.block_lt_of_cell? _ _ cs)).trans cs
        go_enter Tryz.func18, Tryz.ntmps18
        go_upto_region 1 with (fail)
        try rw [hW]
        clear hW
        have bs_0 : Below W0.heap.size W0 W0.drew := belowDrew W0 1
        refine wp_region_held_drew (S := (fun w' => w'.heap[w.heap.size]? = some (.cells #[Value.int .i64 p.me, .int .i64 p.delay, .int .i64 p.ahead, .int .i64 p.seed, vt, bl, .int .i64 p.base.tick, .int .i64 p.base.seed, bs, bb, nl, .int .i64 p.now.tick, .int .i64 p.now.seed, ns, nb, vu, vv, (.slice (some ⟨sb, so, none⟩) p.sums.length c9), .int .i64 p.fault.tick, .int .i64 p.fault.player, .int .i64 p.fault.add, .int .i64 p.rolls, .int .i64 p.again] 46 (0, 0)) ∧ (∀ j, w'.cell? ⟨w.heap.size, j, none⟩ = #[Value.int .i64 p.me, .int .i64 p.delay, .int .i64 p.ahead, .int .i64 p.seed, vt, bl, .int .i64 p.base.tick, .int .i64 p.base.seed, bs, bb, nl, .int .i64 p.now.tick, .int .i64 p.now.seed, ns, nb, vu, vv, (.slice (some ⟨sb, so, none⟩) p.sums.length c9), .int .i64 p.fault.tick, .int .i64 p.fault.player, .int .i64 p.fault.add, .int .i64 p.rolls, .int .i64 p.again][j]?) ∧ (∀ j, w'.cell? ⟨w.heap.size + 1, j, none⟩ = #[Value.int .i64 x.fr, .int .i64 x.tick, .int .i64 x.first, vi, va, .int .i64 (k0 : Int), .int .i64 x.sum, .int .i64 x.time, .int .i64 x.echo][j]?) ∧ w'.cell? ⟨sb, so + k0, none⟩ = some (.int .i64 sv))) (by kernel_rfl) ?_ (fun hHeld => ?_)
        · exact ⟨keepHeap bs_0 hAr, rowCells (keepHeap bs_0 hAr), rowCells (keepHeap bs_0 hBr), (bs_0.cell (World.block_lt_of_cell? _ _ cs)).trans cs⟩
        refine take_on (i := 0) (v := .agg #[Value.int .i64 p.me, .int .i64 p.delay, .int .i64 p.ahead, .int .i64 p.seed, vt, bl, .int .i64 p.base.tick, .int .i64 p.base.seed, bs, bb, nl, .int .i64 p.now.tick, .int .i64 p.now.seed, ns, nb, vu, vv, (.slice (some ⟨sb, so, none⟩) p.sums.length c9), .int .i64 p.fault.tick, .int .i64 p.fault.player, .int .i64 p.fault.add, .int .i64 p.rolls, .int .i64 p.again]) (some 5) rfl (by kernel_rfl) (by kernel_rfl) (by kernel_rfl) rfl (fun _ _ _ h => h) (by rfl) (fun W hW => exec_load_row 46 _ rfl (w.heap.size) rfl 46 _ (0, 0) _ hW.1 Tryz.underlying46 rfl (by kernel_rfl)) (by assumption) ?_
        (try simp only [Act.put, List.setIfInBounds_toArray, List.set_cons_zero, List.set_cons_succ])
        refine wpAnyH_ready (rs := [1]) (by kernel_rfl) (by simp) ?_
        refine AllReadyH.cons rfl (fun K hK => ?_) AllReadyH.nil
        go_simp
        refine (hp (h0.keep (q_0.trans (bs_0.mono q_0.size)))).mono ?_
        rintro e w_1 ⟨rfl, hb_1⟩
        have bs_1 := bs_0.trans (hb_1.mono bs_0.size)
        (try go_wp2_with (fail))
        refine hK.out _ _ ?_ (fun hHeld => ?_)
        · exact ⟨keepHeap bs_1 hAr, rowCells (keepHeap bs_1 hAr), rowCells (keepHeap bs_1 hBr), (bs_1.cell (World.block_lt_of_cell? _ _ cs)).trans cs⟩
        clear hK K
        (try simp only [Act.put, List.setIfInBounds_toArray, List.set_cons_zero, List.set_cons_succ])
        refine take_on (i := 2) (v := ?_) (some 7) rfl (by kernel_rfl) (by kernel_rfl) (by kernel_rfl) rfl (fun _ _ _ h => h) (by rfl) ?_ (by assumption) ?_
        rotate_left
        · intro w hSw; (try dsimp only at hSw); go_simp; (try with_reducible rfl)
        (try simp only [Act.put, List.setIfInBounds_toArray, List.set_cons_zero, List.set_cons_succ])
        refine take_on (i := 3) (v := ?_) (some 8) rfl (by kernel_rfl) (by kernel_rfl) (by kernel_rfl) rfl (fun _ _ _ h => h) (wanted_on (k := 2) (d := 7) (b := true) rfl rfl rfl) ?_ (by assumption) ?_
        rotate_left
        · intro w hSw; (try dsimp only at hSw); go_simp; (try with_reducible rfl)
        (try simp only [Act.put, List.setIfInBounds_toArray, List.set_cons_zero, List.set_cons_succ])
        refine wpAnyH_ready (rs := [4]) (by kernel_rfl) (by simp) ?_
        refine AllReadyH.cons rfl (fun K hK => ?_) AllReadyH.nil
        go_simp
        refine (hx (g0.keep (q_0.trans (bs_1.mono q_0.size)))).mono ?_
        rintro e w_2 ⟨rfl, hb_2⟩
        have bs_2 := bs_1.trans (hb_2.mono bs_1.size)
        (try go_wp2_with (fail))
        refine hK.out _ _ ?_ (fun hHeld => ?_)
        · exact ⟨keepHeap bs_2 hAr, rowCells (keepHeap bs_2 hAr), rowCells (keepHeap bs_2 hBr), (bs_2.cell (World.block_lt_of_cell? _ _ cs)).trans cs⟩
        clear hK K
        (try simp only [Act.put, List.setIfInBounds_toArray, List.set_cons_zero, List.set_cons_succ])
        refine take_on (i := 5) (v := ?_) (some 10) rfl (by kernel_rfl) (by kernel_rfl) (by kernel_rfl) rfl (fun _ _ _ h => h) (by rfl) ?_ (by assumption) ?_
        rotate_left
        · intro w hSw; (try dsimp only at hSw); go_simp; (try with_reducible rfl)
        (try simp only [Act.put, List.setIfInBounds_toArray, List.set_cons_zero, List.set_cons_succ])
        refine take_on (i := 6) (v := ?_) (some 11) rfl (by kernel_rfl) (by kernel_rfl) (by kernel_rfl) rfl (fun _ _ _ h => h) (by rfl) ?_ (by assumption) ?_
        rotate_left
        · intro w hSw; (try dsimp only at hSw); go_simp; (try with_reducible rfl)
        (try simp only [Act.put, List.setIfInBounds_toArray, List.set_cons_zero, List.set_cons_succ])
        refine take_on (i := 7) (v := ?_) (some 12) rfl (by kernel_rfl) (by kernel_rfl) (by kernel_rfl) rfl (fun _ _ _ h => h) (wanted_on (k := 6) (d := 11) (b := true) rfl rfl rfl) ?_ (by assumption) ?_
        rotate_left
        · intro w hSw; (try dsimp only at hSw); go_simp; (try with_reducible rfl)
        (try simp only [Act.put, List.setIfInBounds_toArray, List.set_cons_zero, List.set_cons_succ])
        refine take_on (i := 8) (v := ?_) (some 13) rfl (by kernel_rfl) (by kernel_rfl) (by kernel_rfl) rfl (fun _ _ _ h => h) (wanted_on (k := 6) (d := 11) (b := true) rfl rfl rfl) ?_ (by assumption) ?_
        rotate_left
        · intro w hSw; (try dsimp only at hSw); go_simp; (try with_reducible rfl)
        (try simp only [Act.put, List.setIfInBounds_toArray, List.set_cons_zero, List.set_cons_succ])
        refine take_on (i := 9) (v := ?_) (some 14) rfl (by kernel_rfl) (by kernel_rfl) (by kernel_rfl) rfl (fun _ _ _ h => h) (wanted_on (k := 6) (d := 11) (b := true) rfl rfl rfl) ?_ (by assumption) ?_
        rotate_left
        · intro w hSw; (try dsimp only at hSw); go_simp; (try with_reducible rfl)
        (try simp only [Act.put, List.setIfInBounds_toArray, List.set_cons_zero, List.set_cons_succ])
        refine take_on (i := 10) (v := ?_) (some 15) rfl (by kernel_rfl) (by kernel_rfl) (by kernel_rfl) rfl (fun _ _ _ h => h) (wanted_on (k := 6) (d := 11) (b := true) rfl rfl rfl) ?_ (by assumption) ?_
        rotate_left
        · intro w hSw; (try dsimp only at hSw); go_simp; (try with_reducible rfl)
        (try simp only [Act.put, List.setIfInBounds_toArray, List.set_cons_zero, List.set_cons_succ])
        refine take_on (i := 11) (v := ?_) (some 16) rfl (by kernel_rfl) (by kernel_rfl) (by kernel_rfl) rfl (fun _ _ _ h => h) (wanted_on (k := 6) (d := 11) (b := true) rfl rfl rfl) ?_ (by assumption) ?_
        rotate_left
        · intro w hSw; (try dsimp only at hSw); go_simp; (try with_reducible rfl)
        (try simp only [Act.put, List.setIfInBounds_toArray, List.set_cons_zero, List.set_cons_succ])
        refine take_on (i := 12) (v := ?_) (some 17) rfl (by kernel_rfl) (by kernel_rfl) (by kernel_rfl) rfl (fun _ _ _ h => h) (wanted_on (k := 6) (d := 11) (b := true) rfl rfl rfl) ?_ (by assumption) ?_
        rotate_left
        · intro w hSw; (try dsimp only at hSw); go_simp; (try with_reducible rfl)
        (try simp only [Act.put, List.setIfInBounds_toArray, List.set_cons_zero, List.set_cons_succ])
        refine take_on (i := 13) (v := ?_) (some 18) rfl (by kernel_rfl) (by kernel_rfl) (by kernel_rfl) rfl (fun _ _ _ h => h) (by rfl) ?_ (by assumption) ?_
        rotate_left
        · intro w hSw; (try dsimp only at hSw); go_simp; (try with_reducible rfl)
        (try simp only [Act.put, List.setIfInBounds_toArray, List.set_cons_zero, List.set_cons_succ])
        refine take_on (i := 14) (v := ?_) (some 19) rfl (by kernel_rfl) (by kernel_rfl) (by kernel_rfl) rfl (fun _ _ _ h => h) (by rfl) ?_ (by assumption) ?_
        rotate_left
        · intro w hSw; (try dsimp only at hSw); go_simp; (try with_reducible rfl)
        (try simp only [Act.put, List.setIfInBounds_toArray, List.set_cons_zero, List.set_cons_succ])
        refine take_on (i := 15) (v := ?_) (some 20) rfl (by kernel_rfl) (by kernel_rfl) (by kernel_rfl) rfl (fun _ _ _ h => h) (wanted_on (k := 14) (d := 19) (b := true) rfl rfl rfl) ?_ (by assumption) ?_
        rotate_left
        · intro w hSw; (try dsimp only at hSw); go_simp; (try with_reducible rfl)
        (try simp only [Act.put, List.setIfInBounds_toArray, List.set_cons_zero, List.set_cons_succ])
        refine take_on (i := 16) (v := ?_) (some 21) rfl (by kernel_rfl) (by kernel_rfl) (by kernel_rfl) rfl (fun _ _ _ h => h) (wanted_on (k := 14) (d := 19) (b := true) rfl rfl rfl) ?_ (by assumption) ?_
        rotate_left
        · intro w hSw; (try dsimp only at hSw); go_simp; (try with_reducible rfl)
        (try simp only [Act.put, List.setIfInBounds_toArray, List.set_cons_zero, List.set_cons_succ])
        refine take_on (i := 17) (v := ?_) (some 22) rfl (by kernel_rfl) (by kernel_rfl) (by kernel_rfl) rfl (fun _ _ _ h => h) (wanted_on (k := 14) (d := 19) (b := true) rfl rfl rfl) ?_ (by assumption) ?_
        rotate_left
        · intro w hSw; (try dsimp only at hSw); go_simp; (try with_reducible rfl)
        (try simp only [Act.put, List.setIfInBounds_toArray, List.set_cons_zero, List.set_cons_succ])
        refine take_on (i := 18) (v := ?_) (some 23) rfl (by kernel_rfl) (by kernel_rfl) (by kernel_rfl) rfl (fun _ _ _ h => h) (wanted_on (k := 14) (d := 19) (b := true) rfl rfl rfl) ?_ (by assumption) ?_
        rotate_left
        · intro w hSw; (try dsimp only at hSw); go_simp; (try with_reducible rfl)
        (try simp only [Act.put, List.setIfInBounds_toArray, List.set_cons_zero, List.set_cons_succ])
        refine take_on (i := 19) (v := ?_) (some 24) rfl (by kernel_rfl) (by kernel_rfl) (by kernel_rfl) rfl (fun _ _ _ h => h) (wanted_on (k := 14) (d := 19) (b := true) rfl rfl rfl) ?_ (by assumption) ?_
        rotate_left
        · intro w hSw; (try dsimp only at hSw); go_simp; (try with_reducible rfl)
        (try simp only [Act.put, List.setIfInBounds_toArray, List.set_cons_zero, List.set_cons_succ])
        refine take_on (i := 20) (v := ?_) (some 25) rfl (by kernel_rfl) (by kernel_rfl) (by kernel_rfl) rfl (fun _ _ _ h => h) (wanted_on (k := 14) (d := 19) (b := true) rfl rfl rfl) ?_ (by assumption) ?_
        rotate_left
        · intro w hSw; (try dsimp only at hSw); go_simp; (try with_reducible rfl)
        (try simp only [Act.put, List.setIfInBounds_toArray, List.set_cons_zero, List.set_cons_succ])
        refine take_on (i := 21) (v := ?_) (some 26) rfl (by kernel_rfl) (by kernel_rfl) (by kernel_rfl) rfl (fun _ _ _ h => h) (wanted_on (k := 14) (d := 19) (b := true) rfl rfl rfl) ?_ (by assumption) ?_
        rotate_left
        · intro w hSw; (try dsimp only at hSw); go_simp; (try with_reducible rfl)
        (try simp only [Act.put, List.setIfInBounds_toArray, List.set_cons_zero, List.set_cons_succ])
        refine take_on (i := 22) (v := ?_) (some 27) rfl (by kernel_rfl) (by kernel_rfl) (by kernel_rfl) rfl (fun _ _ _ h => h) (wanted_on (k := 14) (d := 19) (b := true) rfl rfl rfl) ?_ (by assumption) ?_
        rotate_left
        · intro w hSw; (try dsimp only at hSw); go_simp; (try with_reducible rfl)
        (try simp only [Act.put, List.setIfInBounds_toArray, List.set_cons_zero, List.set_cons_succ])
        refine take_on (i := 23) (v := ?_) (some 28) rfl (by kernel_rfl) (by kernel_rfl) (by kernel_rfl) rfl (fun _ _ _ h => h) (wanted_on (k := 14) (d := 19) (b := true) rfl rfl rfl) ?_ (by assumption) ?_
        rotate_left
        · intro w hSw; (try dsimp only at hSw); go_simp; (try with_reducible rfl)
        (try simp only [Act.put, List.setIfInBounds_toArray, List.set_cons_zero, List.set_cons_succ])
        refine take_on (i := 24) (v := ?_) (some 29) rfl (by kernel_rfl) (by kernel_rfl) (by kernel_rfl) rfl (fun _ _ _ h => h) (by rfl) ?_ (by assumption) ?_
        rotate_left
        · intro w hSw; (try dsimp only at hSw); go_simp; (try with_reducible rfl)
        (try simp only [Act.put, List.setIfInBounds_toArray, List.set_cons_zero, List.set_cons_succ])
        refine take_on (i := 25) (v := ?_) (some 4) rfl (by kernel_rfl) (by kernel_rfl) (by kernel_rfl) rfl (fun _ _ _ h => h) (by rfl) ?_ (by assumption) ?_
        rotate_left
        · intro w hSw; (try dsimp only at hSw); go_simp; (try with_reducible rfl)
        (try simp only [Act.put, List.setIfInBounds_toArray, List.set_cons_zero, List.set_cons_succ])
        refine wpAnyH_done (by kernel_rfl) ?_ _
        have HF := Lib.hid HC.out
        go_wp2_with (fail)
        go_ret
        exact ⟨by rw [HF.out]; first | rfl | (simp; done), q_0.trans (bs_2.mono q_0.size)⟩
      · obtain ⟨a9, c9, rfl, -⟩ := id h.2.2.2.2.2
        have HC := Lib.hid (susp_l (p := p) (x := x) (by rw [hk0]; omega))
        have z7 : decide ((k0 : Int) < (p.sums.length : Int)) = false := by simpa using hkl
        have hl7 : ¬ (k0 : Int) < (p.sums.length : Int) := by omega
        have h0 := h
        have g0 := g
        have hp := fun {W : World} (h1 : RdPr W p vt bl bs bb nl ns nb vu vv (.slice a9 p.sums.length c9)) => peerOk_spec h1 hs hn
        have hx := fun {W : World} (h1 : RdP W x vi va) => packetOk_spec h1 gs
        rw [hq] at hp
        rw [hqx] at hx
        clear h g hq hqx
        unfold prC pkC at *
        rw [hk0] at hx ⊢
        have HK0 := Lib.hid hk0
        clear hk0
        obtain ⟨W0, hW, hAr, hBr, q_0, -⟩ := rows2 w #[Value.int .i64 p.me, .int .i64 p.delay, .int .i64 p.ahead, .int .i64 p.seed, vt, bl, .int .i64 p.base.tick, .int .i64 p.base.seed, bs, bb, nl, .int .i64 p.now.tick, .int .i64 p.now.seed, ns, nb, vu, vv, (.slice a9 p.sums.length c9), .int .i64 p.fault.tick, .int .i64 p.fault.player, .int .i64 p.fault.add, .int .i64 p.rolls, .int .i64 p.again] #[Value.int .i64 x.fr, .int .i64 x.tick, .int .i64 x.first, vi, va, .int .i64 (k0 : Int), .int .i64 x.sum, .int .i64 x.time, .int .i64 x.echo] 46 55
        go_enter Tryz.func18, Tryz.ntmps18
        go_upto_region 1 with (fail)
        try rw [hW]
        clear hW
        have bs_0 : Below W0.heap.size W0 W0.drew := belowDrew W0 1
        refine wp_region_held_drew (S := (fun w' => w'.heap[w.heap.size]? = some (.cells #[Value.int .i64 p.me, .int .i64 p.delay, .int .i64 p.ahead, .int .i64 p.seed, vt, bl, .int .i64 p.base.tick, .int .i64 p.base.seed, bs, bb, nl, .int .i64 p.now.tick, .int .i64 p.now.seed, ns, nb, vu, vv, (.slice a9 p.sums.length c9), .int .i64 p.fault.tick, .int .i64 p.fault.player, .int .i64 p.fault.add, .int .i64 p.rolls, .int .i64 p.again] 46 (0, 0)) ∧ (∀ j, w'.cell? ⟨w.heap.size, j, none⟩ = #[Value.int .i64 p.me, .int .i64 p.delay, .int .i64 p.ahead, .int .i64 p.seed, vt, bl, .int .i64 p.base.tick, .int .i64 p.base.seed, bs, bb, nl, .int .i64 p.now.tick, .int .i64 p.now.seed, ns, nb, vu, vv, (.slice a9 p.sums.length c9), .int .i64 p.fault.tick, .int .i64 p.fault.player, .int .i64 p.fault.add, .int .i64 p.rolls, .int .i64 p.again][j]?) ∧ (∀ j, w'.cell? ⟨w.heap.size + 1, j, none⟩ = #[Value.int .i64 x.fr, .int .i64 x.tick, .int .i64 x.first, vi, va, .int .i64 (k0 : Int), .int .i64 x.sum, .int .i64 x.time, .int .i64 x.echo][j]?))) (by kernel_rfl) ?_ (fun hHeld => ?_)
        · exact ⟨keepHeap bs_0 hAr, rowCells (keepHeap bs_0 hAr), rowCells (keepHeap bs_0 hBr)⟩
        refine take_on (i := 0) (v := .agg #[Value.int .i64 p.me, .int .i64 p.delay, .int .i64 p.ahead, .int .i64 p.seed, vt, bl, .int .i64 p.base.tick, .int .i64 p.base.seed, bs, bb, nl, .int .i64 p.now.tick, .int .i64 p.now.seed, ns, nb, vu, vv, (.slice a9 p.sums.length c9), .int .i64 p.fault.tick, .int .i64 p.fault.player, .int .i64 p.fault.add, .int .i64 p.rolls, .int .i64 p.again]) (some 5) rfl (by kernel_rfl) (by kernel_rfl) (by kernel_rfl) rfl (fun _ _ _ h => h) (by rfl) (fun W hW => exec_load_row 46 _ rfl (w.heap.size) rfl 46 _ (0, 0) _ hW.1 Tryz.underlying46 rfl (by kernel_rfl)) (by assumption) ?_
        (try simp only [Act.put, List.setIfInBounds_toArray, List.set_cons_zero, List.set_cons_succ])
        refine wpAnyH_ready (rs := [1]) (by kernel_rfl) (by simp) ?_
        refine AllReadyH.cons rfl (fun K hK => ?_) AllReadyH.nil
        go_simp
        refine (hp (h0.keep (q_0.trans (bs_0.mono q_0.size)))).mono ?_
        rintro e w_1 ⟨rfl, hb_1⟩
        have bs_1 := bs_0.trans (hb_1.mono bs_0.size)
        (try go_wp2_with (fail))
        refine hK.out _ _ ?_ (fun hHeld => ?_)
        · exact ⟨keepHeap bs_1 hAr, rowCells (keepHeap bs_1 hAr), rowCells (keepHeap bs_1 hBr)⟩
        clear hK K
        (try simp only [Act.put, List.setIfInBounds_toArray, List.set_cons_zero, List.set_cons_succ])
        refine take_on (i := 2) (v := ?_) (some 7) rfl (by kernel_rfl) (by kernel_rfl) (by kernel_rfl) rfl (fun _ _ _ h => h) (by rfl) ?_ (by assumption) ?_
        rotate_left
        · intro w hSw; (try dsimp only at hSw); go_simp; (try with_reducible rfl)
        (try simp only [Act.put, List.setIfInBounds_toArray, List.set_cons_zero, List.set_cons_succ])
        refine take_on (i := 3) (v := ?_) (some 8) rfl (by kernel_rfl) (by kernel_rfl) (by kernel_rfl) rfl (fun _ _ _ h => h) (wanted_on (k := 2) (d := 7) (b := true) rfl rfl rfl) ?_ (by assumption) ?_
        rotate_left
        · intro w hSw; (try dsimp only at hSw); go_simp; (try with_reducible rfl)
        (try simp only [Act.put, List.setIfInBounds_toArray, List.set_cons_zero, List.set_cons_succ])
        refine wpAnyH_ready (rs := [4]) (by kernel_rfl) (by simp) ?_
        refine AllReadyH.cons rfl (fun K hK => ?_) AllReadyH.nil
        go_simp
        refine (hx (g0.keep (q_0.trans (bs_1.mono q_0.size)))).mono ?_
        rintro e w_2 ⟨rfl, hb_2⟩
        have bs_2 := bs_1.trans (hb_2.mono bs_1.size)
        (try go_wp2_with (fail))
        refine hK.out _ _ ?_ (fun hHeld => ?_)
        · exact ⟨keepHeap bs_2 hAr, rowCells (keepHeap bs_2 hAr), rowCells (keepHeap bs_2 hBr)⟩
        clear hK K
        (try simp only [Act.put, List.setIfInBounds_toArray, List.set_cons_zero, List.set_cons_succ])
        refine take_on (i := 5) (v := ?_) (some 10) rfl (by kernel_rfl) (by kernel_rfl) (by kernel_rfl) rfl (fun _ _ _ h => h) (by rfl) ?_ (by assumption) ?_
        rotate_left
        · intro w hSw; (try dsimp only at hSw); go_simp; (try with_reducible rfl)
        (try simp only [Act.put, List.setIfInBounds_toArray, List.set_cons_zero, List.set_cons_succ])
        refine take_on (i := 6) (v := ?_) (some 11) rfl (by kernel_rfl) (by kernel_rfl) (by kernel_rfl) rfl (fun _ _ _ h => h) (by rfl) ?_ (by assumption) ?_
        rotate_left
        · intro w hSw; (try dsimp only at hSw); go_simp; (try with_reducible rfl)
        (try simp only [Act.put, List.setIfInBounds_toArray, List.set_cons_zero, List.set_cons_succ])
        refine take_on (i := 7) (v := ?_) (some 12) rfl (by kernel_rfl) (by kernel_rfl) (by kernel_rfl) rfl (fun _ _ _ h => h) (wanted_on (k := 6) (d := 11) (b := true) rfl rfl rfl) ?_ (by assumption) ?_
        rotate_left
        · intro w hSw; (try dsimp only at hSw); go_simp; (try with_reducible rfl)
        (try simp only [Act.put, List.setIfInBounds_toArray, List.set_cons_zero, List.set_cons_succ])
        refine take_on (i := 8) (v := ?_) (some 13) rfl (by kernel_rfl) (by kernel_rfl) (by kernel_rfl) rfl (fun _ _ _ h => h) (wanted_on (k := 6) (d := 11) (b := true) rfl rfl rfl) ?_ (by assumption) ?_
        rotate_left
        · intro w hSw; (try dsimp only at hSw); go_simp; (try with_reducible rfl)
        (try simp only [Act.put, List.setIfInBounds_toArray, List.set_cons_zero, List.set_cons_succ])
        refine take_on (i := 9) (v := ?_) (some 14) rfl (by kernel_rfl) (by kernel_rfl) (by kernel_rfl) rfl (fun _ _ _ h => h) (wanted_on (k := 6) (d := 11) (b := true) rfl rfl rfl) ?_ (by assumption) ?_
        rotate_left
        · intro w hSw; (try dsimp only at hSw); go_simp; (try with_reducible rfl)
        (try simp only [Act.put, List.setIfInBounds_toArray, List.set_cons_zero, List.set_cons_succ])
        refine take_on (i := 10) (v := ?_) (some 15) rfl (by kernel_rfl) (by kernel_rfl) (by kernel_rfl) rfl (fun _ _ _ h => h) (wanted_on (k := 6) (d := 11) (b := true) rfl rfl rfl) ?_ (by assumption) ?_
        rotate_left
        · intro w hSw; (try dsimp only at hSw); go_simp; (try with_reducible rfl)
        (try simp only [Act.put, List.setIfInBounds_toArray, List.set_cons_zero, List.set_cons_succ])
        refine take_on (i := 11) (v := ?_) (some 16) rfl (by kernel_rfl) (by kernel_rfl) (by kernel_rfl) rfl (fun _ _ _ h => h) (wanted_on (k := 6) (d := 11) (b := true) rfl rfl rfl) ?_ (by assumption) ?_
        rotate_left
        · intro w hSw; (try dsimp only at hSw); go_simp; (try with_reducible rfl)
        (try simp only [Act.put, List.setIfInBounds_toArray, List.set_cons_zero, List.set_cons_succ])
        refine take_on (i := 12) (v := ?_) (some 17) rfl (by kernel_rfl) (by kernel_rfl) (by kernel_rfl) rfl (fun _ _ _ h => h) (wanted_on (k := 6) (d := 11) (b := true) rfl rfl rfl) ?_ (by assumption) ?_
        rotate_left
        · intro w hSw; (try dsimp only at hSw); go_simp; (try with_reducible rfl)
        (try simp only [Act.put, List.setIfInBounds_toArray, List.set_cons_zero, List.set_cons_succ])
        refine take_on (i := 13) (v := ?_) (some 18) rfl (by kernel_rfl) (by kernel_rfl) (by kernel_rfl) rfl (fun _ _ _ h => h) (by rfl) ?_ (by assumption) ?_
        rotate_left
        · intro w hSw; (try dsimp only at hSw); go_simp; (try with_reducible rfl)
        (try simp only [Act.put, List.setIfInBounds_toArray, List.set_cons_zero, List.set_cons_succ])
        refine take_on (i := 14) (v := ?_) (some 19) rfl (by kernel_rfl) (by kernel_rfl) (by kernel_rfl) rfl (fun _ _ _ h => h) (by rfl) ?_ (by assumption) ?_
        rotate_left
        · intro w hSw; (try dsimp only at hSw); go_simp; (try with_reducible rfl)
        (try simp only [Act.put, List.setIfInBounds_toArray, List.set_cons_zero, List.set_cons_succ])
        refine take_off (i := 15) (some 20) rfl (by kernel_rfl) (by kernel_rfl) (by kernel_rfl) rfl (fun _ _ _ h => h) (wanted_off (k := 14) (d := 19) (b := true) (c := false) rfl rfl rfl rfl) (by assumption) ?_
        (try simp only [Act.put, List.setIfInBounds_toArray, List.set_cons_zero, List.set_cons_succ])
        refine take_off (i := 16) (some 21) rfl (by kernel_rfl) (by kernel_rfl) (by kernel_rfl) rfl (fun _ _ _ h => h) (wanted_off (k := 14) (d := 19) (b := true) (c := false) rfl rfl rfl rfl) (by assumption) ?_
        (try simp only [Act.put, List.setIfInBounds_toArray, List.set_cons_zero, List.set_cons_succ])
        refine take_off (i := 17) (some 22) rfl (by kernel_rfl) (by kernel_rfl) (by kernel_rfl) rfl (fun _ _ _ h => h) (wanted_off (k := 14) (d := 19) (b := true) (c := false) rfl rfl rfl rfl) (by assumption) ?_
        (try simp only [Act.put, List.setIfInBounds_toArray, List.set_cons_zero, List.set_cons_succ])
        refine take_off (i := 18) (some 23) rfl (by kernel_rfl) (by kernel_rfl) (by kernel_rfl) rfl (fun _ _ _ h => h) (wanted_off (k := 14) (d := 19) (b := true) (c := false) rfl rfl rfl rfl) (by assumption) ?_
        (try simp only [Act.put, List.setIfInBounds_toArray, List.set_cons_zero, List.set_cons_succ])
        refine take_off (i := 19) (some 24) rfl (by kernel_rfl) (by kernel_rfl) (by kernel_rfl) rfl (fun _ _ _ h => h) (wanted_off (k := 14) (d := 19) (b := true) (c := false) rfl rfl rfl rfl) (by assumption) ?_
        (try simp only [Act.put, List.setIfInBounds_toArray, List.set_cons_zero, List.set_cons_succ])
        refine take_off (i := 20) (some 25) rfl (by kernel_rfl) (by kernel_rfl) (by kernel_rfl) rfl (fun _ _ _ h => h) (wanted_off (k := 14) (d := 19) (b := true) (c := false) rfl rfl rfl rfl) (by assumption) ?_
        (try simp only [Act.put, List.setIfInBounds_toArray, List.set_cons_zero, List.set_cons_succ])
        refine take_off (i := 21) (some 26) rfl (by kernel_rfl) (by kernel_rfl) (by kernel_rfl) rfl (fun _ _ _ h => h) (wanted_off (k := 14) (d := 19) (b := true) (c := false) rfl rfl rfl rfl) (by assumption) ?_
        (try simp only [Act.put, List.setIfInBounds_toArray, List.set_cons_zero, List.set_cons_succ])
        refine take_off (i := 22) (some 27) rfl (by kernel_rfl) (by kernel_rfl) (by kernel_rfl) rfl (fun _ _ _ h => h) (wanted_off (k := 14) (d := 19) (b := true) (c := false) rfl rfl rfl rfl) (by assumption) ?_
        (try simp only [Act.put, List.setIfInBounds_toArray, List.set_cons_zero, List.set_cons_succ])
        refine take_off (i := 23) (some 28) rfl (by kernel_rfl) (by kernel_rfl) (by kernel_rfl) rfl (fun _ _ _ h => h) (wanted_off (k := 14) (d := 19) (b := true) (c := false) rfl rfl rfl rfl) (by assumption) ?_
        (try simp only [Act.put, List.setIfInBounds_toArray, List.set_cons_zero, List.set_cons_succ])
        refine take_on (i := 24) (v := ?_) (some 29) rfl (by kernel_rfl) (by kernel_rfl) (by kernel_rfl) rfl (fun _ _ _ h => h) (by rfl) ?_ (by assumption) ?_
        rotate_left
        · intro w hSw; (try dsimp only at hSw); go_simp; (try with_reducible rfl)
        (try simp only [Act.put, List.setIfInBounds_toArray, List.set_cons_zero, List.set_cons_succ])
        refine take_on (i := 25) (v := ?_) (some 4) rfl (by kernel_rfl) (by kernel_rfl) (by kernel_rfl) rfl (fun _ _ _ h => h) (by rfl) ?_ (by assumption) ?_
        rotate_left
        · intro w hSw; (try dsimp only at hSw); go_simp; (try with_reducible rfl)
        (try simp only [Act.put, List.setIfInBounds_toArray, List.set_cons_zero, List.set_cons_succ])
        refine wpAnyH_done (by kernel_rfl) ?_ _
        have HF := Lib.hid HC.out
        go_wp2_with (fail)
        go_ret
        exact ⟨by rw [HF.out]; first | rfl | (simp; done), q_0.trans (bs_2.mono q_0.size)⟩
set_option maxRecDepth 100000 in
set_option maxHeartbeats 8000000 in
theorem suspects_impl {w : World} {p : Pr} {vt bl bs bb nl ns nb vu vv vs : Value} {x : Pk} {vi va : Value} (h : RdPr w p vt bl bs bb nl ns nb vu vv vs) (hs : p.sane) (hn : p.few) (g : RdP w x vi va) (gs : x.sane) :
    Calls Tryz.prog 20 #[.agg (prC p vt bl bs bb nl ns nb vu vv vs), .agg (pkC x vi va)] w fun e w' => e = .returned (.bool (suspB p x)) ∧ Below w.heap.size w w' := by
  cases hq : peerB p with
  | false =>
    have HC := Lib.hid (susp_p (x := x) hq)
    have h0 := h
    have g0 := g
    have hp := fun {W : World} (h1 : RdPr W p vt bl bs bb nl ns nb vu vv vs) => peerOk_impl h1 hs hn
    have hx := fun {W : World} (h1 : RdP W x vi va) => packetOk_impl h1 gs
    rw [hq] at hp
    clear h g hq 
    unfold prC pkC at *
    obtain ⟨W0, hW, hAr, hBr, q_0, -⟩ := rows2 w #[Value.int .i64 p.me, .int .i64 p.delay, .int .i64 p.ahead, .int .i64 p.seed, vt, bl, .int .i64 p.base.tick, .int .i64 p.base.seed, bs, bb, nl, .int .i64 p.now.tick, .int .i64 p.now.seed, ns, nb, vu, vv, vs, .int .i64 p.fault.tick, .int .i64 p.fault.player, .int .i64 p.fault.add, .int .i64 p.rolls, .int .i64 p.again] #[Value.int .i64 x.fr, .int .i64 x.tick, .int .i64 x.first, vi, va, .int .i64 x.sumTick, .int .i64 x.sum, .int .i64 x.time, .int .i64 x.echo] 46 55
    go_enter Tryz.func20, Tryz.ntmps20
    go_upto_region 1 with (fail)
    try rw [hW]
    clear hW
    have bs_0 : Below W0.heap.size W0 W0.drew := belowDrew W0 1
    refine wp_region_held_drew (S := (fun w' => w'.heap[w.heap.size]? = some (.cells #[Value.int .i64 p.me, .int .i64 p.delay, .int .i64 p.ahead, .int .i64 p.seed, vt, bl, .int .i64 p.base.tick, .int .i64 p.base.seed, bs, bb, nl, .int .i64 p.now.tick, .int .i64 p.now.seed, ns, nb, vu, vv, vs, .int .i64 p.fault.tick, .int .i64 p.fault.player, .int .i64 p.fault.add, .int .i64 p.rolls, .int .i64 p.again] 46 (0, 0)) ∧ (∀ j, w'.cell? ⟨w.heap.size, j, none⟩ = #[Value.int .i64 p.me, .int .i64 p.delay, .int .i64 p.ahead, .int .i64 p.seed, vt, bl, .int .i64 p.base.tick, .int .i64 p.base.seed, bs, bb, nl, .int .i64 p.now.tick, .int .i64 p.now.seed, ns, nb, vu, vv, vs, .int .i64 p.fault.tick, .int .i64 p.fault.player, .int .i64 p.fault.add, .int .i64 p.rolls, .int .i64 p.again][j]?) ∧ (∀ j, w'.cell? ⟨w.heap.size + 1, j, none⟩ = #[Value.int .i64 x.fr, .int .i64 x.tick, .int .i64 x.first, vi, va, .int .i64 x.sumTick, .int .i64 x.sum, .int .i64 x.time, .int .i64 x.echo][j]?))) (by kernel_rfl) ?_ (fun hHeld => ?_)
    · exact ⟨keepHeap bs_0 hAr, rowCells (keepHeap bs_0 hAr), rowCells (keepHeap bs_0 hBr)⟩
    refine take_on (i := 0) (v := .agg #[Value.int .i64 p.me, .int .i64 p.delay, .int .i64 p.ahead, .int .i64 p.seed, vt, bl, .int .i64 p.base.tick, .int .i64 p.base.seed, bs, bb, nl, .int .i64 p.now.tick, .int .i64 p.now.seed, ns, nb, vu, vv, vs, .int .i64 p.fault.tick, .int .i64 p.fault.player, .int .i64 p.fault.add, .int .i64 p.rolls, .int .i64 p.again]) (some 5) rfl (by kernel_rfl) (by kernel_rfl) (by kernel_rfl) rfl (fun _ _ _ h => h) (by rfl) (fun W hW => exec_load_row 46 _ rfl (w.heap.size) rfl 46 _ (0, 0) _ hW.1 Tryz.underlying46 rfl (by kernel_rfl)) (by assumption) ?_
    (try simp only [Act.put, List.setIfInBounds_toArray, List.set_cons_zero, List.set_cons_succ])
    refine wpAnyH_ready (rs := [1]) (by kernel_rfl) (by simp) ?_
    refine AllReadyH.cons rfl (fun K hK => ?_) AllReadyH.nil
    go_simp
    refine (hp (h0.keep (q_0.trans (bs_0.mono q_0.size)))).mono ?_
    rintro e w_1 ⟨rfl, hb_1⟩
    have bs_1 := bs_0.trans (hb_1.mono bs_0.size)
    (try go_wp2_with (fail))
    refine hK.out _ _ ?_ (fun hHeld => ?_)
    · exact ⟨keepHeap bs_1 hAr, rowCells (keepHeap bs_1 hAr), rowCells (keepHeap bs_1 hBr)⟩
    clear hK K
    (try simp only [Act.put, List.setIfInBounds_toArray, List.set_cons_zero, List.set_cons_succ])
    refine take_on (i := 2) (v := ?_) (some 7) rfl (by kernel_rfl) (by kernel_rfl) (by kernel_rfl) rfl (fun _ _ _ h => h) (by rfl) ?_ (by assumption) ?_
    rotate_left
    · intro w hSw; (try dsimp only at hSw); go_simp; (try with_reducible rfl)
    (try simp only [Act.put, List.setIfInBounds_toArray, List.set_cons_zero, List.set_cons_succ])
    refine take_off (i := 3) (some 8) rfl (by kernel_rfl) (by kernel_rfl) (by kernel_rfl) rfl (fun _ _ _ h => h) (wanted_off (k := 2) (d := 7) (b := true) (c := false) rfl rfl rfl rfl) (by assumption) ?_
    (try simp only [Act.put, List.setIfInBounds_toArray, List.set_cons_zero, List.set_cons_succ])
    refine take_off (i := 4) (some 9) rfl (by kernel_rfl) (by kernel_rfl) (by kernel_rfl) rfl (fun _ _ _ h => h) (wanted_off (k := 2) (d := 7) (b := true) (c := false) rfl rfl rfl rfl) (by assumption) ?_
    (try simp only [Act.put, List.setIfInBounds_toArray, List.set_cons_zero, List.set_cons_succ])
    refine take_on (i := 5) (v := ?_) (some 10) rfl (by kernel_rfl) (by kernel_rfl) (by kernel_rfl) rfl (fun _ _ _ h => h) (by rfl) ?_ (by assumption) ?_
    rotate_left
    · intro w hSw; (try dsimp only at hSw); go_simp; (try with_reducible rfl)
    (try simp only [Act.put, List.setIfInBounds_toArray, List.set_cons_zero, List.set_cons_succ])
    refine take_on (i := 6) (v := ?_) (some 11) rfl (by kernel_rfl) (by kernel_rfl) (by kernel_rfl) rfl (fun _ _ _ h => h) (by rfl) ?_ (by assumption) ?_
    rotate_left
    · intro w hSw; (try dsimp only at hSw); go_simp; (try with_reducible rfl)
    (try simp only [Act.put, List.setIfInBounds_toArray, List.set_cons_zero, List.set_cons_succ])
    refine take_off (i := 7) (some 12) rfl (by kernel_rfl) (by kernel_rfl) (by kernel_rfl) rfl (fun _ _ _ h => h) (wanted_off (k := 6) (d := 11) (b := true) (c := false) rfl rfl rfl rfl) (by assumption) ?_
    (try simp only [Act.put, List.setIfInBounds_toArray, List.set_cons_zero, List.set_cons_succ])
    refine take_off (i := 8) (some 13) rfl (by kernel_rfl) (by kernel_rfl) (by kernel_rfl) rfl (fun _ _ _ h => h) (wanted_off (k := 6) (d := 11) (b := true) (c := false) rfl rfl rfl rfl) (by assumption) ?_
    (try simp only [Act.put, List.setIfInBounds_toArray, List.set_cons_zero, List.set_cons_succ])
    refine take_off (i := 9) (some 14) rfl (by kernel_rfl) (by kernel_rfl) (by kernel_rfl) rfl (fun _ _ _ h => h) (wanted_off (k := 6) (d := 11) (b := true) (c := false) rfl rfl rfl rfl) (by assumption) ?_
    (try simp only [Act.put, List.setIfInBounds_toArray, List.set_cons_zero, List.set_cons_succ])
    refine take_off (i := 10) (some 15) rfl (by kernel_rfl) (by kernel_rfl) (by kernel_rfl) rfl (fun _ _ _ h => h) (wanted_off (k := 6) (d := 11) (b := true) (c := false) rfl rfl rfl rfl) (by assumption) ?_
    (try simp only [Act.put, List.setIfInBounds_toArray, List.set_cons_zero, List.set_cons_succ])
    refine take_off (i := 11) (some 16) rfl (by kernel_rfl) (by kernel_rfl) (by kernel_rfl) rfl (fun _ _ _ h => h) (wanted_off (k := 6) (d := 11) (b := true) (c := false) rfl rfl rfl rfl) (by assumption) ?_
    (try simp only [Act.put, List.setIfInBounds_toArray, List.set_cons_zero, List.set_cons_succ])
    refine take_off (i := 12) (some 17) rfl (by kernel_rfl) (by kernel_rfl) (by kernel_rfl) rfl (fun _ _ _ h => h) (wanted_off (k := 6) (d := 11) (b := true) (c := false) rfl rfl rfl rfl) (by assumption) ?_
    (try simp only [Act.put, List.setIfInBounds_toArray, List.set_cons_zero, List.set_cons_succ])
    refine take_on (i := 13) (v := ?_) (some 18) rfl (by kernel_rfl) (by kernel_rfl) (by kernel_rfl) rfl (fun _ _ _ h => h) (by rfl) ?_ (by assumption) ?_
    rotate_left
    · intro w hSw; (try dsimp only at hSw); go_simp; (try with_reducible rfl)
    (try simp only [Act.put, List.setIfInBounds_toArray, List.set_cons_zero, List.set_cons_succ])
    refine take_on (i := 14) (v := ?_) (some 19) rfl (by kernel_rfl) (by kernel_rfl) (by kernel_rfl) rfl (fun _ _ _ h => h) (by rfl) ?_ (by assumption) ?_
    rotate_left
    · intro w hSw; (try dsimp only at hSw); go_simp; (try with_reducible rfl)
    (try simp only [Act.put, List.setIfInBounds_toArray, List.set_cons_zero, List.set_cons_succ])
    refine take_off (i := 15) (some 20) rfl (by kernel_rfl) (by kernel_rfl) (by kernel_rfl) rfl (fun _ _ _ h => h) (wanted_off (k := 14) (d := 19) (b := true) (c := false) rfl rfl rfl rfl) (by assumption) ?_
    (try simp only [Act.put, List.setIfInBounds_toArray, List.set_cons_zero, List.set_cons_succ])
    refine take_off (i := 16) (some 21) rfl (by kernel_rfl) (by kernel_rfl) (by kernel_rfl) rfl (fun _ _ _ h => h) (wanted_off (k := 14) (d := 19) (b := true) (c := false) rfl rfl rfl rfl) (by assumption) ?_
    (try simp only [Act.put, List.setIfInBounds_toArray, List.set_cons_zero, List.set_cons_succ])
    refine take_off (i := 17) (some 22) rfl (by kernel_rfl) (by kernel_rfl) (by kernel_rfl) rfl (fun _ _ _ h => h) (wanted_off (k := 14) (d := 19) (b := true) (c := false) rfl rfl rfl rfl) (by assumption) ?_
    (try simp only [Act.put, List.setIfInBounds_toArray, List.set_cons_zero, List.set_cons_succ])
    refine take_off (i := 18) (some 23) rfl (by kernel_rfl) (by kernel_rfl) (by kernel_rfl) rfl (fun _ _ _ h => h) (wanted_off (k := 14) (d := 19) (b := true) (c := false) rfl rfl rfl rfl) (by assumption) ?_
    (try simp only [Act.put, List.setIfInBounds_toArray, List.set_cons_zero, List.set_cons_succ])
    refine take_off (i := 19) (some 24) rfl (by kernel_rfl) (by kernel_rfl) (by kernel_rfl) rfl (fun _ _ _ h => h) (wanted_off (k := 14) (d := 19) (b := true) (c := false) rfl rfl rfl rfl) (by assumption) ?_
    (try simp only [Act.put, List.setIfInBounds_toArray, List.set_cons_zero, List.set_cons_succ])
    refine take_off (i := 20) (some 25) rfl (by kernel_rfl) (by kernel_rfl) (by kernel_rfl) rfl (fun _ _ _ h => h) (wanted_off (k := 14) (d := 19) (b := true) (c := false) rfl rfl rfl rfl) (by assumption) ?_
    (try simp only [Act.put, List.setIfInBounds_toArray, List.set_cons_zero, List.set_cons_succ])
    refine take_off (i := 21) (some 26) rfl (by kernel_rfl) (by kernel_rfl) (by kernel_rfl) rfl (fun _ _ _ h => h) (wanted_off (k := 14) (d := 19) (b := true) (c := false) rfl rfl rfl rfl) (by assumption) ?_
    (try simp only [Act.put, List.setIfInBounds_toArray, List.set_cons_zero, List.set_cons_succ])
    refine take_off (i := 22) (some 27) rfl (by kernel_rfl) (by kernel_rfl) (by kernel_rfl) rfl (fun _ _ _ h => h) (wanted_off (k := 14) (d := 19) (b := true) (c := false) rfl rfl rfl rfl) (by assumption) ?_
    (try simp only [Act.put, List.setIfInBounds_toArray, List.set_cons_zero, List.set_cons_succ])
    refine take_off (i := 23) (some 28) rfl (by kernel_rfl) (by kernel_rfl) (by kernel_rfl) rfl (fun _ _ _ h => h) (wanted_off (k := 14) (d := 19) (b := true) (c := false) rfl rfl rfl rfl) (by assumption) ?_
    (try simp only [Act.put, List.setIfInBounds_toArray, List.set_cons_zero, List.set_cons_succ])
    refine take_on (i := 24) (v := ?_) (some 29) rfl (by kernel_rfl) (by kernel_rfl) (by kernel_rfl) rfl (fun _ _ _ h => h) (by rfl) ?_ (by assumption) ?_
    rotate_left
    · intro w hSw; (try dsimp only at hSw); go_simp; (try with_reducible rfl)
    (try simp only [Act.put, List.setIfInBounds_toArray, List.set_cons_zero, List.set_cons_succ])
    refine take_on (i := 25) (v := ?_) (some 4) rfl (by kernel_rfl) (by kernel_rfl) (by kernel_rfl) rfl (fun _ _ _ h => h) (by rfl) ?_ (by assumption) ?_
    rotate_left
    · intro w hSw; (try dsimp only at hSw); go_simp; (try with_reducible rfl)
    (try simp only [Act.put, List.setIfInBounds_toArray, List.set_cons_zero, List.set_cons_succ])
    refine wpAnyH_done (by kernel_rfl) ?_ _
    have HF := Lib.hid HC.out
    go_wp2_with (fail)
    go_ret
    exact ⟨by rw [HF.out]; first | rfl | (simp; done), q_0.trans (bs_1.mono q_0.size)⟩
  | true =>
    cases hqx : pktB x with
    | false =>
      have HC := Lib.hid (susp_x (p := p) hqx)
      have h0 := h
      have g0 := g
      have hp := fun {W : World} (h1 : RdPr W p vt bl bs bb nl ns nb vu vv vs) => peerOk_impl h1 hs hn
      have hx := fun {W : World} (h1 : RdP W x vi va) => packetOk_impl h1 gs
      rw [hq] at hp
      rw [hqx] at hx
      clear h g hq hqx
      unfold prC pkC at *
      obtain ⟨W0, hW, hAr, hBr, q_0, -⟩ := rows2 w #[Value.int .i64 p.me, .int .i64 p.delay, .int .i64 p.ahead, .int .i64 p.seed, vt, bl, .int .i64 p.base.tick, .int .i64 p.base.seed, bs, bb, nl, .int .i64 p.now.tick, .int .i64 p.now.seed, ns, nb, vu, vv, vs, .int .i64 p.fault.tick, .int .i64 p.fault.player, .int .i64 p.fault.add, .int .i64 p.rolls, .int .i64 p.again] #[Value.int .i64 x.fr, .int .i64 x.tick, .int .i64 x.first, vi, va, .int .i64 x.sumTick, .int .i64 x.sum, .int .i64 x.time, .int .i64 x.echo] 46 55
      go_enter Tryz.func20, Tryz.ntmps20
      go_upto_region 1 with (fail)
      try rw [hW]
      clear hW
      have bs_0 : Below W0.heap.size W0 W0.drew := belowDrew W0 1
      refine wp_region_held_drew (S := (fun w' => w'.heap[w.heap.size]? = some (.cells #[Value.int .i64 p.me, .int .i64 p.delay, .int .i64 p.ahead, .int .i64 p.seed, vt, bl, .int .i64 p.base.tick, .int .i64 p.base.seed, bs, bb, nl, .int .i64 p.now.tick, .int .i64 p.now.seed, ns, nb, vu, vv, vs, .int .i64 p.fault.tick, .int .i64 p.fault.player, .int .i64 p.fault.add, .int .i64 p.rolls, .int .i64 p.again] 46 (0, 0)) ∧ (∀ j, w'.cell? ⟨w.heap.size, j, none⟩ = #[Value.int .i64 p.me, .int .i64 p.delay, .int .i64 p.ahead, .int .i64 p.seed, vt, bl, .int .i64 p.base.tick, .int .i64 p.base.seed, bs, bb, nl, .int .i64 p.now.tick, .int .i64 p.now.seed, ns, nb, vu, vv, vs, .int .i64 p.fault.tick, .int .i64 p.fault.player, .int .i64 p.fault.add, .int .i64 p.rolls, .int .i64 p.again][j]?) ∧ (∀ j, w'.cell? ⟨w.heap.size + 1, j, none⟩ = #[Value.int .i64 x.fr, .int .i64 x.tick, .int .i64 x.first, vi, va, .int .i64 x.sumTick, .int .i64 x.sum, .int .i64 x.time, .int .i64 x.echo][j]?))) (by kernel_rfl) ?_ (fun hHeld => ?_)
      · exact ⟨keepHeap bs_0 hAr, rowCells (keepHeap bs_0 hAr), rowCells (keepHeap bs_0 hBr)⟩
      refine take_on (i := 0) (v := .agg #[Value.int .i64 p.me, .int .i64 p.delay, .int .i64 p.ahead, .int .i64 p.seed, vt, bl, .int .i64 p.base.tick, .int .i64 p.base.seed, bs, bb, nl, .int .i64 p.now.tick, .int .i64 p.now.seed, ns, nb, vu, vv, vs, .int .i64 p.fault.tick, .int .i64 p.fault.player, .int .i64 p.fault.add, .int .i64 p.rolls, .int .i64 p.again]) (some 5) rfl (by kernel_rfl) (by kernel_rfl) (by kernel_rfl) rfl (fun _ _ _ h => h) (by rfl) (fun W hW => exec_load_row 46 _ rfl (w.heap.size) rfl 46 _ (0, 0) _ hW.1 Tryz.underlying46 rfl (by kernel_rfl)) (by assumption) ?_
      (try simp only [Act.put, List.setIfInBounds_toArray, List.set_cons_zero, List.set_cons_succ])
      refine wpAnyH_ready (rs := [1]) (by kernel_rfl) (by simp) ?_
      refine AllReadyH.cons rfl (fun K hK => ?_) AllReadyH.nil
      go_simp
      refine (hp (h0.keep (q_0.trans (bs_0.mono q_0.size)))).mono ?_
      rintro e w_1 ⟨rfl, hb_1⟩
      have bs_1 := bs_0.trans (hb_1.mono bs_0.size)
      (try go_wp2_with (fail))
      refine hK.out _ _ ?_ (fun hHeld => ?_)
      · exact ⟨keepHeap bs_1 hAr, rowCells (keepHeap bs_1 hAr), rowCells (keepHeap bs_1 hBr)⟩
      clear hK K
      (try simp only [Act.put, List.setIfInBounds_toArray, List.set_cons_zero, List.set_cons_succ])
      refine take_on (i := 2) (v := ?_) (some 7) rfl (by kernel_rfl) (by kernel_rfl) (by kernel_rfl) rfl (fun _ _ _ h => h) (by rfl) ?_ (by assumption) ?_
      rotate_left
      · intro w hSw; (try dsimp only at hSw); go_simp; (try with_reducible rfl)
      (try simp only [Act.put, List.setIfInBounds_toArray, List.set_cons_zero, List.set_cons_succ])
      refine take_on (i := 3) (v := ?_) (some 8) rfl (by kernel_rfl) (by kernel_rfl) (by kernel_rfl) rfl (fun _ _ _ h => h) (wanted_on (k := 2) (d := 7) (b := true) rfl rfl rfl) ?_ (by assumption) ?_
      rotate_left
      · intro w hSw; (try dsimp only at hSw); go_simp; (try with_reducible rfl)
      (try simp only [Act.put, List.setIfInBounds_toArray, List.set_cons_zero, List.set_cons_succ])
      refine wpAnyH_ready (rs := [4]) (by kernel_rfl) (by simp) ?_
      refine AllReadyH.cons rfl (fun K hK => ?_) AllReadyH.nil
      go_simp
      refine (hx (g0.keep (q_0.trans (bs_1.mono q_0.size)))).mono ?_
      rintro e w_2 ⟨rfl, hb_2⟩
      have bs_2 := bs_1.trans (hb_2.mono bs_1.size)
      (try go_wp2_with (fail))
      refine hK.out _ _ ?_ (fun hHeld => ?_)
      · exact ⟨keepHeap bs_2 hAr, rowCells (keepHeap bs_2 hAr), rowCells (keepHeap bs_2 hBr)⟩
      clear hK K
      (try simp only [Act.put, List.setIfInBounds_toArray, List.set_cons_zero, List.set_cons_succ])
      refine take_on (i := 5) (v := ?_) (some 10) rfl (by kernel_rfl) (by kernel_rfl) (by kernel_rfl) rfl (fun _ _ _ h => h) (by rfl) ?_ (by assumption) ?_
      rotate_left
      · intro w hSw; (try dsimp only at hSw); go_simp; (try with_reducible rfl)
      (try simp only [Act.put, List.setIfInBounds_toArray, List.set_cons_zero, List.set_cons_succ])
      refine take_on (i := 6) (v := ?_) (some 11) rfl (by kernel_rfl) (by kernel_rfl) (by kernel_rfl) rfl (fun _ _ _ h => h) (by rfl) ?_ (by assumption) ?_
      rotate_left
      · intro w hSw; (try dsimp only at hSw); go_simp; (try with_reducible rfl)
      (try simp only [Act.put, List.setIfInBounds_toArray, List.set_cons_zero, List.set_cons_succ])
      refine take_off (i := 7) (some 12) rfl (by kernel_rfl) (by kernel_rfl) (by kernel_rfl) rfl (fun _ _ _ h => h) (wanted_off (k := 6) (d := 11) (b := true) (c := false) rfl rfl rfl rfl) (by assumption) ?_
      (try simp only [Act.put, List.setIfInBounds_toArray, List.set_cons_zero, List.set_cons_succ])
      refine take_off (i := 8) (some 13) rfl (by kernel_rfl) (by kernel_rfl) (by kernel_rfl) rfl (fun _ _ _ h => h) (wanted_off (k := 6) (d := 11) (b := true) (c := false) rfl rfl rfl rfl) (by assumption) ?_
      (try simp only [Act.put, List.setIfInBounds_toArray, List.set_cons_zero, List.set_cons_succ])
      refine take_off (i := 9) (some 14) rfl (by kernel_rfl) (by kernel_rfl) (by kernel_rfl) rfl (fun _ _ _ h => h) (wanted_off (k := 6) (d := 11) (b := true) (c := false) rfl rfl rfl rfl) (by assumption) ?_
      (try simp only [Act.put, List.setIfInBounds_toArray, List.set_cons_zero, List.set_cons_succ])
      refine take_off (i := 10) (some 15) rfl (by kernel_rfl) (by kernel_rfl) (by kernel_rfl) rfl (fun _ _ _ h => h) (wanted_off (k := 6) (d := 11) (b := true) (c := false) rfl rfl rfl rfl) (by assumption) ?_
      (try simp only [Act.put, List.setIfInBounds_toArray, List.set_cons_zero, List.set_cons_succ])
      refine take_off (i := 11) (some 16) rfl (by kernel_rfl) (by kernel_rfl) (by kernel_rfl) rfl (fun _ _ _ h => h) (wanted_off (k := 6) (d := 11) (b := true) (c := false) rfl rfl rfl rfl) (by assumption) ?_
      (try simp only [Act.put, List.setIfInBounds_toArray, List.set_cons_zero, List.set_cons_succ])
      refine take_off (i := 12) (some 17) rfl (by kernel_rfl) (by kernel_rfl) (by kernel_rfl) rfl (fun _ _ _ h => h) (wanted_off (k := 6) (d := 11) (b := true) (c := false) rfl rfl rfl rfl) (by assumption) ?_
      (try simp only [Act.put, List.setIfInBounds_toArray, List.set_cons_zero, List.set_cons_succ])
      refine take_on (i := 13) (v := ?_) (some 18) rfl (by kernel_rfl) (by kernel_rfl) (by kernel_rfl) rfl (fun _ _ _ h => h) (by rfl) ?_ (by assumption) ?_
      rotate_left
      · intro w hSw; (try dsimp only at hSw); go_simp; (try with_reducible rfl)
      (try simp only [Act.put, List.setIfInBounds_toArray, List.set_cons_zero, List.set_cons_succ])
      refine take_on (i := 14) (v := ?_) (some 19) rfl (by kernel_rfl) (by kernel_rfl) (by kernel_rfl) rfl (fun _ _ _ h => h) (by rfl) ?_ (by assumption) ?_
      rotate_left
      · intro w hSw; (try dsimp only at hSw); go_simp; (try with_reducible rfl)
      (try simp only [Act.put, List.setIfInBounds_toArray, List.set_cons_zero, List.set_cons_succ])
      refine take_off (i := 15) (some 20) rfl (by kernel_rfl) (by kernel_rfl) (by kernel_rfl) rfl (fun _ _ _ h => h) (wanted_off (k := 14) (d := 19) (b := true) (c := false) rfl rfl rfl rfl) (by assumption) ?_
      (try simp only [Act.put, List.setIfInBounds_toArray, List.set_cons_zero, List.set_cons_succ])
      refine take_off (i := 16) (some 21) rfl (by kernel_rfl) (by kernel_rfl) (by kernel_rfl) rfl (fun _ _ _ h => h) (wanted_off (k := 14) (d := 19) (b := true) (c := false) rfl rfl rfl rfl) (by assumption) ?_
      (try simp only [Act.put, List.setIfInBounds_toArray, List.set_cons_zero, List.set_cons_succ])
      refine take_off (i := 17) (some 22) rfl (by kernel_rfl) (by kernel_rfl) (by kernel_rfl) rfl (fun _ _ _ h => h) (wanted_off (k := 14) (d := 19) (b := true) (c := false) rfl rfl rfl rfl) (by assumption) ?_
      (try simp only [Act.put, List.setIfInBounds_toArray, List.set_cons_zero, List.set_cons_succ])
      refine take_off (i := 18) (some 23) rfl (by kernel_rfl) (by kernel_rfl) (by kernel_rfl) rfl (fun _ _ _ h => h) (wanted_off (k := 14) (d := 19) (b := true) (c := false) rfl rfl rfl rfl) (by assumption) ?_
      (try simp only [Act.put, List.setIfInBounds_toArray, List.set_cons_zero, List.set_cons_succ])
      refine take_off (i := 19) (some 24) rfl (by kernel_rfl) (by kernel_rfl) (by kernel_rfl) rfl (fun _ _ _ h => h) (wanted_off (k := 14) (d := 19) (b := true) (c := false) rfl rfl rfl rfl) (by assumption) ?_
      (try simp only [Act.put, List.setIfInBounds_toArray, List.set_cons_zero, List.set_cons_succ])
      refine take_off (i := 20) (some 25) rfl (by kernel_rfl) (by kernel_rfl) (by kernel_rfl) rfl (fun _ _ _ h => h) (wanted_off (k := 14) (d := 19) (b := true) (c := false) rfl rfl rfl rfl) (by assumption) ?_
      (try simp only [Act.put, List.setIfInBounds_toArray, List.set_cons_zero, List.set_cons_succ])
      refine take_off (i := 21) (some 26) rfl (by kernel_rfl) (by kernel_rfl) (by kernel_rfl) rfl (fun _ _ _ h => h) (wanted_off (k := 14) (d := 19) (b := true) (c := false) rfl rfl rfl rfl) (by assumption) ?_
      (try simp only [Act.put, List.setIfInBounds_toArray, List.set_cons_zero, List.set_cons_succ])
      refine take_off (i := 22) (some 27) rfl (by kernel_rfl) (by kernel_rfl) (by kernel_rfl) rfl (fun _ _ _ h => h) (wanted_off (k := 14) (d := 19) (b := true) (c := false) rfl rfl rfl rfl) (by assumption) ?_
      (try simp only [Act.put, List.setIfInBounds_toArray, List.set_cons_zero, List.set_cons_succ])
      refine take_off (i := 23) (some 28) rfl (by kernel_rfl) (by kernel_rfl) (by kernel_rfl) rfl (fun _ _ _ h => h) (wanted_off (k := 14) (d := 19) (b := true) (c := false) rfl rfl rfl rfl) (by assumption) ?_
      (try simp only [Act.put, List.setIfInBounds_toArray, List.set_cons_zero, List.set_cons_succ])
      refine take_on (i := 24) (v := ?_) (some 29) rfl (by kernel_rfl) (by kernel_rfl) (by kernel_rfl) rfl (fun _ _ _ h => h) (by rfl) ?_ (by assumption) ?_
      rotate_left
      · intro w hSw; (try dsimp only at hSw); go_simp; (try with_reducible rfl)
      (try simp only [Act.put, List.setIfInBounds_toArray, List.set_cons_zero, List.set_cons_succ])
      refine take_on (i := 25) (v := ?_) (some 4) rfl (by kernel_rfl) (by kernel_rfl) (by kernel_rfl) rfl (fun _ _ _ h => h) (by rfl) ?_ (by assumption) ?_
      rotate_left
      · intro w hSw; (try dsimp only at hSw); go_simp; (try with_reducible rfl)
      (try simp only [Act.put, List.setIfInBounds_toArray, List.set_cons_zero, List.set_cons_succ])
      refine wpAnyH_done (by kernel_rfl) ?_ _
      have HF := Lib.hid HC.out
      go_wp2_with (fail)
      go_ret
      exact ⟨by rw [HF.out]; first | rfl | (simp; done), q_0.trans (bs_2.mono q_0.size)⟩
    | true =>
      obtain ⟨k0, hk0⟩ : ∃ k0 : Nat, x.sumTick = (k0 : Int) := ⟨x.sumTick.toNat, by have := pk_sum hqx; omega⟩
      have hsl : (p.sums.length : Int) ≤ 9223372036854775807 := by have := hn.2.2.2.2.2; omega
      by_cases hkl : k0 < p.sums.length
      · obtain ⟨a9, c9, rfl, hss⟩ := id h.2.2.2.2.2
        obtain ⟨sb, so, rfl, hc⟩ := hss.resolve_left (by intro e; rw [e] at hkl; simp at hkl)
        have cs := hc k0 hkl
        have HC := Lib.hid (susp_ok hq hqx hk0 hkl)
        have z7 : decide ((k0 : Int) < (p.sums.length : Int)) = true := by simpa using hkl
        have hl7 : (k0 : Int) < (p.sums.length : Int) := by omega
        generalize p.sums[k0] = sv at cs HC
        clear hc hss
        have h0 := h
        have g0 := g
        have hp := fun {W : World} (h1 : RdPr W p vt bl bs bb nl ns nb vu vv (.slice (some ⟨sb, so, none⟩) p.sums.length c9)) => peerOk_impl h1 hs hn
        have hx := fun {W : World} (h1 : RdP W x vi va) => packetOk_impl h1 gs
        rw [hq] at hp
        rw [hqx] at hx
        clear h g hq hqx
        unfold prC pkC at *
        rw [hk0] at hx ⊢
        have HK0 := Lib.hid hk0
        clear hk0
        obtain ⟨W0, hW, hAr, hBr, q_0, -⟩ := rows2 w #[Value.int .i64 p.me, .int .i64 p.delay, .int .i64 p.ahead, .int .i64 p.seed, vt, bl, .int .i64 p.base.tick, .int .i64 p.base.seed, bs, bb, nl, .int .i64 p.now.tick, .int .i64 p.now.seed, ns, nb, vu, vv, (.slice (some ⟨sb, so, none⟩) p.sums.length c9), .int .i64 p.fault.tick, .int .i64 p.fault.player, .int .i64 p.fault.add, .int .i64 p.rolls, .int .i64 p.again] #[Value.int .i64 x.fr, .int .i64 x.tick, .int .i64 x.first, vi, va, .int .i64 (k0 : Int), .int .i64 x.sum, .int .i64 x.time, .int .i64 x.echo] 46 55
        have cs := (q_0.cell (World.block_lt_of_cell? _ _ cs)).trans cs
        go_enter Tryz.func20, Tryz.ntmps20
        go_upto_region 1 with (fail)
        try rw [hW]
        clear hW
        have bs_0 : Below W0.heap.size W0 W0.drew := belowDrew W0 1
        refine wp_region_held_drew (S := (fun w' => w'.heap[w.heap.size]? = some (.cells #[Value.int .i64 p.me, .int .i64 p.delay, .int .i64 p.ahead, .int .i64 p.seed, vt, bl, .int .i64 p.base.tick, .int .i64 p.base.seed, bs, bb, nl, .int .i64 p.now.tick, .int .i64 p.now.seed, ns, nb, vu, vv, (.slice (some ⟨sb, so, none⟩) p.sums.length c9), .int .i64 p.fault.tick, .int .i64 p.fault.player, .int .i64 p.fault.add, .int .i64 p.rolls, .int .i64 p.again] 46 (0, 0)) ∧ (∀ j, w'.cell? ⟨w.heap.size, j, none⟩ = #[Value.int .i64 p.me, .int .i64 p.delay, .int .i64 p.ahead, .int .i64 p.seed, vt, bl, .int .i64 p.base.tick, .int .i64 p.base.seed, bs, bb, nl, .int .i64 p.now.tick, .int .i64 p.now.seed, ns, nb, vu, vv, (.slice (some ⟨sb, so, none⟩) p.sums.length c9), .int .i64 p.fault.tick, .int .i64 p.fault.player, .int .i64 p.fault.add, .int .i64 p.rolls, .int .i64 p.again][j]?) ∧ (∀ j, w'.cell? ⟨w.heap.size + 1, j, none⟩ = #[Value.int .i64 x.fr, .int .i64 x.tick, .int .i64 x.first, vi, va, .int .i64 (k0 : Int), .int .i64 x.sum, .int .i64 x.time, .int .i64 x.echo][j]?) ∧ w'.cell? ⟨sb, so + k0, none⟩ = some (.int .i64 sv))) (by kernel_rfl) ?_ (fun hHeld => ?_)
        · exact ⟨keepHeap bs_0 hAr, rowCells (keepHeap bs_0 hAr), rowCells (keepHeap bs_0 hBr), (bs_0.cell (World.block_lt_of_cell? _ _ cs)).trans cs⟩
        refine take_on (i := 0) (v := .agg #[Value.int .i64 p.me, .int .i64 p.delay, .int .i64 p.ahead, .int .i64 p.seed, vt, bl, .int .i64 p.base.tick, .int .i64 p.base.seed, bs, bb, nl, .int .i64 p.now.tick, .int .i64 p.now.seed, ns, nb, vu, vv, (.slice (some ⟨sb, so, none⟩) p.sums.length c9), .int .i64 p.fault.tick, .int .i64 p.fault.player, .int .i64 p.fault.add, .int .i64 p.rolls, .int .i64 p.again]) (some 5) rfl (by kernel_rfl) (by kernel_rfl) (by kernel_rfl) rfl (fun _ _ _ h => h) (by rfl) (fun W hW => exec_load_row 46 _ rfl (w.heap.size) rfl 46 _ (0, 0) _ hW.1 Tryz.underlying46 rfl (by kernel_rfl)) (by assumption) ?_
        (try simp only [Act.put, List.setIfInBounds_toArray, List.set_cons_zero, List.set_cons_succ])
        refine wpAnyH_ready (rs := [1]) (by kernel_rfl) (by simp) ?_
        refine AllReadyH.cons rfl (fun K hK => ?_) AllReadyH.nil
        go_simp
        refine (hp (h0.keep (q_0.trans (bs_0.mono q_0.size)))).mono ?_
        rintro e w_1 ⟨rfl, hb_1⟩
        have bs_1 := bs_0.trans (hb_1.mono bs_0.size)
        (try go_wp2_with (fail))
        refine hK.out _ _ ?_ (fun hHeld => ?_)
        · exact ⟨keepHeap bs_1 hAr, rowCells (keepHeap bs_1 hAr), rowCells (keepHeap bs_1 hBr), (bs_1.cell (World.block_lt_of_cell? _ _ cs)).trans cs⟩
        clear hK K
        (try simp only [Act.put, List.setIfInBounds_toArray, List.set_cons_zero, List.set_cons_succ])
        refine take_on (i := 2) (v := ?_) (some 7) rfl (by kernel_rfl) (by kernel_rfl) (by kernel_rfl) rfl (fun _ _ _ h => h) (by rfl) ?_ (by assumption) ?_
        rotate_left
        · intro w hSw; (try dsimp only at hSw); go_simp; (try with_reducible rfl)
        (try simp only [Act.put, List.setIfInBounds_toArray, List.set_cons_zero, List.set_cons_succ])
        refine take_on (i := 3) (v := ?_) (some 8) rfl (by kernel_rfl) (by kernel_rfl) (by kernel_rfl) rfl (fun _ _ _ h => h) (wanted_on (k := 2) (d := 7) (b := true) rfl rfl rfl) ?_ (by assumption) ?_
        rotate_left
        · intro w hSw; (try dsimp only at hSw); go_simp; (try with_reducible rfl)
        (try simp only [Act.put, List.setIfInBounds_toArray, List.set_cons_zero, List.set_cons_succ])
        refine wpAnyH_ready (rs := [4]) (by kernel_rfl) (by simp) ?_
        refine AllReadyH.cons rfl (fun K hK => ?_) AllReadyH.nil
        go_simp
        refine (hx (g0.keep (q_0.trans (bs_1.mono q_0.size)))).mono ?_
        rintro e w_2 ⟨rfl, hb_2⟩
        have bs_2 := bs_1.trans (hb_2.mono bs_1.size)
        (try go_wp2_with (fail))
        refine hK.out _ _ ?_ (fun hHeld => ?_)
        · exact ⟨keepHeap bs_2 hAr, rowCells (keepHeap bs_2 hAr), rowCells (keepHeap bs_2 hBr), (bs_2.cell (World.block_lt_of_cell? _ _ cs)).trans cs⟩
        clear hK K
        (try simp only [Act.put, List.setIfInBounds_toArray, List.set_cons_zero, List.set_cons_succ])
        refine take_on (i := 5) (v := ?_) (some 10) rfl (by kernel_rfl) (by kernel_rfl) (by kernel_rfl) rfl (fun _ _ _ h => h) (by rfl) ?_ (by assumption) ?_
        rotate_left
        · intro w hSw; (try dsimp only at hSw); go_simp; (try with_reducible rfl)
        (try simp only [Act.put, List.setIfInBounds_toArray, List.set_cons_zero, List.set_cons_succ])
        refine take_on (i := 6) (v := ?_) (some 11) rfl (by kernel_rfl) (by kernel_rfl) (by kernel_rfl) rfl (fun _ _ _ h => h) (by rfl) ?_ (by assumption) ?_
        rotate_left
        · intro w hSw; (try dsimp only at hSw); go_simp; (try with_reducible rfl)
        (try simp only [Act.put, List.setIfInBounds_toArray, List.set_cons_zero, List.set_cons_succ])
        refine take_on (i := 7) (v := ?_) (some 12) rfl (by kernel_rfl) (by kernel_rfl) (by kernel_rfl) rfl (fun _ _ _ h => h) (wanted_on (k := 6) (d := 11) (b := true) rfl rfl rfl) ?_ (by assumption) ?_
        rotate_left
        · intro w hSw; (try dsimp only at hSw); go_simp; (try with_reducible rfl)
        (try simp only [Act.put, List.setIfInBounds_toArray, List.set_cons_zero, List.set_cons_succ])
        refine take_on (i := 8) (v := ?_) (some 13) rfl (by kernel_rfl) (by kernel_rfl) (by kernel_rfl) rfl (fun _ _ _ h => h) (wanted_on (k := 6) (d := 11) (b := true) rfl rfl rfl) ?_ (by assumption) ?_
        rotate_left
        · intro w hSw; (try dsimp only at hSw); go_simp; (try with_reducible rfl)
        (try simp only [Act.put, List.setIfInBounds_toArray, List.set_cons_zero, List.set_cons_succ])
        refine take_on (i := 9) (v := ?_) (some 14) rfl (by kernel_rfl) (by kernel_rfl) (by kernel_rfl) rfl (fun _ _ _ h => h) (wanted_on (k := 6) (d := 11) (b := true) rfl rfl rfl) ?_ (by assumption) ?_
        rotate_left
        · intro w hSw; (try dsimp only at hSw); go_simp; (try with_reducible rfl)
        (try simp only [Act.put, List.setIfInBounds_toArray, List.set_cons_zero, List.set_cons_succ])
        refine take_on (i := 10) (v := ?_) (some 15) rfl (by kernel_rfl) (by kernel_rfl) (by kernel_rfl) rfl (fun _ _ _ h => h) (wanted_on (k := 6) (d := 11) (b := true) rfl rfl rfl) ?_ (by assumption) ?_
        rotate_left
        · intro w hSw; (try dsimp only at hSw); go_simp; (try with_reducible rfl)
        (try simp only [Act.put, List.setIfInBounds_toArray, List.set_cons_zero, List.set_cons_succ])
        refine take_on (i := 11) (v := ?_) (some 16) rfl (by kernel_rfl) (by kernel_rfl) (by kernel_rfl) rfl (fun _ _ _ h => h) (wanted_on (k := 6) (d := 11) (b := true) rfl rfl rfl) ?_ (by assumption) ?_
        rotate_left
        · intro w hSw; (try dsimp only at hSw); go_simp; (try with_reducible rfl)
        (try simp only [Act.put, List.setIfInBounds_toArray, List.set_cons_zero, List.set_cons_succ])
        refine take_on (i := 12) (v := ?_) (some 17) rfl (by kernel_rfl) (by kernel_rfl) (by kernel_rfl) rfl (fun _ _ _ h => h) (wanted_on (k := 6) (d := 11) (b := true) rfl rfl rfl) ?_ (by assumption) ?_
        rotate_left
        · intro w hSw; (try dsimp only at hSw); go_simp; (try with_reducible rfl)
        (try simp only [Act.put, List.setIfInBounds_toArray, List.set_cons_zero, List.set_cons_succ])
        refine take_on (i := 13) (v := ?_) (some 18) rfl (by kernel_rfl) (by kernel_rfl) (by kernel_rfl) rfl (fun _ _ _ h => h) (by rfl) ?_ (by assumption) ?_
        rotate_left
        · intro w hSw; (try dsimp only at hSw); go_simp; (try with_reducible rfl)
        (try simp only [Act.put, List.setIfInBounds_toArray, List.set_cons_zero, List.set_cons_succ])
        refine take_on (i := 14) (v := ?_) (some 19) rfl (by kernel_rfl) (by kernel_rfl) (by kernel_rfl) rfl (fun _ _ _ h => h) (by rfl) ?_ (by assumption) ?_
        rotate_left
        · intro w hSw; (try dsimp only at hSw); go_simp; (try with_reducible rfl)
        (try simp only [Act.put, List.setIfInBounds_toArray, List.set_cons_zero, List.set_cons_succ])
        refine take_on (i := 15) (v := ?_) (some 20) rfl (by kernel_rfl) (by kernel_rfl) (by kernel_rfl) rfl (fun _ _ _ h => h) (wanted_on (k := 14) (d := 19) (b := true) rfl rfl rfl) ?_ (by assumption) ?_
        rotate_left
        · intro w hSw; (try dsimp only at hSw); go_simp; (try with_reducible rfl)
        (try simp only [Act.put, List.setIfInBounds_toArray, List.set_cons_zero, List.set_cons_succ])
        refine take_on (i := 16) (v := ?_) (some 21) rfl (by kernel_rfl) (by kernel_rfl) (by kernel_rfl) rfl (fun _ _ _ h => h) (wanted_on (k := 14) (d := 19) (b := true) rfl rfl rfl) ?_ (by assumption) ?_
        rotate_left
        · intro w hSw; (try dsimp only at hSw); go_simp; (try with_reducible rfl)
        (try simp only [Act.put, List.setIfInBounds_toArray, List.set_cons_zero, List.set_cons_succ])
        refine take_on (i := 17) (v := ?_) (some 22) rfl (by kernel_rfl) (by kernel_rfl) (by kernel_rfl) rfl (fun _ _ _ h => h) (wanted_on (k := 14) (d := 19) (b := true) rfl rfl rfl) ?_ (by assumption) ?_
        rotate_left
        · intro w hSw; (try dsimp only at hSw); go_simp; (try with_reducible rfl)
        (try simp only [Act.put, List.setIfInBounds_toArray, List.set_cons_zero, List.set_cons_succ])
        refine take_on (i := 18) (v := ?_) (some 23) rfl (by kernel_rfl) (by kernel_rfl) (by kernel_rfl) rfl (fun _ _ _ h => h) (wanted_on (k := 14) (d := 19) (b := true) rfl rfl rfl) ?_ (by assumption) ?_
        rotate_left
        · intro w hSw; (try dsimp only at hSw); go_simp; (try with_reducible rfl)
        (try simp only [Act.put, List.setIfInBounds_toArray, List.set_cons_zero, List.set_cons_succ])
        refine take_on (i := 19) (v := ?_) (some 24) rfl (by kernel_rfl) (by kernel_rfl) (by kernel_rfl) rfl (fun _ _ _ h => h) (wanted_on (k := 14) (d := 19) (b := true) rfl rfl rfl) ?_ (by assumption) ?_
        rotate_left
        · intro w hSw; (try dsimp only at hSw); go_simp; (try with_reducible rfl)
        (try simp only [Act.put, List.setIfInBounds_toArray, List.set_cons_zero, List.set_cons_succ])
        refine take_on (i := 20) (v := ?_) (some 25) rfl (by kernel_rfl) (by kernel_rfl) (by kernel_rfl) rfl (fun _ _ _ h => h) (wanted_on (k := 14) (d := 19) (b := true) rfl rfl rfl) ?_ (by assumption) ?_
        rotate_left
        · intro w hSw; (try dsimp only at hSw); go_simp; (try with_reducible rfl)
        (try simp only [Act.put, List.setIfInBounds_toArray, List.set_cons_zero, List.set_cons_succ])
        refine take_on (i := 21) (v := ?_) (some 26) rfl (by kernel_rfl) (by kernel_rfl) (by kernel_rfl) rfl (fun _ _ _ h => h) (wanted_on (k := 14) (d := 19) (b := true) rfl rfl rfl) ?_ (by assumption) ?_
        rotate_left
        · intro w hSw; (try dsimp only at hSw); go_simp; (try with_reducible rfl)
        (try simp only [Act.put, List.setIfInBounds_toArray, List.set_cons_zero, List.set_cons_succ])
        refine take_on (i := 22) (v := ?_) (some 27) rfl (by kernel_rfl) (by kernel_rfl) (by kernel_rfl) rfl (fun _ _ _ h => h) (wanted_on (k := 14) (d := 19) (b := true) rfl rfl rfl) ?_ (by assumption) ?_
        rotate_left
        · intro w hSw; (try dsimp only at hSw); go_simp; (try with_reducible rfl)
        (try simp only [Act.put, List.setIfInBounds_toArray, List.set_cons_zero, List.set_cons_succ])
        refine take_on (i := 23) (v := ?_) (some 28) rfl (by kernel_rfl) (by kernel_rfl) (by kernel_rfl) rfl (fun _ _ _ h => h) (wanted_on (k := 14) (d := 19) (b := true) rfl rfl rfl) ?_ (by assumption) ?_
        rotate_left
        · intro w hSw; (try dsimp only at hSw); go_simp; (try with_reducible rfl)
        (try simp only [Act.put, List.setIfInBounds_toArray, List.set_cons_zero, List.set_cons_succ])
        refine take_on (i := 24) (v := ?_) (some 29) rfl (by kernel_rfl) (by kernel_rfl) (by kernel_rfl) rfl (fun _ _ _ h => h) (by rfl) ?_ (by assumption) ?_
        rotate_left
        · intro w hSw; (try dsimp only at hSw); go_simp; (try with_reducible rfl)
        (try simp only [Act.put, List.setIfInBounds_toArray, List.set_cons_zero, List.set_cons_succ])
        refine take_on (i := 25) (v := ?_) (some 4) rfl (by kernel_rfl) (by kernel_rfl) (by kernel_rfl) rfl (fun _ _ _ h => h) (by rfl) ?_ (by assumption) ?_
        rotate_left
        · intro w hSw; (try dsimp only at hSw); go_simp; (try with_reducible rfl)
        (try simp only [Act.put, List.setIfInBounds_toArray, List.set_cons_zero, List.set_cons_succ])
        refine wpAnyH_done (by kernel_rfl) ?_ _
        have HF := Lib.hid HC.out
        go_wp2_with (fail)
        go_ret
        exact ⟨by rw [HF.out]; first | rfl | (simp; done), q_0.trans (bs_2.mono q_0.size)⟩
      · obtain ⟨a9, c9, rfl, -⟩ := id h.2.2.2.2.2
        have HC := Lib.hid (susp_l (p := p) (x := x) (by rw [hk0]; omega))
        have z7 : decide ((k0 : Int) < (p.sums.length : Int)) = false := by simpa using hkl
        have hl7 : ¬ (k0 : Int) < (p.sums.length : Int) := by omega
        have h0 := h
        have g0 := g
        have hp := fun {W : World} (h1 : RdPr W p vt bl bs bb nl ns nb vu vv (.slice a9 p.sums.length c9)) => peerOk_impl h1 hs hn
        have hx := fun {W : World} (h1 : RdP W x vi va) => packetOk_impl h1 gs
        rw [hq] at hp
        rw [hqx] at hx
        clear h g hq hqx
        unfold prC pkC at *
        rw [hk0] at hx ⊢
        have HK0 := Lib.hid hk0
        clear hk0
        obtain ⟨W0, hW, hAr, hBr, q_0, -⟩ := rows2 w #[Value.int .i64 p.me, .int .i64 p.delay, .int .i64 p.ahead, .int .i64 p.seed, vt, bl, .int .i64 p.base.tick, .int .i64 p.base.seed, bs, bb, nl, .int .i64 p.now.tick, .int .i64 p.now.seed, ns, nb, vu, vv, (.slice a9 p.sums.length c9), .int .i64 p.fault.tick, .int .i64 p.fault.player, .int .i64 p.fault.add, .int .i64 p.rolls, .int .i64 p.again] #[Value.int .i64 x.fr, .int .i64 x.tick, .int .i64 x.first, vi, va, .int .i64 (k0 : Int), .int .i64 x.sum, .int .i64 x.time, .int .i64 x.echo] 46 55
        go_enter Tryz.func20, Tryz.ntmps20
        go_upto_region 1 with (fail)
        try rw [hW]
        clear hW
        have bs_0 : Below W0.heap.size W0 W0.drew := belowDrew W0 1
        refine wp_region_held_drew (S := (fun w' => w'.heap[w.heap.size]? = some (.cells #[Value.int .i64 p.me, .int .i64 p.delay, .int .i64 p.ahead, .int .i64 p.seed, vt, bl, .int .i64 p.base.tick, .int .i64 p.base.seed, bs, bb, nl, .int .i64 p.now.tick, .int .i64 p.now.seed, ns, nb, vu, vv, (.slice a9 p.sums.length c9), .int .i64 p.fault.tick, .int .i64 p.fault.player, .int .i64 p.fault.add, .int .i64 p.rolls, .int .i64 p.again] 46 (0, 0)) ∧ (∀ j, w'.cell? ⟨w.heap.size, j, none⟩ = #[Value.int .i64 p.me, .int .i64 p.delay, .int .i64 p.ahead, .int .i64 p.seed, vt, bl, .int .i64 p.base.tick, .int .i64 p.base.seed, bs, bb, nl, .int .i64 p.now.tick, .int .i64 p.now.seed, ns, nb, vu, vv, (.slice a9 p.sums.length c9), .int .i64 p.fault.tick, .int .i64 p.fault.player, .int .i64 p.fault.add, .int .i64 p.rolls, .int .i64 p.again][j]?) ∧ (∀ j, w'.cell? ⟨w.heap.size + 1, j, none⟩ = #[Value.int .i64 x.fr, .int .i64 x.tick, .int .i64 x.first, vi, va, .int .i64 (k0 : Int), .int .i64 x.sum, .int .i64 x.time, .int .i64 x.echo][j]?))) (by kernel_rfl) ?_ (fun hHeld => ?_)
        · exact ⟨keepHeap bs_0 hAr, rowCells (keepHeap bs_0 hAr), rowCells (keepHeap bs_0 hBr)⟩
        refine take_on (i := 0) (v := .agg #[Value.int .i64 p.me, .int .i64 p.delay, .int .i64 p.ahead, .int .i64 p.seed, vt, bl, .int .i64 p.base.tick, .int .i64 p.base.seed, bs, bb, nl, .int .i64 p.now.tick, .int .i64 p.now.seed, ns, nb, vu, vv, (.slice a9 p.sums.length c9), .int .i64 p.fault.tick, .int .i64 p.fault.player, .int .i64 p.fault.add, .int .i64 p.rolls, .int .i64 p.again]) (some 5) rfl (by kernel_rfl) (by kernel_rfl) (by kernel_rfl) rfl (fun _ _ _ h => h) (by rfl) (fun W hW => exec_load_row 46 _ rfl (w.heap.size) rfl 46 _ (0, 0) _ hW.1 Tryz.underlying46 rfl (by kernel_rfl)) (by assumption) ?_
        (try simp only [Act.put, List.setIfInBounds_toArray, List.set_cons_zero, List.set_cons_succ])
        refine wpAnyH_ready (rs := [1]) (by kernel_rfl) (by simp) ?_
        refine AllReadyH.cons rfl (fun K hK => ?_) AllReadyH.nil
        go_simp
        refine (hp (h0.keep (q_0.trans (bs_0.mono q_0.size)))).mono ?_
        rintro e w_1 ⟨rfl, hb_1⟩
        have bs_1 := bs_0.trans (hb_1.mono bs_0.size)
        (try go_wp2_with (fail))
        refine hK.out _ _ ?_ (fun hHeld => ?_)
        · exact ⟨keepHeap bs_1 hAr, rowCells (keepHeap bs_1 hAr), rowCells (keepHeap bs_1 hBr)⟩
        clear hK K
        (try simp only [Act.put, List.setIfInBounds_toArray, List.set_cons_zero, List.set_cons_succ])
        refine take_on (i := 2) (v := ?_) (some 7) rfl (by kernel_rfl) (by kernel_rfl) (by kernel_rfl) rfl (fun _ _ _ h => h) (by rfl) ?_ (by assumption) ?_
        rotate_left
        · intro w hSw; (try dsimp only at hSw); go_simp; (try with_reducible rfl)
        (try simp only [Act.put, List.setIfInBounds_toArray, List.set_cons_zero, List.set_cons_succ])
        refine take_on (i := 3) (v := ?_) (some 8) rfl (by kernel_rfl) (by kernel_rfl) (by kernel_rfl) rfl (fun _ _ _ h => h) (wanted_on (k := 2) (d := 7) (b := true) rfl rfl rfl) ?_ (by assumption) ?_
        rotate_left
        · intro w hSw; (try dsimp only at hSw); go_simp; (try with_reducible rfl)
        (try simp only [Act.put, List.setIfInBounds_toArray, List.set_cons_zero, List.set_cons_succ])
        refine wpAnyH_ready (rs := [4]) (by kernel_rfl) (by simp) ?_
        refine AllReadyH.cons rfl (fun K hK => ?_) AllReadyH.nil
        go_simp
        refine (hx (g0.keep (q_0.trans (bs_1.mono q_0.size)))).mono ?_
        rintro e w_2 ⟨rfl, hb_2⟩
        have bs_2 := bs_1.trans (hb_2.mono bs_1.size)
        (try go_wp2_with (fail))
        refine hK.out _ _ ?_ (fun hHeld => ?_)
        · exact ⟨keepHeap bs_2 hAr, rowCells (keepHeap bs_2 hAr), rowCells (keepHeap bs_2 hBr)⟩
        clear hK K
        (try simp only [Act.put, List.setIfInBounds_toArray, List.set_cons_zero, List.set_cons_succ])
        refine take_on (i := 5) (v := ?_) (some 10) rfl (by kernel_rfl) (by kernel_rfl) (by kernel_rfl) rfl (fun _ _ _ h => h) (by rfl) ?_ (by assumption) ?_
        rotate_left
        · intro w hSw; (try dsimp only at hSw); go_simp; (try with_reducible rfl)
        (try simp only [Act.put, List.setIfInBounds_toArray, List.set_cons_zero, List.set_cons_succ])
        refine take_on (i := 6) (v := ?_) (some 11) rfl (by kernel_rfl) (by kernel_rfl) (by kernel_rfl) rfl (fun _ _ _ h => h) (by rfl) ?_ (by assumption) ?_
        rotate_left
        · intro w hSw; (try dsimp only at hSw); go_simp; (try with_reducible rfl)
        (try simp only [Act.put, List.setIfInBounds_toArray, List.set_cons_zero, List.set_cons_succ])
        refine take_on (i := 7) (v := ?_) (some 12) rfl (by kernel_rfl) (by kernel_rfl) (by kernel_rfl) rfl (fun _ _ _ h => h) (wanted_on (k := 6) (d := 11) (b := true) rfl rfl rfl) ?_ (by assumption) ?_
        rotate_left
        · intro w hSw; (try dsimp only at hSw); go_simp; (try with_reducible rfl)
        (try simp only [Act.put, List.setIfInBounds_toArray, List.set_cons_zero, List.set_cons_succ])
        refine take_on (i := 8) (v := ?_) (some 13) rfl (by kernel_rfl) (by kernel_rfl) (by kernel_rfl) rfl (fun _ _ _ h => h) (wanted_on (k := 6) (d := 11) (b := true) rfl rfl rfl) ?_ (by assumption) ?_
        rotate_left
        · intro w hSw; (try dsimp only at hSw); go_simp; (try with_reducible rfl)
        (try simp only [Act.put, List.setIfInBounds_toArray, List.set_cons_zero, List.set_cons_succ])
        refine take_on (i := 9) (v := ?_) (some 14) rfl (by kernel_rfl) (by kernel_rfl) (by kernel_rfl) rfl (fun _ _ _ h => h) (wanted_on (k := 6) (d := 11) (b := true) rfl rfl rfl) ?_ (by assumption) ?_
        rotate_left
        · intro w hSw; (try dsimp only at hSw); go_simp; (try with_reducible rfl)
        (try simp only [Act.put, List.setIfInBounds_toArray, List.set_cons_zero, List.set_cons_succ])
        refine take_on (i := 10) (v := ?_) (some 15) rfl (by kernel_rfl) (by kernel_rfl) (by kernel_rfl) rfl (fun _ _ _ h => h) (wanted_on (k := 6) (d := 11) (b := true) rfl rfl rfl) ?_ (by assumption) ?_
        rotate_left
        · intro w hSw; (try dsimp only at hSw); go_simp; (try with_reducible rfl)
        (try simp only [Act.put, List.setIfInBounds_toArray, List.set_cons_zero, List.set_cons_succ])
        refine take_on (i := 11) (v := ?_) (some 16) rfl (by kernel_rfl) (by kernel_rfl) (by kernel_rfl) rfl (fun _ _ _ h => h) (wanted_on (k := 6) (d := 11) (b := true) rfl rfl rfl) ?_ (by assumption) ?_
        rotate_left
        · intro w hSw; (try dsimp only at hSw); go_simp; (try with_reducible rfl)
        (try simp only [Act.put, List.setIfInBounds_toArray, List.set_cons_zero, List.set_cons_succ])
        refine take_on (i := 12) (v := ?_) (some 17) rfl (by kernel_rfl) (by kernel_rfl) (by kernel_rfl) rfl (fun _ _ _ h => h) (wanted_on (k := 6) (d := 11) (b := true) rfl rfl rfl) ?_ (by assumption) ?_
        rotate_left
        · intro w hSw; (try dsimp only at hSw); go_simp; (try with_reducible rfl)
        (try simp only [Act.put, List.setIfInBounds_toArray, List.set_cons_zero, List.set_cons_succ])
        refine take_on (i := 13) (v := ?_) (some 18) rfl (by kernel_rfl) (by kernel_rfl) (by kernel_rfl) rfl (fun _ _ _ h => h) (by rfl) ?_ (by assumption) ?_
        rotate_left
        · intro w hSw; (try dsimp only at hSw); go_simp; (try with_reducible rfl)
        (try simp only [Act.put, List.setIfInBounds_toArray, List.set_cons_zero, List.set_cons_succ])
        refine take_on (i := 14) (v := ?_) (some 19) rfl (by kernel_rfl) (by kernel_rfl) (by kernel_rfl) rfl (fun _ _ _ h => h) (by rfl) ?_ (by assumption) ?_
        rotate_left
        · intro w hSw; (try dsimp only at hSw); go_simp; (try with_reducible rfl)
        (try simp only [Act.put, List.setIfInBounds_toArray, List.set_cons_zero, List.set_cons_succ])
        refine take_off (i := 15) (some 20) rfl (by kernel_rfl) (by kernel_rfl) (by kernel_rfl) rfl (fun _ _ _ h => h) (wanted_off (k := 14) (d := 19) (b := true) (c := false) rfl rfl rfl rfl) (by assumption) ?_
        (try simp only [Act.put, List.setIfInBounds_toArray, List.set_cons_zero, List.set_cons_succ])
        refine take_off (i := 16) (some 21) rfl (by kernel_rfl) (by kernel_rfl) (by kernel_rfl) rfl (fun _ _ _ h => h) (wanted_off (k := 14) (d := 19) (b := true) (c := false) rfl rfl rfl rfl) (by assumption) ?_
        (try simp only [Act.put, List.setIfInBounds_toArray, List.set_cons_zero, List.set_cons_succ])
        refine take_off (i := 17) (some 22) rfl (by kernel_rfl) (by kernel_rfl) (by kernel_rfl) rfl (fun _ _ _ h => h) (wanted_off (k := 14) (d := 19) (b := true) (c := false) rfl rfl rfl rfl) (by assumption) ?_
        (try simp only [Act.put, List.setIfInBounds_toArray, List.set_cons_zero, List.set_cons_succ])
        refine take_off (i := 18) (some 23) rfl (by kernel_rfl) (by kernel_rfl) (by kernel_rfl) rfl (fun _ _ _ h => h) (wanted_off (k := 14) (d := 19) (b := true) (c := false) rfl rfl rfl rfl) (by assumption) ?_
        (try simp only [Act.put, List.setIfInBounds_toArray, List.set_cons_zero, List.set_cons_succ])
        refine take_off (i := 19) (some 24) rfl (by kernel_rfl) (by kernel_rfl) (by kernel_rfl) rfl (fun _ _ _ h => h) (wanted_off (k := 14) (d := 19) (b := true) (c := false) rfl rfl rfl rfl) (by assumption) ?_
        (try simp only [Act.put, List.setIfInBounds_toArray, List.set_cons_zero, List.set_cons_succ])
        refine take_off (i := 20) (some 25) rfl (by kernel_rfl) (by kernel_rfl) (by kernel_rfl) rfl (fun _ _ _ h => h) (wanted_off (k := 14) (d := 19) (b := true) (c := false) rfl rfl rfl rfl) (by assumption) ?_
        (try simp only [Act.put, List.setIfInBounds_toArray, List.set_cons_zero, List.set_cons_succ])
        refine take_off (i := 21) (some 26) rfl (by kernel_rfl) (by kernel_rfl) (by kernel_rfl) rfl (fun _ _ _ h => h) (wanted_off (k := 14) (d := 19) (b := true) (c := false) rfl rfl rfl rfl) (by assumption) ?_
        (try simp only [Act.put, List.setIfInBounds_toArray, List.set_cons_zero, List.set_cons_succ])
        refine take_off (i := 22) (some 27) rfl (by kernel_rfl) (by kernel_rfl) (by kernel_rfl) rfl (fun _ _ _ h => h) (wanted_off (k := 14) (d := 19) (b := true) (c := false) rfl rfl rfl rfl) (by assumption) ?_
        (try simp only [Act.put, List.setIfInBounds_toArray, List.set_cons_zero, List.set_cons_succ])
        refine take_off (i := 23) (some 28) rfl (by kernel_rfl) (by kernel_rfl) (by kernel_rfl) rfl (fun _ _ _ h => h) (wanted_off (k := 14) (d := 19) (b := true) (c := false) rfl rfl rfl rfl) (by assumption) ?_
        (try simp only [Act.put, List.setIfInBounds_toArray, List.set_cons_zero, List.set_cons_succ])
        refine take_on (i := 24) (v := ?_) (some 29) rfl (by kernel_rfl) (by kernel_rfl) (by kernel_rfl) rfl (fun _ _ _ h => h) (by rfl) ?_ (by assumption) ?_
        rotate_left
        · intro w hSw; (try dsimp only at hSw); go_simp; (try with_reducible rfl)
        (try simp only [Act.put, List.setIfInBounds_toArray, List.set_cons_zero, List.set_cons_succ])
        refine take_on (i := 25) (v := ?_) (some 4) rfl (by kernel_rfl) (by kernel_rfl) (by kernel_rfl) rfl (fun _ _ _ h => h) (by rfl) ?_ (by assumption) ?_
        rotate_left
        · intro w hSw; (try dsimp only at hSw); go_simp; (try with_reducible rfl)
        (try simp only [Act.put, List.setIfInBounds_toArray, List.set_cons_zero, List.set_cons_succ])
        refine wpAnyH_done (by kernel_rfl) ?_ _
        have HF := Lib.hid HC.out
        go_wp2_with (fail)
        go_ret
        exact ⟨by rw [HF.out]; first | rfl | (simp; done), q_0.trans (bs_2.mono q_0.size)⟩
set_option maxRecDepth 100000 in
set_option maxHeartbeats 16000000 in
theorem lawSuspects {w : World} (p : Pr) (vt bl bs bb nl ns nb vu vv vs : Value) (h : RdPr w p vt bl bs bb nl ns nb vu vv vs) (hs : p.sane) (x : Pk) (vi va : Value) (g : RdP w x vi va) (gs : x.sane) :
    Calls Tryz.prog 6 #[.agg (prC p vt bl bs bb nl ns nb vu vv vs), .agg (pkC x vi va)] w fun e w' => e = .returned (.bool true) ∧ Below w.heap.size w w' := by
  have h0 := h
  have g0 := g
  obtain ⟨a0, c0, rfl, -⟩ := id h.1
  obtain ⟨a1, c1, rfl, -⟩ := id h.2.1.1
  obtain ⟨a2, c2, rfl, -⟩ := id h.2.1.2.1
  obtain ⟨a3, c3, rfl, -⟩ := id h.2.1.2.2
  obtain ⟨a4, c4, rfl, -⟩ := id h.2.2.1.1
  obtain ⟨a5, c5, rfl, -⟩ := id h.2.2.1.2.1
  obtain ⟨a6, c6, rfl, -⟩ := id h.2.2.1.2.2
  obtain ⟨a7, c7, rfl, -⟩ := id h.2.2.2.1
  obtain ⟨a8, c8, rfl, -⟩ := id h.2.2.2.2.1
  obtain ⟨a9, c9, rfl, -⟩ := id h.2.2.2.2.2
  obtain ⟨ai, ci, rfl, -⟩ := id g.1
  obtain ⟨aa, ca, rfl, -⟩ := id g.2
  obtain ⟨w_1, hW, A_1, B_1, q0_1, -⟩ := rows2 w #[Value.int .i64 p.me, .int .i64 p.delay, .int .i64 p.ahead, .int .i64 p.seed, (.slice a0 p.tracks.length c0), (.slice a1 p.base.rows.length c1), .int .i64 p.base.tick, .int .i64 p.base.seed, (.slice a2 p.base.scores.length c2), (.slice a3 p.base.bods.length c3), (.slice a4 p.now.rows.length c4), .int .i64 p.now.tick, .int .i64 p.now.seed, (.slice a5 p.now.scores.length c5), (.slice a6 p.now.bods.length c6), (.slice a7 p.used.length c7), (.slice a8 p.saves.length c8), (.slice a9 p.sums.length c9), .int .i64 p.fault.tick, .int .i64 p.fault.player, .int .i64 p.fault.add, .int .i64 p.rolls, .int .i64 p.again] #[Value.int .i64 x.fr, .int .i64 x.tick, .int .i64 x.first, (.slice ai x.ins.length ci), (.slice aa x.acks.length ca), .int .i64 x.sumTick, .int .i64 x.sum, .int .i64 x.time, .int .i64 x.echo] 35 52
  unfold prC pkC
  go_enter Tryz.func6, Tryz.ntmps6
  go_upto_region 2 with (fail)
  try rw [hW]
  clear hW
  refine wp_region_lit ?_
  refine wpList_load_row rfl 35 _ rfl (w.heap.size) rfl 35 _ (0, 0) _ A_1 Tryz.underlying35 rfl (by kernel_rfl) ?_
  go_wp2_with (fail)
  refine (szPeer_any (h0.keep q0_1) hs 1048576 (by omega) (by omega)).mono ?_
  rintro e w_2 ⟨r, rfl, hr, hb_2⟩
  have q0_2 := q0_1.trans (hb_2.mono q0_1.size)
  have A_2 := keepHeap hb_2 A_1
  have B_2 := keepHeap hb_2 B_1
  clear q0_1 A_1 B_1 hb_2
  rcases hr with rfl | ⟨hr0, hr1, hn⟩
  · go_wp2_with (fail)
    go_ret
    exact ⟨rfl, q0_2⟩
  have zr : decide (r < 0) = false := by simpa using hr0
  have cB_2 := rowCells B_2
  go_wp2_with (fail)
  refine (szPacket_any (g0.keep q0_2) gs r hr0 hr1).mono ?_
  rintro e w_3 ⟨r2, rfl, hr2, hb_3⟩
  have q0_3 := q0_2.trans (hb_3.mono q0_2.size)
  have A_3 := keepHeap hb_3 A_2
  have B_3 := keepHeap hb_3 B_2
  clear q0_2 A_2 B_2 hb_3 cB_2
  rcases hr2 with rfl | ⟨hr20, hr21⟩
  · go_wp2_with (fail)
    go_ret
    exact ⟨rfl, q0_3⟩
  have zr2 : decide (r2 < 0) = false := by simpa using hr20
  have gn : x.few := ⟨by omega, by omega⟩
  have hspec := fun {W : World} {vt bl bs bb nl ns nb vu vv vs : Value} {vi va : Value} (h1 : RdPr W p vt bl bs bb nl ns nb vu vv vs) (h2 : RdP W x vi va) => suspects_spec h1 hs hn h2 gs
  have himpl := fun {W : World} {vt bl bs bb nl ns nb vu vv vs : Value} {vi va : Value} (h1 : RdPr W p vt bl bs bb nl ns nb vu vv vs) (h2 : RdP W x vi va) => suspects_impl h1 hs hn h2 gs
  have heq := fun {W : World} {vt bl bs bb nl ns nb vu vv vs vt' bl' bs' bb' nl' ns' nb' vu' vv' vs' : Value} (h1 : RdPr W p vt bl bs bb nl ns nb vu vv vs) (h2 : RdPr W p vt' bl' bs' bb' nl' ns' nb' vu' vv' vs') => eqPeer_same h1 h2 hn
  have hto := fun {W : World} (h1 : RdPr W p (.slice a0 p.tracks.length c0) (.slice a1 p.base.rows.length c1) (.slice a2 p.base.scores.length c2) (.slice a3 p.base.bods.length c3) (.slice a4 p.now.rows.length c4) (.slice a5 p.now.scores.length c5) (.slice a6 p.now.bods.length c6) (.slice a7 p.used.length c7) (.slice a8 p.saves.length c8) (.slice a9 p.sums.length c9)) => toPeer_any h1 hn
  have hxto := fun {W : World} (h1 : RdP W x (.slice ai x.ins.length ci) (.slice aa x.acks.length ca)) => toPacket_any h1 gn
  have hxeq := fun {W : World} {vi va vi' va' : Value} (h1 : RdP W x vi va) (h2 : RdP W x vi' va') => eqPacket_same h1 h2 gn
  unfold prC pkC at hspec himpl
  unfold prC at heq hto
  unfold pkC at hxeq hxto
  generalize suspB p x = t at hspec himpl
  clear hr20 hr21 hr0 hr1
  go_upto_region 8 with (fail)
  have bs_0 : Below w_3.heap.size w_3 w_3.drew := belowDrew w_3 1
  refine wp_region_held_drew (S := fun w' => w'.heap[w.heap.size]? = some (.cells #[Value.int .i64 p.me, .int .i64 p.delay, .int .i64 p.ahead, .int .i64 p.seed, (.slice a0 p.tracks.length c0), (.slice a1 p.base.rows.length c1), .int .i64 p.base.tick, .int .i64 p.base.seed, (.slice a2 p.base.scores.length c2), (.slice a3 p.base.bods.length c3), (.slice a4 p.now.rows.length c4), .int .i64 p.now.tick, .int .i64 p.now.seed, (.slice a5 p.now.scores.length c5), (.slice a6 p.now.bods.length c6), (.slice a7 p.used.length c7), (.slice a8 p.saves.length c8), (.slice a9 p.sums.length c9), .int .i64 p.fault.tick, .int .i64 p.fault.player, .int .i64 p.fault.add, .int .i64 p.rolls, .int .i64 p.again] 35 (0, 0)) ∧ w'.heap[w.heap.size + 1]? = some (.cells #[Value.int .i64 x.fr, .int .i64 x.tick, .int .i64 x.first, (.slice ai x.ins.length ci), (.slice aa x.acks.length ca), .int .i64 x.sumTick, .int .i64 x.sum, .int .i64 x.time, .int .i64 x.echo] 52 (0, 0))) (by kernel_rfl) ?_ (fun hHeld => ?_)
  · exact ⟨keepHeap bs_0 A_3, keepHeap bs_0 B_3⟩
  refine take_on (i := 0) (v := .agg #[Value.int .i64 p.me, .int .i64 p.delay, .int .i64 p.ahead, .int .i64 p.seed, (.slice a0 p.tracks.length c0), (.slice a1 p.base.rows.length c1), .int .i64 p.base.tick, .int .i64 p.base.seed, (.slice a2 p.base.scores.length c2), (.slice a3 p.base.bods.length c3), (.slice a4 p.now.rows.length c4), .int .i64 p.now.tick, .int .i64 p.now.seed, (.slice a5 p.now.scores.length c5), (.slice a6 p.now.bods.length c6), (.slice a7 p.used.length c7), (.slice a8 p.saves.length c8), (.slice a9 p.sums.length c9), .int .i64 p.fault.tick, .int .i64 p.fault.player, .int .i64 p.fault.add, .int .i64 p.rolls, .int .i64 p.again]) (some 20) rfl (by kernel_rfl) (by kernel_rfl) (by kernel_rfl) rfl (fun _ _ _ h => h) (by rfl) (fun W hW => exec_load_row 35 _ rfl (w.heap.size) rfl 35 _ (0, 0) _ hW.1 Tryz.underlying35 rfl (by kernel_rfl)) (by assumption) ?_
  (try simp only [Act.put, List.setIfInBounds_toArray, List.set_cons_zero, List.set_cons_succ])
  refine take_on (i := 2) (v := .agg #[Value.int .i64 x.fr, .int .i64 x.tick, .int .i64 x.first, (.slice ai x.ins.length ci), (.slice aa x.acks.length ca), .int .i64 x.sumTick, .int .i64 x.sum, .int .i64 x.time, .int .i64 x.echo]) (some 22) rfl (by kernel_rfl) (by kernel_rfl) (by kernel_rfl) rfl (fun _ _ _ h => h) (by rfl) (fun W hW => exec_load_row 52 _ rfl (w.heap.size + 1) rfl 52 _ (0, 0) _ hW.2 Tryz.underlying52 rfl (by kernel_rfl)) (by assumption) ?_
  (try simp only [Act.put, List.setIfInBounds_toArray, List.set_cons_zero, List.set_cons_succ])
  refine wpAnyH_ready (rs := [1]) (by kernel_rfl) (by simp) ?_
  refine AllReadyH.cons rfl (fun K hK => ?_) AllReadyH.nil
  go_simp
  refine (hto (h0.keep (q0_3.trans (bs_0.mono q0_3.size)))).mono ?_
  rintro e wd_1 ⟨u0, u1, u2, u3, u4, u5, u6, u7, u8, u9, rfl, rp, hbd_1⟩
  have bs_1 := bs_0.trans (hbd_1.mono bs_0.size)
  unfold prC
  (try go_wp2_with (fail))
  refine hK.out _ _ ?_ (fun hHeld => ?_)
  · exact ⟨keepHeap bs_1 A_3, keepHeap bs_1 B_3⟩
  clear hK K
  (try simp only [Act.put, List.setIfInBounds_toArray, List.set_cons_zero, List.set_cons_succ])
  refine wpAnyH_ready (rs := [3]) (by kernel_rfl) (by simp) ?_
  refine AllReadyH.cons rfl (fun K hK => ?_) AllReadyH.nil
  go_simp
  refine (hxto (g0.keep (q0_3.trans (bs_1.mono q0_3.size)))).mono ?_
  rintro e wd_2 ⟨v0, v1, rfl, oi, -, oa, -, hbd_2⟩
  have bs_2 := bs_1.trans (hbd_2.mono bs_1.size)
  have rx : RdP wd_2 x v0 v1 := ⟨oi.rd, oa.rd⟩
  unfold pkC
  have rp := rp.keep hbd_2
  (try go_wp2_with (fail))
  refine hK.out _ _ ?_ (fun hHeld => ?_)
  · exact ⟨keepHeap bs_2 A_3, keepHeap bs_2 B_3⟩
  clear hK K
  (try simp only [Act.put, List.setIfInBounds_toArray, List.set_cons_zero, List.set_cons_succ])
  refine wpAnyH_ready (rs := [4]) (by kernel_rfl) (by simp) ?_
  refine AllReadyH.cons rfl (fun K hK => ?_) AllReadyH.nil
  go_simp
  refine (hspec rp rx).mono ?_
  rintro e wd_3 ⟨rfl, hbd_3⟩
  have bs_3 := bs_2.trans (hbd_3.mono bs_2.size)
  (try go_wp2_with (fail))
  refine hK.out _ _ ?_ (fun hHeld => ?_)
  · exact ⟨keepHeap bs_3 A_3, keepHeap bs_3 B_3⟩
  clear hK K
  (try simp only [Act.put, List.setIfInBounds_toArray, List.set_cons_zero, List.set_cons_succ])
  refine take_on (i := 5) (v := ?_) (some 6) rfl (by kernel_rfl) (by kernel_rfl) (by kernel_rfl) rfl (fun _ _ _ h => h) (by rfl) ?_ (by assumption) ?_
  rotate_left
  · intro w hSw; (try dsimp only at hSw); go_simp; (try with_reducible rfl)
  (try simp only [Act.put, List.setIfInBounds_toArray, List.set_cons_zero, List.set_cons_succ])
  refine wpAnyH_done (by kernel_rfl) ?_ _
  have q0_4 := q0_3.trans (bs_3.mono q0_3.size)
  have A_4 := keepHeap bs_3 A_3
  have B_4 := keepHeap bs_3 B_3
  clear rp rx bs_0 bs_1 bs_2 bs_3 A_3 B_3
  go_upto_region 9 with (fail)
  refine wp_region_lit ?_
  refine wpList_load_row rfl 35 _ rfl (w.heap.size) rfl 35 _ (0, 0) _ A_4 Tryz.underlying35 rfl (by kernel_rfl) ?_
  go_wp2_with (fail)
  rename_i hK6
  refine (hto (h0.keep q0_4)).mono ?_
  rintro e w_5 ⟨u0, u1, u2, u3, u4, u5, u6, u7, u8, u9, rfl, o2, hb_5⟩
  have q0_5 := q0_4.trans (hb_5.mono q0_4.size)
  have A_5 := keepHeap hb_5 A_4
  have B_5 := keepHeap hb_5 B_4
  have rd2 := o2
  obtain ⟨a02, c02, rfl, -⟩ := id rd2.1
  obtain ⟨a12, c12, rfl, -⟩ := id rd2.2.1.1
  obtain ⟨a22, c22, rfl, -⟩ := id rd2.2.1.2.1
  obtain ⟨a32, c32, rfl, -⟩ := id rd2.2.1.2.2
  obtain ⟨a42, c42, rfl, -⟩ := id rd2.2.2.1.1
  obtain ⟨a52, c52, rfl, -⟩ := id rd2.2.2.1.2.1
  obtain ⟨a62, c62, rfl, -⟩ := id rd2.2.2.1.2.2
  obtain ⟨a72, c72, rfl, -⟩ := id rd2.2.2.2.1
  obtain ⟨a82, c82, rfl, -⟩ := id rd2.2.2.2.2.1
  obtain ⟨a92, c92, rfl, -⟩ := id rd2.2.2.2.2.2
  clear rd2
  unfold prC
  obtain ⟨w_6, hw_6, X_6, hb_6⟩ : ∃ W, w_5.alloc (.cells #[Value.int .i64 p.me, .int .i64 p.delay, .int .i64 p.ahead, .int .i64 p.seed, (.slice a02 p.tracks.length c02), (.slice a12 p.base.rows.length c12), .int .i64 p.base.tick, .int .i64 p.base.seed, (.slice a22 p.base.scores.length c22), (.slice a32 p.base.bods.length c32), (.slice a42 p.now.rows.length c42), .int .i64 p.now.tick, .int .i64 p.now.seed, (.slice a52 p.now.scores.length c52), (.slice a62 p.now.bods.length c62), (.slice a72 p.used.length c72), (.slice a82 p.saves.length c82), (.slice a92 p.sums.length c92), .int .i64 p.fault.tick, .int .i64 p.fault.player, .int .i64 p.fault.add, .int .i64 p.rolls, .int .i64 p.again] 46) = W ∧ W.heap[w_5.heap.size]? = some (.cells #[Value.int .i64 p.me, .int .i64 p.delay, .int .i64 p.ahead, .int .i64 p.seed, (.slice a02 p.tracks.length c02), (.slice a12 p.base.rows.length c12), .int .i64 p.base.tick, .int .i64 p.base.seed, (.slice a22 p.base.scores.length c22), (.slice a32 p.base.bods.length c32), (.slice a42 p.now.rows.length c42), .int .i64 p.now.tick, .int .i64 p.now.seed, (.slice a52 p.now.scores.length c52), (.slice a62 p.now.bods.length c62), (.slice a72 p.used.length c72), (.slice a82 p.saves.length c82), (.slice a92 p.sums.length c92), .int .i64 p.fault.tick, .int .i64 p.fault.player, .int .i64 p.fault.add, .int .i64 p.rolls, .int .i64 p.again] 46 (0, 0)) ∧ Below w_5.heap.size w_5 W := ⟨_, rfl, heap_alloc_new _ _, below1 _ _⟩
  have q0_6 := q0_5.trans (hb_6.mono q0_5.size)
  have A_6 := keepHeap hb_6 A_5
  have B_6 := keepHeap hb_6 B_5
  have o2 := o2.keep hb_6
  refine hK6 _ _ ?_
  clear hK6
  refine wpList_runTo rfl _ rfl (.pointer (some ⟨w_5.heap.size, 0, none⟩)) (w_5.alloc (.cells #[Value.int .i64 0, .int .i64 0, .int .i64 0, .int .i64 0, (.slice none 0 0), (.slice none 0 0), .int .i64 0, .int .i64 0, (.slice none 0 0), (.slice none 0 0), (.slice none 0 0), .int .i64 0, .int .i64 0, (.slice none 0 0), (.slice none 0 0), (.slice none 0 0), (.slice none 0 0), (.slice none 0 0), .int .i64 0, .int .i64 0, .int .i64 0, .int .i64 0, .int .i64 0] 46)) (by kernel_rfl) ?_
  refine wpList_store_row rfl 46 _ _ rfl w_5.heap.size #[Value.int .i64 p.me, .int .i64 p.delay, .int .i64 p.ahead, .int .i64 p.seed, (.slice a02 p.tracks.length c02), (.slice a12 p.base.rows.length c12), .int .i64 p.base.tick, .int .i64 p.base.seed, (.slice a22 p.base.scores.length c22), (.slice a32 p.base.bods.length c32), (.slice a42 p.now.rows.length c42), .int .i64 p.now.tick, .int .i64 p.now.seed, (.slice a52 p.now.scores.length c52), (.slice a62 p.now.bods.length c62), (.slice a72 p.used.length c72), (.slice a82 p.saves.length c82), (.slice a92 p.sums.length c92), .int .i64 p.fault.tick, .int .i64 p.fault.player, .int .i64 p.fault.add, .int .i64 p.rolls, .int .i64 p.again] rfl rfl 46 _ (heap_alloc_new _ _) (by kernel_rfl) rfl (by simp [Value.oneCell']) ?_
  rw [World.setRow_alloc_new, hw_6]
  clear hw_6
  go_upto_region 10 with (fail)
  have cB_6 := rowCells B_6
  go_wp2_with (fail)
  refine (hxto (g0.keep q0_6)).mono ?_
  rintro e w_7 ⟨v0, v1, rfl, oi, -, oa, -, hb_7⟩
  have q0_7 := q0_6.trans (hb_7.mono q0_6.size)
  have A_7 := keepHeap hb_7 A_6
  have B_7 := keepHeap hb_7 B_6
  have X_7 := keepHeap hb_7 X_6
  have o2 := o2.keep hb_7
  have ox : RdP w_7 x v0 v1 := ⟨oi.rd, oa.rd⟩
  obtain ⟨ai7, ci7, rfl, -⟩ := id ox.1
  obtain ⟨aa7, ca7, rfl, -⟩ := id ox.2
  unfold pkC
  clear cB_6 oi oa
  obtain ⟨w_8, hw_8, Y_8, hb_8⟩ : ∃ W, w_7.alloc (.cells #[Value.int .i64 x.fr, .int .i64 x.tick, .int .i64 x.first, (.slice ai7 x.ins.length ci7), (.slice aa7 x.acks.length ca7), .int .i64 x.sumTick, .int .i64 x.sum, .int .i64 x.time, .int .i64 x.echo] 55) = W ∧ W.heap[w_7.heap.size]? = some (.cells #[Value.int .i64 x.fr, .int .i64 x.tick, .int .i64 x.first, (.slice ai7 x.ins.length ci7), (.slice aa7 x.acks.length ca7), .int .i64 x.sumTick, .int .i64 x.sum, .int .i64 x.time, .int .i64 x.echo] 55 (0, 0)) ∧ Below w_7.heap.size w_7 W := ⟨_, rfl, heap_alloc_new _ _, below1 _ _⟩
  have q0_8 := q0_7.trans (hb_8.mono q0_7.size)
  have A_8 := keepHeap hb_8 A_7
  have B_8 := keepHeap hb_8 B_7
  have X_8 := keepHeap hb_8 X_7
  have o2 := o2.keep hb_8
  have ox := ox.keep hb_8
  have HW8 := Lib.hid hw_8
  clear hw_8
  go_upto_region 11 with (fail)
  rw [HW8.out]
  clear HW8
  refine wp_region_lit ?_
  refine wpList_load_row rfl 46 _ rfl (w_5.heap.size) rfl 46 _ (0, 0) _ X_8 Tryz.underlying46 rfl (by kernel_rfl) ?_
  have cY_8 := rowCells Y_8
  go_wp2_with (fail)
  refine (himpl o2 ox).mono ?_
  rintro e w_9 ⟨rfl, hb_9⟩
  have q0_9 := q0_8.trans (hb_9.mono q0_8.size)
  have A_9 := keepHeap hb_9 A_8
  have B_9 := keepHeap hb_9 B_8
  have X_9 := keepHeap hb_9 X_8
  have Y_9 := keepHeap hb_9 Y_8
  have o2 := o2.keep hb_9
  have ox := ox.keep hb_9
  clear cY_8
  go_upto_region 14 with (fail)
  have bs_0 : Below w_9.heap.size w_9 w_9.drew := belowDrew w_9 1
  refine wp_region_held_drew (S := fun w' => w'.heap[w.heap.size]? = some (.cells #[Value.int .i64 p.me, .int .i64 p.delay, .int .i64 p.ahead, .int .i64 p.seed, (.slice a0 p.tracks.length c0), (.slice a1 p.base.rows.length c1), .int .i64 p.base.tick, .int .i64 p.base.seed, (.slice a2 p.base.scores.length c2), (.slice a3 p.base.bods.length c3), (.slice a4 p.now.rows.length c4), .int .i64 p.now.tick, .int .i64 p.now.seed, (.slice a5 p.now.scores.length c5), (.slice a6 p.now.bods.length c6), (.slice a7 p.used.length c7), (.slice a8 p.saves.length c8), (.slice a9 p.sums.length c9), .int .i64 p.fault.tick, .int .i64 p.fault.player, .int .i64 p.fault.add, .int .i64 p.rolls, .int .i64 p.again] 35 (0, 0)) ∧ w'.heap[w_5.heap.size]? = some (.cells #[Value.int .i64 p.me, .int .i64 p.delay, .int .i64 p.ahead, .int .i64 p.seed, (.slice a02 p.tracks.length c02), (.slice a12 p.base.rows.length c12), .int .i64 p.base.tick, .int .i64 p.base.seed, (.slice a22 p.base.scores.length c22), (.slice a32 p.base.bods.length c32), (.slice a42 p.now.rows.length c42), .int .i64 p.now.tick, .int .i64 p.now.seed, (.slice a52 p.now.scores.length c52), (.slice a62 p.now.bods.length c62), (.slice a72 p.used.length c72), (.slice a82 p.saves.length c82), (.slice a92 p.sums.length c92), .int .i64 p.fault.tick, .int .i64 p.fault.player, .int .i64 p.fault.add, .int .i64 p.rolls, .int .i64 p.again] 46 (0, 0))) (by kernel_rfl) ?_ (fun hHeld => ?_)
  · exact ⟨keepHeap bs_0 A_9, keepHeap bs_0 X_9⟩
  refine take_on (i := 0) (v := .agg #[Value.int .i64 p.me, .int .i64 p.delay, .int .i64 p.ahead, .int .i64 p.seed, (.slice a02 p.tracks.length c02), (.slice a12 p.base.rows.length c12), .int .i64 p.base.tick, .int .i64 p.base.seed, (.slice a22 p.base.scores.length c22), (.slice a32 p.base.bods.length c32), (.slice a42 p.now.rows.length c42), .int .i64 p.now.tick, .int .i64 p.now.seed, (.slice a52 p.now.scores.length c52), (.slice a62 p.now.bods.length c62), (.slice a72 p.used.length c72), (.slice a82 p.saves.length c82), (.slice a92 p.sums.length c92), .int .i64 p.fault.tick, .int .i64 p.fault.player, .int .i64 p.fault.add, .int .i64 p.rolls, .int .i64 p.again]) (some 35) rfl (by kernel_rfl) (by kernel_rfl) (by kernel_rfl) rfl (fun _ _ _ h => h) (by rfl) (fun W hW => exec_load_row 46 _ rfl (w_5.heap.size) rfl 46 _ (0, 0) _ hW.2 Tryz.underlying46 rfl (by kernel_rfl)) (by assumption) ?_
  (try simp only [Act.put, List.setIfInBounds_toArray, List.set_cons_zero, List.set_cons_succ])
  refine take_on (i := 1) (v := .agg #[Value.int .i64 p.me, .int .i64 p.delay, .int .i64 p.ahead, .int .i64 p.seed, (.slice a0 p.tracks.length c0), (.slice a1 p.base.rows.length c1), .int .i64 p.base.tick, .int .i64 p.base.seed, (.slice a2 p.base.scores.length c2), (.slice a3 p.base.bods.length c3), (.slice a4 p.now.rows.length c4), .int .i64 p.now.tick, .int .i64 p.now.seed, (.slice a5 p.now.scores.length c5), (.slice a6 p.now.bods.length c6), (.slice a7 p.used.length c7), (.slice a8 p.saves.length c8), (.slice a9 p.sums.length c9), .int .i64 p.fault.tick, .int .i64 p.fault.player, .int .i64 p.fault.add, .int .i64 p.rolls, .int .i64 p.again]) (some 36) rfl (by kernel_rfl) (by kernel_rfl) (by kernel_rfl) rfl (fun _ _ _ h => h) (by rfl) (fun W hW => exec_load_row 35 _ rfl (w.heap.size) rfl 35 _ (0, 0) _ hW.1 Tryz.underlying35 rfl (by kernel_rfl)) (by assumption) ?_
  (try simp only [Act.put, List.setIfInBounds_toArray, List.set_cons_zero, List.set_cons_succ])
  refine wpAnyH_ready (rs := [2]) (by kernel_rfl) (by simp) ?_
  refine AllReadyH.cons rfl (fun K hK => ?_) AllReadyH.nil
  go_simp
  refine (hto (h0.keep (q0_9.trans (bs_0.mono q0_9.size)))).mono ?_
  rintro e w_10 ⟨u0, u1, u2, u3, u4, u5, u6, u7, u8, u9, rfl, o8, hb_10⟩
  have bs_1 := bs_0.trans (hb_10.mono bs_0.size)
  unfold prC
  (try go_wp2_with (fail))
  refine hK.out _ _ ?_ (fun hHeld => ?_)
  · exact ⟨keepHeap bs_1 A_9, keepHeap bs_1 X_9⟩
  clear hK K
  (try simp only [Act.put, List.setIfInBounds_toArray, List.set_cons_zero, List.set_cons_succ])
  refine wpAnyH_ready (rs := [3]) (by kernel_rfl) (by simp) ?_
  refine AllReadyH.cons rfl (fun K hK => ?_) AllReadyH.nil
  go_simp
  refine (heq (o2.keep bs_1) o8).mono ?_
  rintro e w_11 ⟨rfl, hb_11⟩
  have bs_2 := bs_1.trans (hb_11.mono bs_1.size)
  (try go_wp2_with (fail))
  refine hK.out _ _ ?_ (fun hHeld => ?_)
  · exact ⟨keepHeap bs_2 A_9, keepHeap bs_2 X_9⟩
  clear hK K
  (try simp only [Act.put, List.setIfInBounds_toArray, List.set_cons_zero, List.set_cons_succ])
  refine take_on (i := 4) (v := ?_) (some 39) rfl (by kernel_rfl) (by kernel_rfl) (by kernel_rfl) rfl (fun _ _ _ h => h) (by rfl) ?_ (by assumption) ?_
  rotate_left
  · intro w hSw; (try dsimp only at hSw); go_simp; (try with_reducible rfl)
  (try simp only [Act.put, List.setIfInBounds_toArray, List.set_cons_zero, List.set_cons_succ])
  refine wpAnyH_done (by kernel_rfl) ?_ _
  have q0_11 := q0_9.trans (bs_2.mono q0_9.size)
  have A_11 := keepHeap bs_2 A_9
  have B_11 := keepHeap bs_2 B_9
  have X_11 := keepHeap bs_2 X_9
  have Y_11 := keepHeap bs_2 Y_9
  have ox := ox.keep bs_2
  clear bs_0 bs_1 bs_2 o8
  go_upto_region 16 with (fail)
  have bs_0 : Below w_11.heap.size w_11 w_11.drew := belowDrew w_11 1
  refine wp_region_held_drew (S := fun w' => w'.heap[w.heap.size + 1]? = some (.cells #[Value.int .i64 x.fr, .int .i64 x.tick, .int .i64 x.first, (.slice ai x.ins.length ci), (.slice aa x.acks.length ca), .int .i64 x.sumTick, .int .i64 x.sum, .int .i64 x.time, .int .i64 x.echo] 52 (0, 0)) ∧ w'.heap[w_7.heap.size]? = some (.cells #[Value.int .i64 x.fr, .int .i64 x.tick, .int .i64 x.first, (.slice ai7 x.ins.length ci7), (.slice aa7 x.acks.length ca7), .int .i64 x.sumTick, .int .i64 x.sum, .int .i64 x.time, .int .i64 x.echo] 55 (0, 0))) (by kernel_rfl) ?_ (fun hHeld => ?_)
  · exact ⟨keepHeap bs_0 B_11, keepHeap bs_0 Y_11⟩
  refine take_on (i := 0) (v := .agg #[Value.int .i64 x.fr, .int .i64 x.tick, .int .i64 x.first, (.slice ai7 x.ins.length ci7), (.slice aa7 x.acks.length ca7), .int .i64 x.sumTick, .int .i64 x.sum, .int .i64 x.time, .int .i64 x.echo]) (some 40) rfl (by kernel_rfl) (by kernel_rfl) (by kernel_rfl) rfl (fun _ _ _ h => h) (by rfl) (fun W hW => exec_load_row 55 _ rfl (w_7.heap.size) rfl 55 _ (0, 0) _ hW.2 Tryz.underlying55 rfl (by kernel_rfl)) (by assumption) ?_
  (try simp only [Act.put, List.setIfInBounds_toArray, List.set_cons_zero, List.set_cons_succ])
  refine take_on (i := 1) (v := .agg #[Value.int .i64 x.fr, .int .i64 x.tick, .int .i64 x.first, (.slice ai x.ins.length ci), (.slice aa x.acks.length ca), .int .i64 x.sumTick, .int .i64 x.sum, .int .i64 x.time, .int .i64 x.echo]) (some 41) rfl (by kernel_rfl) (by kernel_rfl) (by kernel_rfl) rfl (fun _ _ _ h => h) (by rfl) (fun W hW => exec_load_row 52 _ rfl (w.heap.size + 1) rfl 52 _ (0, 0) _ hW.1 Tryz.underlying52 rfl (by kernel_rfl)) (by assumption) ?_
  (try simp only [Act.put, List.setIfInBounds_toArray, List.set_cons_zero, List.set_cons_succ])
  refine wpAnyH_ready (rs := [2]) (by kernel_rfl) (by simp) ?_
  refine AllReadyH.cons rfl (fun K hK => ?_) AllReadyH.nil
  go_simp
  refine (hxto (g0.keep (q0_11.trans (bs_0.mono q0_11.size)))).mono ?_
  rintro e w_12 ⟨v2, v3, rfl, oi2, -, oa2, -, hb_12⟩
  have bs_1 := bs_0.trans (hb_12.mono bs_0.size)
  have oy : RdP w_12 x v2 v3 := ⟨oi2.rd, oa2.rd⟩
  unfold pkC
  (try go_wp2_with (fail))
  refine hK.out _ _ ?_ (fun hHeld => ?_)
  · exact ⟨keepHeap bs_1 B_11, keepHeap bs_1 Y_11⟩
  clear hK K
  (try simp only [Act.put, List.setIfInBounds_toArray, List.set_cons_zero, List.set_cons_succ])
  refine wpAnyH_ready (rs := [3]) (by kernel_rfl) (by simp) ?_
  refine AllReadyH.cons rfl (fun K hK => ?_) AllReadyH.nil
  go_simp
  refine (hxeq (ox.keep bs_1) oy).mono ?_
  rintro e w_13 ⟨rfl, hb_13⟩
  have bs_2 := bs_1.trans (hb_13.mono bs_1.size)
  (try go_wp2_with (fail))
  refine hK.out _ _ ?_ (fun hHeld => ?_)
  · exact ⟨keepHeap bs_2 B_11, keepHeap bs_2 Y_11⟩
  clear hK K
  (try simp only [Act.put, List.setIfInBounds_toArray, List.set_cons_zero, List.set_cons_succ])
  refine take_on (i := 4) (v := ?_) (some 44) rfl (by kernel_rfl) (by kernel_rfl) (by kernel_rfl) rfl (fun _ _ _ h => h) (by rfl) ?_ (by assumption) ?_
  rotate_left
  · intro w hSw; (try dsimp only at hSw); go_simp; (try with_reducible rfl)
  (try simp only [Act.put, List.setIfInBounds_toArray, List.set_cons_zero, List.set_cons_succ])
  refine wpAnyH_done (by kernel_rfl) ?_ _
  have hend := q0_11.trans (bs_2.mono q0_11.size)
  go_wp2_with (fail)
  go_ret
  exact ⟨rfl, hend⟩
end Go.Proofs.YtiidocjpeepheaaGreatDoor
