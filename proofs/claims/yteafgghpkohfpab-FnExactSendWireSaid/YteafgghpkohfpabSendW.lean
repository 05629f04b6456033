/-
  SendWire of the program. Lists of at most 2^20.
-/
import Derived.Test.YteafgghpkohfpabSendL
namespace Go.Proofs.Yteafgghpkohfpab
open Go.RowKit
set_option linter.all false
def iterL (x : Wi) (d : List UInt8) : Nat → Wi
  | 0 => x
  | k + 1 => launchX (iterL x d k) d
theorem iterL_sound {x : Wi} (h : x.sound) (d : List UInt8) : ∀ k, (iterL x d k).sound
  | 0 => h
  | k + 1 => launchX_sound (iterL_sound h d k) d
theorem send_no1 {x : Wi} {d : List UInt8} (h : wireB x = false) : sendX x d = x := by unfold sendX sendOk; rw [h]; rfl
theorem send_no2 {x : Wi} {d : List UInt8} (h : inR (d.length : Int) 1 4096 = false) : sendX x d = x := by unfold sendX sendOk; rw [h]; simp
theorem send_lost {x : Wi} {d : List UInt8} (h : sendOk x d = true) (h2 : (chanceR x.seed x.loss).2 = true) : sendX x d = loseX (s1X x) := by unfold sendX; rw [if_pos h, if_pos h2]
theorem send_two {x : Wi} {d : List UInt8} (h : sendOk x d = true) (h2 : (chanceR x.seed x.loss).2 = false) (h3 : (chanceR (chanceR x.seed x.loss).1 x.copies).2 = true) : sendX x d = iterL (s2X x) d 2 := by unfold sendX; rw [if_pos h, if_neg (by rw [h2]; simp), if_pos h3]; rfl
theorem send_one {x : Wi} {d : List UInt8} (h : sendOk x d = true) (h2 : (chanceR x.seed x.loss).2 = false) (h3 : (chanceR (chanceR x.seed x.loss).1 x.copies).2 = false) : sendX x d = iterL (s2X x) d 1 := by unfold sendX; rw [if_pos h, if_neg (by rw [h2]; simp), if_neg (by rw [h3]; simp)]; rfl
set_option maxRecDepth 100000 in
set_option maxHeartbeats 16000000 in
theorem send_impl {w : World} {x : Wi} {vf : Value} (h : RdFl w vf x.fls) (hs : x.sane) (hn : x.fls.length ≤ 1048576) (d : List UInt8) (hd : d.length ≤ 1048576) :
    Calls Try.prog 27 #[.agg (wiC x vf), .string ⟨d.toArray⟩] w (RetWi w (sendX x d)) := by
  have h0 := h
  obtain ⟨al, cl, rfl, -⟩ := id h
  have P1 := fun {W : World} {v : Value} (h : RdFl W v x.fls) => copyWire_impl h hn
  have P2 := fun {W : World} {v : Value} (h : RdFl W v x.fls) => wireOk_impl h hs
  unfold RetWiG at P1
  unfold wiC at P1 P2 ⊢
  obtain ⟨W0, hW, hA, hR, hB0, hS0⟩ := rows2 w #[.int .i64 x.seed, .int .i64 x.delay, .int .i64 x.jitter, .int .i64 x.loss, .int .i64 x.copies, .int .i64 x.damage, .int .i64 x.now, .slice al x.fls.length cl, .int .i64 x.sent, .int .i64 x.lost] #[.int .i64 0, .int .i64 0, .int .i64 0, .int .i64 0, .int .i64 0, .int .i64 0, .int .i64 0, .slice none 0 0, .int .i64 0, .int .i64 0] 52 52
  have cA := rowCells hA
  go_enter Try.func27, Try.ntmps27
  go_wp2_with (fail)
  try rw [hW]
  clear hW
  refine (P1 (h0.keep hB0)).mono ?_
  rintro e w1 ⟨v1, rfl, ho1, hb1⟩
  have hb01 := hB0.trans (hb1.mono (by omega))
  obtain ⟨a1, c1, rfl, -⟩ := id ho1.own
  have hs1 := hb1.size
  obtain ⟨W2, hW2, hX2, hb2⟩ : ∃ W, w1.alloc (.cells #[.int .i64 x.seed, .int .i64 x.delay, .int .i64 x.jitter, .int .i64 x.loss, .int .i64 x.copies, .int .i64 x.damage, .int .i64 x.now, .slice a1 x.fls.length c1, .int .i64 x.sent, .int .i64 x.lost] 52) = W ∧ W.heap[w1.heap.size]? = some (.cells (wiC x (.slice a1 x.fls.length c1)) 52 (0, 0)) ∧ Below w1.heap.size w1 W := ⟨_, rfl, heap_alloc_new _ _, below1 _ _⟩
  obtain ⟨p, hp⟩ : ∃ p, p = w1.heap.size := ⟨_, rfl⟩
  rw [← hp] at hX2
  have box2 : BoxW W2 W0.heap.size p x (.slice a1 x.fls.length c1) := ⟨hX2, ho1.keep hb2 (Nat.le_refl _), by omega⟩
  have hB2 := hb1.trans (hb2.mono hs1)
  have hA2 := keepHeap hB2 hA
  have hb02 := hB0.trans (hB2.mono hB0.size)
  have cA2 := rowCells hA2
  have r2 := h0.keep hb02
  clear cA ho1 hb01 hX2
  go_wp2_with (fail)
  try rw [hW2]
  rw [← hp]
  clear hW2
  refine (P2 r2).mono ?_
  rintro e w3 ⟨rfl, hb3⟩
  have box3 := box2.keep hb3
  have hB3 := hB2.trans (hb3.mono hB2.size)
  have hb03 := hB0.trans (hB3.mono hB0.size)
  clear cA2 hA2 hb02 r2 box2 hb2 hb1 hb3 hB2 hp hs1
  cases q : wireB x with
  | false =>
    have HQ : Hid (sendX x d = x) := Lib.hid (send_no1 q)
    clear q
    have hAe := box3.1
    have hGe := box3.2.1
    have hcap := hGe.capd
    unfold wiC at hAe
    have cAe := rowCells hAe
    have hRe : (w3).heap[w.heap.size + 1]? = some (.cells #[.int .i64 0, .int .i64 0, .int .i64 0, .int .i64 0, .int .i64 0, .int .i64 0, .int .i64 0, .slice none 0 0, .int .i64 0, .int .i64 0] 52 (0, 0)) := (hB3.block _ (by omega)).trans hR
    have cRe := rowCells hRe
    have fRe := fun j => frozenHeap hRe j
    go_wp2_with (fail)
    have hP := putWi_heap hRe rfl (x) (.slice a1 (x).fls.length c1)
    have hbP := putWi_below hb03 (c := w.heap.size + 1) (by omega) (x) (.slice a1 (x).fls.length c1)
    have hoP := hGe.put (c := w.heap.size + 1) (by omega) (x) (.slice a1 (x).fls.length c1)
    unfold putWi at hP hbP hoP
    refine bodyPost_ret (results_cell_row rfl _ _ (w.heap.size + 1) 52 (wiC (x) (.slice a1 (x).fls.length c1)) (0, 0) ?qd1 ?qp1 ?qg1 ?qu1 ?qe1 ?qi1) rfl ?_
    case qp1 => rfl
    case qg1 => exact hP
    case qu1 => exact Try.underlying52
    case qe1 => rfl
    case qi1 => kernel_rfl
    refine ⟨.slice a1 (x).fls.length c1, by rw [HQ.out], ?_, hcap, hbP⟩
    rw [HQ.out]
    exact hoP.own.up (by omega)
  | true =>
  have Q := Lib.hid q
  have hsd := Wi.sound_of q
  have hst := (wireB_facts q).2.2.2.2.2.2.2.2.2.1
  clear q
  go_wp2_with (fail)
  refine (sendable_any _ _ (by omega)).mono ?_
  rintro e w4 ⟨rfl, rfl⟩
  cases q2 : inR (d.length : Int) 1 4096 with
  | false =>
    have HQ : Hid (sendX x d = x) := Lib.hid (send_no2 q2)
    clear q2
    have hAe := box3.1
    have hGe := box3.2.1
    have hcap := hGe.capd
    unfold wiC at hAe
    have cAe := rowCells hAe
    have hRe : (w3).heap[w.heap.size + 1]? = some (.cells #[.int .i64 0, .int .i64 0, .int .i64 0, .int .i64 0, .int .i64 0, .int .i64 0, .int .i64 0, .slice none 0 0, .int .i64 0, .int .i64 0] 52 (0, 0)) := (hB3.block _ (by omega)).trans hR
    have cRe := rowCells hRe
    have fRe := fun j => frozenHeap hRe j
    go_wp2_with (fail)
    have hP := putWi_heap hRe rfl (x) (.slice a1 (x).fls.length c1)
    have hbP := putWi_below hb03 (c := w.heap.size + 1) (by omega) (x) (.slice a1 (x).fls.length c1)
    have hoP := hGe.put (c := w.heap.size + 1) (by omega) (x) (.slice a1 (x).fls.length c1)
    unfold putWi at hP hbP hoP
    refine bodyPost_ret (results_cell_row rfl _ _ (w.heap.size + 1) 52 (wiC (x) (.slice a1 (x).fls.length c1)) (0, 0) ?qd1 ?qp1 ?qg1 ?qu1 ?qe1 ?qi1) rfl ?_
    case qp1 => rfl
    case qg1 => exact hP
    case qu1 => exact Try.underlying52
    case qe1 => rfl
    case qi1 => kernel_rfl
    refine ⟨.slice a1 (x).fls.length c1, by rw [HQ.out], ?_, hcap, hbP⟩
    rw [HQ.out]
    exact hoP.own.up (by omega)
  | true =>
  have hd4 := (inR_iff _ _ _).1 q2
  have HK : Hid (sendOk x d = true) := Lib.hid (by unfold sendOk; rw [Q.out, q2]; rfl)
  clear q2
  by_cases hm : x.sent < 1000000
  · have e6 : min (x.sent + 1) 1000000 = x.sent + 1 := Int.min_eq_left (by omega)
    have box4 := box3.set (y := { x with sent := (x.sent + 1) }) 8 (.int .i64 (x.sent + 1)) rfl rfl
    have hB4 := hB3.setCell (p := ⟨p, 8, none⟩) box3.2.2 (.int .i64 (x.sent + 1))
    have hA3 := box3.1
    unfold wiC at hA3
    have cA3 := rowCells hA3
    have fA3 := fun j => frozenHeap hA3 j
    clear box3 hb03
    go_upto_region 5 with (fail)
    generalize w3.setCell ⟨p, 8, none⟩ (.int .i64 (x.sent + 1)) = W4 at *
    clear hA3 cA3 fA3 hB3
    have HSX : Hid (sentX x = { x with sent := (x.sent + 1) }) := Lib.hid (by unfold sentX; rw [e6])
    have hA4 := box4.1
    unfold wiC at hA4
    dsimp only at hA4
    have cA4 := rowCells hA4
    have hH : Calls Try.prog 65 #[.pointer (some ⟨p, 0, none⟩), .int .i64 x.loss] W4 (RetBox W4 W0.heap.size p (s1X x) (.bool (chanceR x.seed x.loss).2)) := by
      unfold s1X; rw [HSX.out]; exact happens_any box4 x.loss
    clear box4
    cases ql : (chanceR x.seed x.loss).2 with
    | true =>
      rw [ql] at hH
      have HQ : Hid (sendX x d = loseX (s1X x)) := Lib.hid (send_lost HK.out ql)
      clear ql
      go_wp2_with (fail)
      refine hH.mono ?_
      rintro e W5 ⟨v5, rfl, box5, hb5⟩
      have hB5 := hB4.trans hb5
      have hLo := lose_any box5 hsd.2.2.2.1
      clear cA4 hA4
      go_wp2_with (fail)
      refine hLo.mono ?_
      rintro e W6 ⟨v6, r6, rfl, box6, hb6⟩
      have hB6 := hB5.trans hb6
      have hb06 := hB0.trans (hB6.mono hB0.size)
      generalize loseX (s1X x) = y at *
      have hAe := box6.1
      have hGe := box6.2.1
      have hcap := hGe.capd
      obtain ⟨ae, ce, rfl, -⟩ := id hGe.own
      unfold wiC at hAe
      have cAe := rowCells hAe
      have hRe : (W6).heap[w.heap.size + 1]? = some (.cells #[.int .i64 0, .int .i64 0, .int .i64 0, .int .i64 0, .int .i64 0, .int .i64 0, .int .i64 0, .slice none 0 0, .int .i64 0, .int .i64 0] 52 (0, 0)) := (hB6.block _ (by omega)).trans hR
      have cRe := rowCells hRe
      have fRe := fun j => frozenHeap hRe j
      go_wp2_with (fail)
      have hP := putWi_heap hRe rfl (y) (.slice ae (y).fls.length ce)
      have hbP := putWi_below hb06 (c := w.heap.size + 1) (by omega) (y) (.slice ae (y).fls.length ce)
      have hoP := hGe.put (c := w.heap.size + 1) (by omega) (y) (.slice ae (y).fls.length ce)
      unfold putWi at hP hbP hoP
      refine bodyPost_ret (results_cell_row rfl _ _ (w.heap.size + 1) 52 (wiC (y) (.slice ae (y).fls.length ce)) (0, 0) ?qd2 ?qp2 ?qg2 ?qu2 ?qe2 ?qi2) rfl ?_
      case qp2 => rfl
      case qg2 => exact hP
      case qu2 => exact Try.underlying52
      case qe2 => rfl
      case qi2 => kernel_rfl
      refine ⟨.slice ae (y).fls.length ce, by rw [HQ.out], ?_, hcap, hbP⟩
      rw [HQ.out]
      exact hoP.own.up (by omega)
    | false =>
      rw [ql] at hH
      have HL := Lib.hid ql
      clear ql
      go_wp2_with (fail)
      refine hH.mono ?_
      rintro e W5 ⟨v5, rfl, box5, hb5⟩
      have hB5 := hB4.trans hb5
      have hA5 := box5.1
      unfold wiC s1X sentX Wi.seeded at hA5
      dsimp only at hA5
      have cA5 := rowCells hA5
      have hH2 : Calls Try.prog 65 #[.pointer (some ⟨p, 0, none⟩), .int .i64 x.copies] W5 (RetBox W5 W0.heap.size p (s2X x) (.bool (chanceR (chanceR x.seed x.loss).1 x.copies).2)) := happens_any box5 x.copies
      clear cA4 hA4 box5
      cases qc : (chanceR (chanceR x.seed x.loss).1 x.copies).2 with
      | true =>
        rw [qc] at hH2
        have HC := Lib.hid qc
        clear qc
        go_wp2_with (fail)
        refine hH2.mono ?_
        rintro e W7 ⟨v7, rfl, box7, hb7⟩
        have hB7 := hB5.trans hb7
        clear cA5 hA5
        have HQ : Hid (sendX x d = iterL (s2X x) d 2) := Lib.hid (send_two HK.out HL.out HC.out)
        have hs2 : (s2X x).sound := hsd
        have HSd := Lib.hid (fun k => iterL_sound hs2 d k)
        go_wp2_with (fail)
        go_loopw [32] (fun i wr => ∃ k : Nat, k ≤ 2 ∧ i = .int .i64 (k : Int) ∧ ∃ v, BoxW wr W0.heap.size p (iterL (s2X x) d k) v ∧ Below W0.heap.size W0 wr) (fun i _ => 2 - (intOf i).toNat)
        case atStart => exact ⟨0, by omega, rfl, _, box7, hB7⟩
        case round =>
          obtain ⟨k, hk, rfl, v, box, hbl⟩ := hrel
          have hblB := hbl.size
          by_cases hkn : k < 2
          · have hL := launch_any box hblB (HSd.out k) d (by omega)
            have zk : decide ((k : Int) < 2) = true := by simp; omega
            have hkc : (k : Int) < 2 := by omega
            go_wp2_with (fail)
            refine hL.mono ?_
            rintro e w9 ⟨v9, r9, rfl, box9, hb9⟩
            have hbl9 := hbl.trans hb9
            go_wp2_with (fail)
            go_roundw
            case rel => exact ⟨k + 1, by omega, by go_num, v9, box9, hbl9⟩
            case measure => simp [intOf]; omega
          · have zk : decide ((k : Int) < 2) = false := by simp; omega
            have zk2 : decide (k < 2) = false := by simp; omega
            have hkc : ¬ (k : Int) < 2 := by omega
            have ek : k = 2 := by omega
            rw [ek] at box
            clear ek
            have hb0e := hB0.trans (hbl.mono hB0.size)
            generalize iterL (s2X x) d 2 = y at *
            go_upto_region 15 with (fail)
            have hAe := box.1
            have hGe := box.2.1
            have hcap := hGe.capd
            obtain ⟨ae, ce, rfl, -⟩ := id hGe.own
            unfold wiC at hAe
            have cAe := rowCells hAe
            have hRe : (wr).heap[w.heap.size + 1]? = some (.cells #[.int .i64 0, .int .i64 0, .int .i64 0, .int .i64 0, .int .i64 0, .int .i64 0, .int .i64 0, .slice none 0 0, .int .i64 0, .int .i64 0] 52 (0, 0)) := (hbl.block _ (by omega)).trans hR
            have cRe := rowCells hRe
            have fRe := fun j => frozenHeap hRe j
            go_wp2_with (fail)
            have hP := putWi_heap hRe rfl (y) (.slice ae (y).fls.length ce)
            have hbP := putWi_below hb0e (c := w.heap.size + 1) (by omega) (y) (.slice ae (y).fls.length ce)
            have hoP := hGe.put (c := w.heap.size + 1) (by omega) (y) (.slice ae (y).fls.length ce)
            unfold putWi at hP hbP hoP
            refine bodyPost_ret (results_cell_row rfl _ _ (w.heap.size + 1) 52 (wiC (y) (.slice ae (y).fls.length ce)) (0, 0) ?qd3 ?qp3 ?qg3 ?qu3 ?qe3 ?qi3) rfl ?_
            case qp3 => rfl
            case qg3 => exact hP
            case qu3 => exact Try.underlying52
            case qe3 => rfl
            case qi3 => kernel_rfl
            refine ⟨.slice ae (y).fls.length ce, by rw [HQ.out], ?_, hcap, hbP⟩
            rw [HQ.out]
            exact hoP.own.up (by omega)
      | false =>
        rw [qc] at hH2
        have HC := Lib.hid qc
        clear qc
        go_wp2_with (fail)
        refine hH2.mono ?_
        rintro e W7 ⟨v7, rfl, box7, hb7⟩
        have hB7 := hB5.trans hb7
        clear cA5 hA5
        have HQ : Hid (sendX x d = iterL (s2X x) d 1) := Lib.hid (send_one HK.out HL.out HC.out)
        have hs2 : (s2X x).sound := hsd
        have HSd := Lib.hid (fun k => iterL_sound hs2 d k)
        go_wp2_with (fail)
        go_loopw [32] (fun i wr => ∃ k : Nat, k ≤ 1 ∧ i = .int .i64 (k : Int) ∧ ∃ v, BoxW wr W0.heap.size p (iterL (s2X x) d k) v ∧ Below W0.heap.size W0 wr) (fun i _ => 1 - (intOf i).toNat)
        case atStart => exact ⟨0, by omega, rfl, _, box7, hB7⟩
        case round =>
          obtain ⟨k, hk, rfl, v, box, hbl⟩ := hrel
          have hblB := hbl.size
          by_cases hkn : k < 1
          · have hL := launch_any box hblB (HSd.out k) d (by omega)
            have zk : decide ((k : Int) < 1) = true := by simp; omega
            have hkc : (k : Int) < 1 := by omega
            go_wp2_with (fail)
            refine hL.mono ?_
            rintro e w9 ⟨v9, r9, rfl, box9, hb9⟩
            have hbl9 := hbl.trans hb9
            go_wp2_with (fail)
            go_roundw
            case rel => exact ⟨k + 1, by omega, by go_num, v9, box9, hbl9⟩
            case measure => simp [intOf]; omega
          · have zk : decide ((k : Int) < 1) = false := by simp; omega
            have zk2 : decide (k < 1) = false := by simp; omega
            have hkc : ¬ (k : Int) < 1 := by omega
            have ek : k = 1 := by omega
            rw [ek] at box
            clear ek
            have hb0e := hB0.trans (hbl.mono hB0.size)
            generalize iterL (s2X x) d 1 = y at *
            go_upto_region 15 with (fail)
            have hAe := box.1
            have hGe := box.2.1
            have hcap := hGe.capd
            obtain ⟨ae, ce, rfl, -⟩ := id hGe.own
            unfold wiC at hAe
            have cAe := rowCells hAe
            have hRe : (wr).heap[w.heap.size + 1]? = some (.cells #[.int .i64 0, .int .i64 0, .int .i64 0, .int .i64 0, .int .i64 0, .int .i64 0, .int .i64 0, .slice none 0 0, .int .i64 0, .int .i64 0] 52 (0, 0)) := (hbl.block _ (by omega)).trans hR
            have cRe := rowCells hRe
            have fRe := fun j => frozenHeap hRe j
            go_wp2_with (fail)
            have hP := putWi_heap hRe rfl (y) (.slice ae (y).fls.length ce)
            have hbP := putWi_below hb0e (c := w.heap.size + 1) (by omega) (y) (.slice ae (y).fls.length ce)
            have hoP := hGe.put (c := w.heap.size + 1) (by omega) (y) (.slice ae (y).fls.length ce)
            unfold putWi at hP hbP hoP
            refine bodyPost_ret (results_cell_row rfl _ _ (w.heap.size + 1) 52 (wiC (y) (.slice ae (y).fls.length ce)) (0, 0) ?qd4 ?qp4 ?qg4 ?qu4 ?qe4 ?qi4) rfl ?_
            case qp4 => rfl
            case qg4 => exact hP
            case qu4 => exact Try.underlying52
            case qe4 => rfl
            case qi4 => kernel_rfl
            refine ⟨.slice ae (y).fls.length ce, by rw [HQ.out], ?_, hcap, hbP⟩
            rw [HQ.out]
            exact hoP.own.up (by omega)
  · have e6 : min (x.sent + 1) 1000000 = 1000000 := Int.min_eq_right (by omega)
    have box4 := box3.set (y := { x with sent := 1000000 }) 8 (.int .i64 1000000) rfl rfl
    have hB4 := hB3.setCell (p := ⟨p, 8, none⟩) box3.2.2 (.int .i64 1000000)
    have hA3 := box3.1
    unfold wiC at hA3
    have cA3 := rowCells hA3
    have fA3 := fun j => frozenHeap hA3 j
    clear box3 hb03
    go_upto_region 5 with (fail)
    generalize w3.setCell ⟨p, 8, none⟩ (.int .i64 1000000) = W4 at *
    clear hA3 cA3 fA3 hB3
    have HSX : Hid (sentX x = { x with sent := 1000000 }) := Lib.hid (by unfold sentX; rw [e6])
    have hA4 := box4.1
    unfold wiC at hA4
    dsimp only at hA4
    have cA4 := rowCells hA4
    have hH : Calls Try.prog 65 #[.pointer (some ⟨p, 0, none⟩), .int .i64 x.loss] W4 (RetBox W4 W0.heap.size p (s1X x) (.bool (chanceR x.seed x.loss).2)) := by
      unfold s1X; rw [HSX.out]; exact happens_any box4 x.loss
    clear box4
    cases ql : (chanceR x.seed x.loss).2 with
    | true =>
      rw [ql] at hH
      have HQ : Hid (sendX x d = loseX (s1X x)) := Lib.hid (send_lost HK.out ql)
      clear ql
      go_wp2_with (fail)
      refine hH.mono ?_
      rintro e W5 ⟨v5, rfl, box5, hb5⟩
      have hB5 := hB4.trans hb5
      have hLo := lose_any box5 hsd.2.2.2.1
      clear cA4 hA4
      go_wp2_with (fail)
      refine hLo.mono ?_
      rintro e W6 ⟨v6, r6, rfl, box6, hb6⟩
      have hB6 := hB5.trans hb6
      have hb06 := hB0.trans (hB6.mono hB0.size)
      generalize loseX (s1X x) = y at *
      have hAe := box6.1
      have hGe := box6.2.1
      have hcap := hGe.capd
      obtain ⟨ae, ce, rfl, -⟩ := id hGe.own
      unfold wiC at hAe
      have cAe := rowCells hAe
      have hRe : (W6).heap[w.heap.size + 1]? = some (.cells #[.int .i64 0, .int .i64 0, .int .i64 0, .int .i64 0, .int .i64 0, .int .i64 0, .int .i64 0, .slice none 0 0, .int .i64 0, .int .i64 0] 52 (0, 0)) := (hB6.block _ (by omega)).trans hR
      have cRe := rowCells hRe
      have fRe := fun j => frozenHeap hRe j
      go_wp2_with (fail)
      have hP := putWi_heap hRe rfl (y) (.slice ae (y).fls.length ce)
      have hbP := putWi_below hb06 (c := w.heap.size + 1) (by omega) (y) (.slice ae (y).fls.length ce)
      have hoP := hGe.put (c := w.heap.size + 1) (by omega) (y) (.slice ae (y).fls.length ce)
      unfold putWi at hP hbP hoP
      refine bodyPost_ret (results_cell_row rfl _ _ (w.heap.size + 1) 52 (wiC (y) (.slice ae (y).fls.length ce)) (0, 0) ?qd2 ?qp2 ?qg2 ?qu2 ?qe2 ?qi2) rfl ?_
      case qp2 => rfl
      case qg2 => exact hP
      case qu2 => exact Try.underlying52
      case qe2 => rfl
      case qi2 => kernel_rfl
      refine ⟨.slice ae (y).fls.length ce, by rw [HQ.out], ?_, hcap, hbP⟩
      rw [HQ.out]
      exact hoP.own.up (by omega)
    | false =>
      rw [ql] at hH
      have HL := Lib.hid ql
      clear ql
      go_wp2_with (fail)
      refine hH.mono ?_
      rintro e W5 ⟨v5, rfl, box5, hb5⟩
      have hB5 := hB4.trans hb5
      have hA5 := box5.1
      unfold wiC s1X sentX Wi.seeded at hA5
      dsimp only at hA5
      have cA5 := rowCells hA5
      have hH2 : Calls Try.prog 65 #[.pointer (some ⟨p, 0, none⟩), .int .i64 x.copies] W5 (RetBox W5 W0.heap.size p (s2X x) (.bool (chanceR (chanceR x.seed x.loss).1 x.copies).2)) := happens_any box5 x.copies
      clear cA4 hA4 box5
      cases qc : (chanceR (chanceR x.seed x.loss).1 x.copies).2 with
      | true =>
        rw [qc] at hH2
        have HC := Lib.hid qc
        clear qc
        go_wp2_with (fail)
        refine hH2.mono ?_
        rintro e W7 ⟨v7, rfl, box7, hb7⟩
        have hB7 := hB5.trans hb7
        clear cA5 hA5
        have HQ : Hid (sendX x d = iterL (s2X x) d 2) := Lib.hid (send_two HK.out HL.out HC.out)
        have hs2 : (s2X x).sound := hsd
        have HSd := Lib.hid (fun k => iterL_sound hs2 d k)
        go_wp2_with (fail)
        go_loopw [32] (fun i wr => ∃ k : Nat, k ≤ 2 ∧ i = .int .i64 (k : Int) ∧ ∃ v, BoxW wr W0.heap.size p (iterL (s2X x) d k) v ∧ Below W0.heap.size W0 wr) (fun i _ => 2 - (intOf i).toNat)
        case atStart => exact ⟨0, by omega, rfl, _, box7, hB7⟩
        case round =>
          obtain ⟨k, hk, rfl, v, box, hbl⟩ := hrel
          have hblB := hbl.size
          by_cases hkn : k < 2
          · have hL := launch_any box hblB (HSd.out k) d (by omega)
            have zk : decide ((k : Int) < 2) = true := by simp; omega
            have hkc : (k : Int) < 2 := by omega
            go_wp2_with (fail)
            refine hL.mono ?_
            rintro e w9 ⟨v9, r9, rfl, box9, hb9⟩
            have hbl9 := hbl.trans hb9
            go_wp2_with (fail)
            go_roundw
            case rel => exact ⟨k + 1, by omega, by go_num, v9, box9, hbl9⟩
            case measure => simp [intOf]; omega
          · have zk : decide ((k : Int) < 2) = false := by simp; omega
            have zk2 : decide (k < 2) = false := by simp; omega
            have hkc : ¬ (k : Int) < 2 := by omega
            have ek : k = 2 := by omega
            rw [ek] at box
            clear ek
            have hb0e := hB0.trans (hbl.mono hB0.size)
            generalize iterL (s2X x) d 2 = y at *
            go_upto_region 15 with (fail)
            have hAe := box.1
            have hGe := box.2.1
            have hcap := hGe.capd
            obtain ⟨ae, ce, rfl, -⟩ := id hGe.own
            unfold wiC at hAe
            have cAe := rowCells hAe
            have hRe : (wr).heap[w.heap.size + 1]? = some (.cells #[.int .i64 0, .int .i64 0, .int .i64 0, .int .i64 0, .int .i64 0, .int .i64 0, .int .i64 0, .slice none 0 0, .int .i64 0, .int .i64 0] 52 (0, 0)) := (hbl.block _ (by omega)).trans hR
            have cRe := rowCells hRe
            have fRe := fun j => frozenHeap hRe j
            go_wp2_with (fail)
            have hP := putWi_heap hRe rfl (y) (.slice ae (y).fls.length ce)
            have hbP := putWi_below hb0e (c := w.heap.size + 1) (by omega) (y) (.slice ae (y).fls.length ce)
            have hoP := hGe.put (c := w.heap.size + 1) (by omega) (y) (.slice ae (y).fls.length ce)
            unfold putWi at hP hbP hoP
            refine bodyPost_ret (results_cell_row rfl _ _ (w.heap.size + 1) 52 (wiC (y) (.slice ae (y).fls.length ce)) (0, 0) ?qd3 ?qp3 ?qg3 ?qu3 ?qe3 ?qi3) rfl ?_
            case qp3 => rfl
            case qg3 => exact hP
            case qu3 => exact Try.underlying52
            case qe3 => rfl
            case qi3 => kernel_rfl
            refine ⟨.slice ae (y).fls.length ce, by rw [HQ.out], ?_, hcap, hbP⟩
            rw [HQ.out]
            exact hoP.own.up (by omega)
      | false =>
        rw [qc] at hH2
        have HC := Lib.hid qc
        clear qc
        go_wp2_with (fail)
        refine hH2.mono ?_
        rintro e W7 ⟨v7, rfl, box7, hb7⟩
        have hB7 := hB5.trans hb7
        clear cA5 hA5
        have HQ : Hid (sendX x d = iterL (s2X x) d 1) := Lib.hid (send_one HK.out HL.out HC.out)
        have hs2 : (s2X x).sound := hsd
        have HSd := Lib.hid (fun k => iterL_sound hs2 d k)
        go_wp2_with (fail)
        go_loopw [32] (fun i wr => ∃ k : Nat, k ≤ 1 ∧ i = .int .i64 (k : Int) ∧ ∃ v, BoxW wr W0.heap.size p (iterL (s2X x) d k) v ∧ Below W0.heap.size W0 wr) (fun i _ => 1 - (intOf i).toNat)
        case atStart => exact ⟨0, by omega, rfl, _, box7, hB7⟩
        case round =>
          obtain ⟨k, hk, rfl, v, box, hbl⟩ := hrel
          have hblB := hbl.size
          by_cases hkn : k < 1
          · have hL := launch_any box hblB (HSd.out k) d (by omega)
            have zk : decide ((k : Int) < 1) = true := by simp; omega
            have hkc : (k : Int) < 1 := by omega
            go_wp2_with (fail)
            refine hL.mono ?_
            rintro e w9 ⟨v9, r9, rfl, box9, hb9⟩
            have hbl9 := hbl.trans hb9
            go_wp2_with (fail)
            go_roundw
            case rel => exact ⟨k + 1, by omega, by go_num, v9, box9, hbl9⟩
            case measure => simp [intOf]; omega
          · have zk : decide ((k : Int) < 1) = false := by simp; omega
            have zk2 : decide (k < 1) = false := by simp; omega
            have hkc : ¬ (k : Int) < 1 := by omega
            have ek : k = 1 := by omega
            rw [ek] at box
            clear ek
            have hb0e := hB0.trans (hbl.mono hB0.size)
            generalize iterL (s2X x) d 1 = y at *
            go_upto_region 15 with (fail)
            have hAe := box.1
            have hGe := box.2.1
            have hcap := hGe.capd
            obtain ⟨ae, ce, rfl, -⟩ := id hGe.own
            unfold wiC at hAe
            have cAe := rowCells hAe
            have hRe : (wr).heap[w.heap.size + 1]? = some (.cells #[.int .i64 0, .int .i64 0, .int .i64 0, .int .i64 0, .int .i64 0, .int .i64 0, .int .i64 0, .slice none 0 0, .int .i64 0, .int .i64 0] 52 (0, 0)) := (hbl.block _ (by omega)).trans hR
            have cRe := rowCells hRe
            have fRe := fun j => frozenHeap hRe j
            go_wp2_with (fail)
            have hP := putWi_heap hRe rfl (y) (.slice ae (y).fls.length ce)
            have hbP := putWi_below hb0e (c := w.heap.size + 1) (by omega) (y) (.slice ae (y).fls.length ce)
            have hoP := hGe.put (c := w.heap.size + 1) (by omega) (y) (.slice ae (y).fls.length ce)
            unfold putWi at hP hbP hoP
            refine bodyPost_ret (results_cell_row rfl _ _ (w.heap.size + 1) 52 (wiC (y) (.slice ae (y).fls.length ce)) (0, 0) ?qd4 ?qp4 ?qg4 ?qu4 ?qe4 ?qi4) rfl ?_
            case qp4 => rfl
            case qg4 => exact hP
            case qu4 => exact Try.underlying52
            case qe4 => rfl
            case qi4 => kernel_rfl
            refine ⟨.slice ae (y).fls.length ce, by rw [HQ.out], ?_, hcap, hbP⟩
            rw [HQ.out]
            exact hoP.own.up (by omega)
end Go.Proofs.Yteafgghpkohfpab
