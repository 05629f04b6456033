/-
  HearPacket of the model. No condition but that the packet's lists can be.
-/
import Derived.Test.YteafgghpkohfpaaHear
namespace Go.Proofs.Yteafgghpkohfpaa
open Go.RowKit
set_option linter.all false
set_option maxRecDepth 100000 in
set_option maxHeartbeats 8000000 in
theorem hear_spec {w : World} (q : Pc) {p : Pk} {vi va : Value} (h : RdP w p vi va) (hs : p.sane) (now : Int) :
    Calls Try.prog 27 #[pcV q, .agg (pkC p vi va), .int .i64 now] w fun e w' => e = .returned (pcV (hearR q p now)) ∧ Below w.heap.size w w' := by
  have P1 := fun W => paceOk_spec q W
  have P2 := fun {W : World} {vi va : Value} (h : RdP W p vi va) => packetOk_spec h hs
  have h0 := h
  obtain ⟨ai, ci, rfl, -⟩ := id h.1
  obtain ⟨aa, ca, rfl, -⟩ := id h.2
  unfold pcV at P1 ⊢
  unfold pkC at P2 ⊢
  obtain ⟨W0, hW, hA, hP, hR, hB0, hS0⟩ := rows3 w #[.int .i64 q.newest, .int .i64 q.their, .int .i64 q.at0, .int .i64 q.trip, .int .i64 q.samples] #[.int .i64 p.fr, .int .i64 p.tick, .int .i64 p.first, (.slice ai p.ins.length ci), (.slice aa p.acks.length ca), .int .i64 p.sumTick, .int .i64 p.sum, .int .i64 p.time, .int .i64 p.echo] #[.int .i64 0, .int .i64 0, .int .i64 0, .int .i64 0, .int .i64 0] 31 43 31
  have cA := rowCells hA
  have cP := rowCells hP
  go_enter Try.func27, Try.ntmps27
  go_wp2_with (fail)
  try rw [hW]
  clear hW
  refine (P1 _).mono ?_
  rintro e w1 ⟨rfl, hb1⟩
  have hA1 := keepHeap hb1 hA
  have hP1 := keepHeap hb1 hP
  have hR1 := keepHeap hb1 hR
  have hb01 := hB0.trans (hb1.mono (by omega))
  have cA1 := rowCells hA1
  have cP1 := rowCells hP1
  have cR1 := rowCells hR1
  have fR1 := fun j => frozenHeap hR1 j
  have hs1 := hb1.size
  clear cA cP hA hP hR hb1
  cases q1 : paceB q with
  | false =>
    have HQ : Hid (hearR q p now = q) := Lib.hid (by unfold hearR hearOk; rw [q1]; rfl)
    clear q1
    go_wp2_with (fail)
    refine bodyPost_ret (results_cell_row rfl _ _ (w.heap.size + 1 + 1) 31 #[.int .i64 q.newest, .int .i64 q.their, .int .i64 q.at0, .int .i64 q.trip, .int .i64 q.samples] (0, 0) ?d ?hp ?hg ?hu ?hd ?hi) rfl ?_
    case hp => rfl
    case hg => exact boxPc_heap hR1 rfl ⟨q.newest, q.their, q.at0, q.trip, q.samples⟩
    case hu => exact Try.underlying31
    case hd => rfl
    case hi => kernel_rfl
    exact ⟨by rw [HQ.out], boxPc_below hb01 (by omega) ⟨q.newest, q.their, q.at0, q.trip, q.samples⟩⟩
  | true =>
  have Q1 := Lib.hid q1
  clear q1
  go_wp2_with (fail)
  refine (P2 (h0.keep hb01)).mono ?_
  rintro e w2 ⟨rfl, hb2⟩
  have hA2 := keepHeap hb2 hA1
  have hP2 := keepHeap hb2 hP1
  have hR2 := keepHeap hb2 hR1
  have hb02 := hb01.trans (hb2.mono hb01.size)
  have cA2 := rowCells hA2
  have cP2 := rowCells hP2
  have cR2 := rowCells hR2
  have fA2 := fun j => frozenHeap hA2 j
  have fR2 := fun j => frozenHeap hR2 j
  have hs2 := hb2.size
  clear cA1 cP1 cR1 fR1 hA1 hP1 hR1 hb2
  cases q2 : pktB p with
  | false =>
    have HQ : Hid (hearR q p now = q) := Lib.hid (by unfold hearR hearOk; rw [Q1.out, q2]; rfl)
    clear q2
    go_wp2_with (fail)
    refine bodyPost_ret (results_cell_row rfl _ _ (w.heap.size + 1 + 1) 31 #[.int .i64 q.newest, .int .i64 q.their, .int .i64 q.at0, .int .i64 q.trip, .int .i64 q.samples] (0, 0) ?d ?hp ?hg ?hu ?hd ?hi) rfl ?_
    case hp => rfl
    case hg => exact boxPc_heap hR2 rfl ⟨q.newest, q.their, q.at0, q.trip, q.samples⟩
    case hu => exact Try.underlying31
    case hd => rfl
    case hi => kernel_rfl
    exact ⟨by rw [HQ.out], boxPc_below hb02 (by omega) ⟨q.newest, q.their, q.at0, q.trip, q.samples⟩⟩
  | true =>
  obtain ⟨hx1, hx2, hx3⟩ := pktB_bounds q2
  have Q2 := Lib.hid q2
  clear q2
  go_wp2_with (fail)
  refine (in_spec _ _ _ _).mono ?_
  rintro e w3 ⟨rfl, rfl⟩
  cases q3 : inR now 0 1000000 with
  | false =>
    have HQ : Hid (hearR q p now = q) := Lib.hid (by unfold hearR hearOk; rw [Q1.out, Q2.out, q3]; rfl)
    clear q3
    go_wp2_with (fail)
    refine bodyPost_ret (results_cell_row rfl _ _ (w.heap.size + 1 + 1) 31 #[.int .i64 q.newest, .int .i64 q.their, .int .i64 q.at0, .int .i64 q.trip, .int .i64 q.samples] (0, 0) ?d ?hp ?hg ?hu ?hd ?hi) rfl ?_
    case hp => rfl
    case hg => exact boxPc_heap hR2 rfl ⟨q.newest, q.their, q.at0, q.trip, q.samples⟩
    case hu => exact Try.underlying31
    case hd => rfl
    case hi => kernel_rfl
    exact ⟨by rw [HQ.out], boxPc_below hb02 (by omega) ⟨q.newest, q.their, q.at0, q.trip, q.samples⟩⟩
  | true =>
  have hnow := (inR_iff _ _ _).1 q3
  have HK : Hid (hearOk q p now = true) := Lib.hid (by unfold hearOk; rw [Q1.out, Q2.out, q3]; rfl)
  have HN : Hid (paceB (newR q p now) = true) := Lib.hid (newR_range Q1.out hx1 hx2 hnow)
  obtain ⟨f1, f2, f3, f4, f5⟩ := paceB_facts Q1.out
  clear q3
  by_cases hq : q.newest < p.time + 1
  case neg =>
    have z4 : decide (q.newest < p.time + 1) = false := by simpa using hq
    have HE : Hid (newR q p now = ⟨q.newest, q.their, q.at0, q.trip, q.samples⟩) := Lib.hid (by unfold newR; rw [if_neg hq])
    by_cases he : 0 < p.echo
    case neg =>
      have z5 : decide (0 < p.echo) = false := by simpa using he
      have HQ : Hid (hearR q p now = ⟨q.newest, q.their, q.at0, q.trip, q.samples⟩) := Lib.hid (by unfold hearR; rw [if_pos HK.out, if_neg (by omega), HE.out])
      go_wp2_with (fail)
      refine bodyPost_ret (results_cell_row rfl _ _ (w.heap.size + 1 + 1) 31 #[.int .i64 q.newest, .int .i64 q.their, .int .i64 q.at0, .int .i64 q.trip, .int .i64 q.samples] (0, 0) ?d ?hp ?hg ?hu ?hd ?hi) rfl ?_
      case hp => rfl
      case hg => exact boxPc_heap hR2 rfl ⟨q.newest, q.their, q.at0, q.trip, q.samples⟩
      case hu => exact Try.underlying31
      case hd => rfl
      case hi => kernel_rfl
      exact ⟨by rw [HQ.out], boxPc_below hb02 (by omega) ⟨q.newest, q.their, q.at0, q.trip, q.samples⟩⟩
    have z5 : decide (0 < p.echo) = true := by simpa using he
    by_cases hn : p.echo - 1 ≤ now
    case neg =>
      have z6 : decide (p.echo - 1 ≤ now) = false := by simpa using hn
      have HQ : Hid (hearR q p now = ⟨q.newest, q.their, q.at0, q.trip, q.samples⟩) := Lib.hid (by unfold hearR; rw [if_pos HK.out, if_neg (by omega), HE.out])
      go_wp2_with (fail)
      refine bodyPost_ret (results_cell_row rfl _ _ (w.heap.size + 1 + 1) 31 #[.int .i64 q.newest, .int .i64 q.their, .int .i64 q.at0, .int .i64 q.trip, .int .i64 q.samples] (0, 0) ?d ?hp ?hg ?hu ?hd ?hi) rfl ?_
      case hp => rfl
      case hg => exact boxPc_heap hR2 rfl ⟨q.newest, q.their, q.at0, q.trip, q.samples⟩
      case hu => exact Try.underlying31
      case hd => rfl
      case hi => kernel_rfl
      exact ⟨by rw [HQ.out], boxPc_below hb02 (by omega) ⟨q.newest, q.their, q.at0, q.trip, q.samples⟩⟩
    have z6 : decide (p.echo - 1 ≤ now) = true := by simpa using hn
    obtain ⟨s, hs0⟩ : ∃ s, s = now - (p.echo - 1) := ⟨_, rfl⟩
    have hs1 : 0 ≤ s ∧ s ≤ 1000000 := by omega
    have HQ0 : Hid (hearR q p now = sampR ⟨q.newest, q.their, q.at0, q.trip, q.samples⟩ s) := Lib.hid (by unfold hearR; rw [if_pos HK.out, if_pos ⟨he, hn⟩, HE.out, hs0])
    clear HE HN HK
    go_upto_region 9 with (fail)
    rw [← hs0]
    clear hs0
    by_cases g0 : q.samples = 0
    case pos =>
      have y0 : (q.samples == 0) = true := by simpa using g0
      have HQ : Hid (hearR q p now = ⟨q.newest, q.their, q.at0, s, 1⟩) := Lib.hid (by rw [HQ0.out]; unfold sampR tripR smpR; simp [g0])
      have hA6 := setHPc (k := 4) (v := .int .i64 1) (setHPc (k := 3) (v := .int .i64 s) hA2)
      have hR6 := farHeap (p := ⟨w.heap.size, 4, none⟩) (farHeap (p := ⟨w.heap.size, 3, none⟩) hR2 (by simp; omega) (.int .i64 s)) (by simp; omega) (.int .i64 1)
      have hb06 := (hb02.setCell (p := ⟨w.heap.size, 3, none⟩) (by simp) (.int .i64 s)).setCell (p := ⟨w.heap.size, 4, none⟩) (by simp) (.int .i64 1)
      go_upto_region 14 with (fail)
      obtain ⟨W6, hW6⟩ : ∃ W6, W6 = (w2.setCell ⟨w.heap.size, 3, none⟩ (.int .i64 s)).setCell ⟨w.heap.size, 4, none⟩ (.int .i64 1) := ⟨_, rfl⟩
      rw [← hW6] at hA6 hR6 hb06 ⊢
      have hA6 : W6.heap[w.heap.size]? = some (.cells #[.int .i64 q.newest, .int .i64 q.their, .int .i64 q.at0, .int .i64 s, .int .i64 1] 31 (0, 0)) := hA6
      clear hW6
      have cA6 := rowCells hA6
      have cR6 := rowCells hR6
      have fR6 := fun j => frozenHeap hR6 j
      go_wp2_with (fail)
      refine bodyPost_ret (results_cell_row rfl _ _ (w.heap.size + 1 + 1) 31 #[.int .i64 q.newest, .int .i64 q.their, .int .i64 q.at0, .int .i64 s, .int .i64 1] (0, 0) ?d ?hp ?hg ?hu ?hd ?hi) rfl ?_
      case hp => rfl
      case hg => exact boxPc_heap hR6 rfl ⟨q.newest, q.their, q.at0, s, 1⟩
      case hu => exact Try.underlying31
      case hd => rfl
      case hi => kernel_rfl
      exact ⟨by rw [HQ.out], boxPc_below hb06 (by omega) ⟨q.newest, q.their, q.at0, s, 1⟩⟩
    have y0 : (q.samples == 0) = false := by simpa using g0
    obtain ⟨t, ht⟩ : ∃ t, t = (3 * q.trip + s + 2) / 4 := ⟨_, rfl⟩
    have e1 : (3 * q.trip + s + 2).tdiv 4 = t := by rw [ht]; exact Int.tdiv_eq_ediv_of_nonneg (by omega)
    have ht2 : 0 ≤ t ∧ t ≤ 1000001 := by omega
    by_cases g1 : q.samples < 1000000
    case pos =>
      have y1 : decide (q.samples < 1000000) = true := by simpa using g1
      have HQ : Hid (hearR q p now = ⟨q.newest, q.their, q.at0, t, (q.samples + 1)⟩) := Lib.hid (by rw [HQ0.out]; unfold sampR tripR smpR; simp [g0, g1, ht])
      clear ht
      have hA6 := setHPc (k := 4) (v := .int .i64 (q.samples + 1)) (setHPc (k := 3) (v := .int .i64 t) hA2)
      have hR6 := farHeap (p := ⟨w.heap.size, 4, none⟩) (farHeap (p := ⟨w.heap.size, 3, none⟩) hR2 (by simp; omega) (.int .i64 t)) (by simp; omega) (.int .i64 (q.samples + 1))
      have hb06 := (hb02.setCell (p := ⟨w.heap.size, 3, none⟩) (by simp) (.int .i64 t)).setCell (p := ⟨w.heap.size, 4, none⟩) (by simp) (.int .i64 (q.samples + 1))
      go_upto_region 14 with (fail)
      obtain ⟨W6, hW6⟩ : ∃ W6, W6 = (w2.setCell ⟨w.heap.size, 3, none⟩ (.int .i64 t)).setCell ⟨w.heap.size, 4, none⟩ (.int .i64 (q.samples + 1)) := ⟨_, rfl⟩
      rw [← hW6] at hA6 hR6 hb06 ⊢
      have hA6 : W6.heap[w.heap.size]? = some (.cells #[.int .i64 q.newest, .int .i64 q.their, .int .i64 q.at0, .int .i64 t, .int .i64 (q.samples + 1)] 31 (0, 0)) := hA6
      clear hW6
      have cA6 := rowCells hA6
      have cR6 := rowCells hR6
      have fR6 := fun j => frozenHeap hR6 j
      go_wp2_with (fail)
      refine bodyPost_ret (results_cell_row rfl _ _ (w.heap.size + 1 + 1) 31 #[.int .i64 q.newest, .int .i64 q.their, .int .i64 q.at0, .int .i64 t, .int .i64 (q.samples + 1)] (0, 0) ?d ?hp ?hg ?hu ?hd ?hi) rfl ?_
      case hp => rfl
      case hg => exact boxPc_heap hR6 rfl ⟨q.newest, q.their, q.at0, t, (q.samples + 1)⟩
      case hu => exact Try.underlying31
      case hd => rfl
      case hi => kernel_rfl
      exact ⟨by rw [HQ.out], boxPc_below hb06 (by omega) ⟨q.newest, q.their, q.at0, t, (q.samples + 1)⟩⟩
    have y1 : decide (q.samples < 1000000) = false := by simpa using g1
    have HQ : Hid (hearR q p now = ⟨q.newest, q.their, q.at0, t, q.samples⟩) := Lib.hid (by rw [HQ0.out]; unfold sampR tripR smpR; simp [g0, g1, ht])
    clear ht
    have hA6 := setHPc (k := 3) (v := .int .i64 t) hA2
    have hR6 := farHeap (p := ⟨w.heap.size, 3, none⟩) hR2 (by simp; omega) (.int .i64 t)
    have hb06 := hb02.setCell (p := ⟨w.heap.size, 3, none⟩) (by simp) (.int .i64 t)
    go_upto_region 14 with (fail)
    obtain ⟨W6, hW6⟩ : ∃ W6, W6 = w2.setCell ⟨w.heap.size, 3, none⟩ (.int .i64 t) := ⟨_, rfl⟩
    rw [← hW6] at hA6 hR6 hb06 ⊢
    have hA6 : W6.heap[w.heap.size]? = some (.cells #[.int .i64 q.newest, .int .i64 q.their, .int .i64 q.at0, .int .i64 t, .int .i64 q.samples] 31 (0, 0)) := hA6
    clear hW6
    have cA6 := rowCells hA6
    have cR6 := rowCells hR6
    have fR6 := fun j => frozenHeap hR6 j
    go_wp2_with (fail)
    refine bodyPost_ret (results_cell_row rfl _ _ (w.heap.size + 1 + 1) 31 #[.int .i64 q.newest, .int .i64 q.their, .int .i64 q.at0, .int .i64 t, .int .i64 q.samples] (0, 0) ?d ?hp ?hg ?hu ?hd ?hi) rfl ?_
    case hp => rfl
    case hg => exact boxPc_heap hR6 rfl ⟨q.newest, q.their, q.at0, t, q.samples⟩
    case hu => exact Try.underlying31
    case hd => rfl
    case hi => kernel_rfl
    exact ⟨by rw [HQ.out], boxPc_below hb06 (by omega) ⟨q.newest, q.their, q.at0, t, q.samples⟩⟩
  have z4 : decide (q.newest < p.time + 1) = true := by simpa using hq
  have HE : Hid (newR q p now = ⟨(p.time + 1), p.tick, now, q.trip, q.samples⟩) := Lib.hid (by unfold newR; rw [if_pos hq])
  have hA4 := setHPc (k := 2) (v := .int .i64 now) (setHPc (k := 1) (v := .int .i64 p.tick) (setHPc (k := 0) (v := .int .i64 (p.time + 1)) hA2))
  have hP4 := farHeap (p := ⟨w.heap.size, 2, none⟩) (farHeap (p := ⟨w.heap.size, 1, none⟩) (farHeap (p := ⟨w.heap.size, 0, none⟩) hP2 (by simp) (.int .i64 (p.time + 1))) (by simp) (.int .i64 p.tick)) (by simp) (.int .i64 now)
  have hR4 := farHeap (p := ⟨w.heap.size, 2, none⟩) (farHeap (p := ⟨w.heap.size, 1, none⟩) (farHeap (p := ⟨w.heap.size, 0, none⟩) hR2 (by simp; omega) (.int .i64 (p.time + 1))) (by simp; omega) (.int .i64 p.tick)) (by simp; omega) (.int .i64 now)
  have hb04 := (((hb02.setCell (p := ⟨w.heap.size, 0, none⟩) (by simp) (.int .i64 (p.time + 1))).setCell (p := ⟨w.heap.size, 1, none⟩) (by simp) (.int .i64 p.tick)).setCell (p := ⟨w.heap.size, 2, none⟩) (by simp) (.int .i64 now))
  go_upto_region 7 with (fail)
  obtain ⟨W4, hW4⟩ : ∃ W4, W4 = (((w2.setCell ⟨w.heap.size, 0, none⟩ (.int .i64 (p.time + 1))).setCell ⟨w.heap.size, 1, none⟩ (.int .i64 p.tick)).setCell ⟨w.heap.size, 2, none⟩ (.int .i64 now)) := ⟨_, rfl⟩
  rw [← hW4] at hb04 ⊢
  have hA4 : W4.heap[w.heap.size]? = some (.cells #[.int .i64 (p.time + 1), .int .i64 p.tick, .int .i64 now, .int .i64 q.trip, .int .i64 q.samples] 31 (0, 0)) := by rw [hW4]; exact hA4
  have hP4 : W4.heap[w.heap.size + 1]? = some (.cells #[.int .i64 p.fr, .int .i64 p.tick, .int .i64 p.first, (.slice ai p.ins.length ci), (.slice aa p.acks.length ca), .int .i64 p.sumTick, .int .i64 p.sum, .int .i64 p.time, .int .i64 p.echo] 43 (0, 0)) := by rw [hW4]; exact hP4
  have hR4 : W4.heap[w.heap.size + 1 + 1]? = some (.cells #[.int .i64 0, .int .i64 0, .int .i64 0, .int .i64 0, .int .i64 0] 31 (0, 0)) := by rw [hW4]; exact hR4
  clear hW4 cA2 cP2 cR2 fA2 fR2 hA2 hP2 hR2 hb02
  have cA4 := rowCells hA4
  have cP4 := rowCells hP4
  have cR4 := rowCells hR4
  have fA4 := fun j => frozenHeap hA4 j
  have fR4 := fun j => frozenHeap hR4 j
  by_cases he : 0 < p.echo
  case neg =>
    have z5 : decide (0 < p.echo) = false := by simpa using he
    have HQ : Hid (hearR q p now = ⟨(p.time + 1), p.tick, now, q.trip, q.samples⟩) := Lib.hid (by unfold hearR; rw [if_pos HK.out, if_neg (by omega), HE.out])
    go_wp2_with (fail)
    refine bodyPost_ret (results_cell_row rfl _ _ (w.heap.size + 1 + 1) 31 #[.int .i64 (p.time + 1), .int .i64 p.tick, .int .i64 now, .int .i64 q.trip, .int .i64 q.samples] (0, 0) ?d ?hp ?hg ?hu ?hd ?hi) rfl ?_
    case hp => rfl
    case hg => exact boxPc_heap hR4 rfl ⟨(p.time + 1), p.tick, now, q.trip, q.samples⟩
    case hu => exact Try.underlying31
    case hd => rfl
    case hi => kernel_rfl
    exact ⟨by rw [HQ.out], boxPc_below hb04 (by omega) ⟨(p.time + 1), p.tick, now, q.trip, q.samples⟩⟩
  have z5 : decide (0 < p.echo) = true := by simpa using he
  by_cases hn : p.echo - 1 ≤ now
  case neg =>
    have z6 : decide (p.echo - 1 ≤ now) = false := by simpa using hn
    have HQ : Hid (hearR q p now = ⟨(p.time + 1), p.tick, now, q.trip, q.samples⟩) := Lib.hid (by unfold hearR; rw [if_pos HK.out, if_neg (by omega), HE.out])
    go_wp2_with (fail)
    refine bodyPost_ret (results_cell_row rfl _ _ (w.heap.size + 1 + 1) 31 #[.int .i64 (p.time + 1), .int .i64 p.tick, .int .i64 now, .int .i64 q.trip, .int .i64 q.samples] (0, 0) ?d ?hp ?hg ?hu ?hd ?hi) rfl ?_
    case hp => rfl
    case hg => exact boxPc_heap hR4 rfl ⟨(p.time + 1), p.tick, now, q.trip, q.samples⟩
    case hu => exact Try.underlying31
    case hd => rfl
    case hi => kernel_rfl
    exact ⟨by rw [HQ.out], boxPc_below hb04 (by omega) ⟨(p.time + 1), p.tick, now, q.trip, q.samples⟩⟩
  have z6 : decide (p.echo - 1 ≤ now) = true := by simpa using hn
  obtain ⟨s, hs0⟩ : ∃ s, s = now - (p.echo - 1) := ⟨_, rfl⟩
  have hs1 : 0 ≤ s ∧ s ≤ 1000000 := by omega
  have HQ0 : Hid (hearR q p now = sampR ⟨(p.time + 1), p.tick, now, q.trip, q.samples⟩ s) := Lib.hid (by unfold hearR; rw [if_pos HK.out, if_pos ⟨he, hn⟩, HE.out, hs0])
  clear HE HN HK
  go_upto_region 9 with (fail)
  rw [← hs0]
  clear hs0
  by_cases g0 : q.samples = 0
  case pos =>
    have y0 : (q.samples == 0) = true := by simpa using g0
    have HQ : Hid (hearR q p now = ⟨(p.time + 1), p.tick, now, s, 1⟩) := Lib.hid (by rw [HQ0.out]; unfold sampR tripR smpR; simp [g0])
    have hA6 := setHPc (k := 4) (v := .int .i64 1) (setHPc (k := 3) (v := .int .i64 s) hA4)
    have hR6 := farHeap (p := ⟨w.heap.size, 4, none⟩) (farHeap (p := ⟨w.heap.size, 3, none⟩) hR4 (by simp; omega) (.int .i64 s)) (by simp; omega) (.int .i64 1)
    have hb06 := (hb04.setCell (p := ⟨w.heap.size, 3, none⟩) (by simp) (.int .i64 s)).setCell (p := ⟨w.heap.size, 4, none⟩) (by simp) (.int .i64 1)
    go_upto_region 14 with (fail)
    obtain ⟨W6, hW6⟩ : ∃ W6, W6 = (W4.setCell ⟨w.heap.size, 3, none⟩ (.int .i64 s)).setCell ⟨w.heap.size, 4, none⟩ (.int .i64 1) := ⟨_, rfl⟩
    rw [← hW6] at hA6 hR6 hb06 ⊢
    have hA6 : W6.heap[w.heap.size]? = some (.cells #[.int .i64 (p.time + 1), .int .i64 p.tick, .int .i64 now, .int .i64 s, .int .i64 1] 31 (0, 0)) := hA6
    clear hW6
    have cA6 := rowCells hA6
    have cR6 := rowCells hR6
    have fR6 := fun j => frozenHeap hR6 j
    go_wp2_with (fail)
    refine bodyPost_ret (results_cell_row rfl _ _ (w.heap.size + 1 + 1) 31 #[.int .i64 (p.time + 1), .int .i64 p.tick, .int .i64 now, .int .i64 s, .int .i64 1] (0, 0) ?d ?hp ?hg ?hu ?hd ?hi) rfl ?_
    case hp => rfl
    case hg => exact boxPc_heap hR6 rfl ⟨(p.time + 1), p.tick, now, s, 1⟩
    case hu => exact Try.underlying31
    case hd => rfl
    case hi => kernel_rfl
    exact ⟨by rw [HQ.out], boxPc_below hb06 (by omega) ⟨(p.time + 1), p.tick, now, s, 1⟩⟩
  have y0 : (q.samples == 0) = false := by simpa using g0
  obtain ⟨t, ht⟩ : ∃ t, t = (3 * q.trip + s + 2) / 4 := ⟨_, rfl⟩
  have e1 : (3 * q.trip + s + 2).tdiv 4 = t := by rw [ht]; exact Int.tdiv_eq_ediv_of_nonneg (by omega)
  have ht2 : 0 ≤ t ∧ t ≤ 1000001 := by omega
  by_cases g1 : q.samples < 1000000
  case pos =>
    have y1 : decide (q.samples < 1000000) = true := by simpa using g1
    have HQ : Hid (hearR q p now = ⟨(p.time + 1), p.tick, now, t, (q.samples + 1)⟩) := Lib.hid (by rw [HQ0.out]; unfold sampR tripR smpR; simp [g0, g1, ht])
    clear ht
    have hA6 := setHPc (k := 4) (v := .int .i64 (q.samples + 1)) (setHPc (k := 3) (v := .int .i64 t) hA4)
    have hR6 := farHeap (p := ⟨w.heap.size, 4, none⟩) (farHeap (p := ⟨w.heap.size, 3, none⟩) hR4 (by simp; omega) (.int .i64 t)) (by simp; omega) (.int .i64 (q.samples + 1))
    have hb06 := (hb04.setCell (p := ⟨w.heap.size, 3, none⟩) (by simp) (.int .i64 t)).setCell (p := ⟨w.heap.size, 4, none⟩) (by simp) (.int .i64 (q.samples + 1))
    go_upto_region 14 with (fail)
    obtain ⟨W6, hW6⟩ : ∃ W6, W6 = (W4.setCell ⟨w.heap.size, 3, none⟩ (.int .i64 t)).setCell ⟨w.heap.size, 4, none⟩ (.int .i64 (q.samples + 1)) := ⟨_, rfl⟩
    rw [← hW6] at hA6 hR6 hb06 ⊢
    have hA6 : W6.heap[w.heap.size]? = some (.cells #[.int .i64 (p.time + 1), .int .i64 p.tick, .int .i64 now, .int .i64 t, .int .i64 (q.samples + 1)] 31 (0, 0)) := hA6
    clear hW6
    have cA6 := rowCells hA6
    have cR6 := rowCells hR6
    have fR6 := fun j => frozenHeap hR6 j
    go_wp2_with (fail)
    refine bodyPost_ret (results_cell_row rfl _ _ (w.heap.size + 1 + 1) 31 #[.int .i64 (p.time + 1), .int .i64 p.tick, .int .i64 now, .int .i64 t, .int .i64 (q.samples + 1)] (0, 0) ?d ?hp ?hg ?hu ?hd ?hi) rfl ?_
    case hp => rfl
    case hg => exact boxPc_heap hR6 rfl ⟨(p.time + 1), p.tick, now, t, (q.samples + 1)⟩
    case hu => exact Try.underlying31
    case hd => rfl
    case hi => kernel_rfl
    exact ⟨by rw [HQ.out], boxPc_below hb06 (by omega) ⟨(p.time + 1), p.tick, now, t, (q.samples + 1)⟩⟩
  have y1 : decide (q.samples < 1000000) = false := by simpa using g1
  have HQ : Hid (hearR q p now = ⟨(p.time + 1), p.tick, now, t, q.samples⟩) := Lib.hid (by rw [HQ0.out]; unfold sampR tripR smpR; simp [g0, g1, ht])
  clear ht
  have hA6 := setHPc (k := 3) (v := .int .i64 t) hA4
  have hR6 := farHeap (p := ⟨w.heap.size, 3, none⟩) hR4 (by simp; omega) (.int .i64 t)
  have hb06 := hb04.setCell (p := ⟨w.heap.size, 3, none⟩) (by simp) (.int .i64 t)
  go_upto_region 14 with (fail)
  obtain ⟨W6, hW6⟩ : ∃ W6, W6 = W4.setCell ⟨w.heap.size, 3, none⟩ (.int .i64 t) := ⟨_, rfl⟩
  rw [← hW6] at hA6 hR6 hb06 ⊢
  have hA6 : W6.heap[w.heap.size]? = some (.cells #[.int .i64 (p.time + 1), .int .i64 p.tick, .int .i64 now, .int .i64 t, .int .i64 q.samples] 31 (0, 0)) := hA6
  clear hW6
  have cA6 := rowCells hA6
  have cR6 := rowCells hR6
  have fR6 := fun j => frozenHeap hR6 j
  go_wp2_with (fail)
  refine bodyPost_ret (results_cell_row rfl _ _ (w.heap.size + 1 + 1) 31 #[.int .i64 (p.time + 1), .int .i64 p.tick, .int .i64 now, .int .i64 t, .int .i64 q.samples] (0, 0) ?d ?hp ?hg ?hu ?hd ?hi) rfl ?_
  case hp => rfl
  case hg => exact boxPc_heap hR6 rfl ⟨(p.time + 1), p.tick, now, t, q.samples⟩
  case hu => exact Try.underlying31
  case hd => rfl
  case hi => kernel_rfl
  exact ⟨by rw [HQ.out], boxPc_below hb06 (by omega) ⟨(p.time + 1), p.tick, now, t, q.samples⟩⟩

end Go.Proofs.Yteafgghpkohfpaa
