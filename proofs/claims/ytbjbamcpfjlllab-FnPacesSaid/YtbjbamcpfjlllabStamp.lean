/-
  StampPacket of the program and of the model. Lists of at most 2^20.
-/
import Derived.Test.YtbjbamcpfjlllabPace
import Derived.Test.YtbjbamcpfjlllabPkO
import Derived.Test.YtbjbamcpfjlllabCln
import Derived.Test.YtbjbamcpfjlllabPkN
import Derived.Deep.RegionWith
import Derived.Deep.Cut
import Derived.Deep.CutBlock
namespace Go.Proofs.Ytbjbamcpfjlllab
open Go.RowKit
set_option linter.all false
def RetPkIn (w : World) (p : Pk) (e : Ending) (w' : World) : Prop := ∃ vi va, e = .returned (.agg (pkC p vi va)) ∧ OwnPIn w' w.heap.size w'.heap.size p vi va ∧ CapI vi ∧ CapI va ∧ Below w.heap.size w w'
theorem OwnIn.putP {w : World} {lo hi c : Nat} {v : Value} {xs : List Int} (h : OwnIn w lo hi v xs) (hc : c < lo) (p : Pk) (vi va : Value) : OwnIn (putP w c p vi va) lo hi v xs := by
  unfold Go.Proofs.Ytbjbamcpfjlllab.putP
  repeat (refine OwnIn.far ?_ (by simpa using hc) _)
  exact h
theorem putP_size (w : World) (c : Nat) (p : Pk) (vi va : Value) : (putP w c p vi va).heap.size = w.heap.size := by unfold putP; simp
def stampOk (q : Pc) (now : Int) : Bool := paceB q && (decide (q.newest ≤ 1000000) && inR now 0 1000000)
def stampX (p : Pk) (q : Pc) (now : Int) : Pk := if stampOk q now = true then { p with time := now, echo := q.newest } else p
theorem stamp_1 {p : Pk} {q : Pc} {now : Int} (h : paceB q = false) : stampX p q now = p := by unfold stampX stampOk; rw [h]; rfl
theorem stamp_2 {p : Pk} {q : Pc} {now : Int} (h : ¬ q.newest ≤ 1000000) : stampX p q now = p := by unfold stampX stampOk; rw [show decide (q.newest ≤ 1000000) = false by simpa using h]; simp
theorem stamp_3 {p : Pk} {q : Pc} {now : Int} (h : inR now 0 1000000 = false) : stampX p q now = p := by unfold stampX stampOk; rw [h]; simp
theorem stamp_ok {p : Pk} {q : Pc} {now : Int} (h1 : paceB q = true) (h2 : q.newest ≤ 1000000) (h3 : inR now 0 1000000 = true) : stampX p q now = { p with time := now, echo := q.newest } := by unfold stampX stampOk; rw [h1, h3, show decide (q.newest ≤ 1000000) = true by simpa using h2]; rfl
theorem below0 (w : World) : Below w.heap.size w w.drew := belowDrew w 1
set_option maxRecDepth 100000 in
set_option maxHeartbeats 8000000 in
theorem stamp_impl {w : World} {p : Pk} {vi va : Value} (h : RdP w p vi va) (hn : p.few) (q : Pc) (now : Int) :
    Calls Try.prog 8 #[.agg (pkC p vi va), pcV q, .int .i64 now] w (RetPkIn w (stampX p q now)) := by
  obtain ⟨hn1, hn2⟩ := hn
  have P1 := fun W => paceOk_impl q W
  have h0 := h
  obtain ⟨ai, ci, rfl, -⟩ := id h.1
  obtain ⟨aa, ca, rfl, -⟩ := id h.2
  unfold pcV at P1 ⊢
  unfold pkC
  obtain ⟨W0, hW, hA, hB, hR, hB0, hS0⟩ := rows3 w #[.int .i64 p.fr, .int .i64 p.tick, .int .i64 p.first, (.slice ai p.ins.length ci), (.slice aa p.acks.length ca), .int .i64 p.sumTick, .int .i64 p.sum, .int .i64 p.time, .int .i64 p.echo] #[.int .i64 q.newest, .int .i64 q.their, .int .i64 q.at0, .int .i64 q.trip, .int .i64 q.samples] #[.int .i64 0, .int .i64 0, .int .i64 0, .slice none 0 0, .slice none 0 0, .int .i64 0, .int .i64 0, .int .i64 0, .int .i64 0] 31 26 31
  have cA := rowCells hA
  go_enter Try.func8, Try.ntmps8
  go_upto_region 1 with (fail)
  try rw [hW]
  clear hW
  have M1 : True := trivial
  go_region_with (first
    | (clear M1; go_at_call 23; refine (cloneI_any (h0.keep hB0.drew).1 (by omega)).mono ?_; rintro e w1 ⟨v1, rfl, oi1, hk1, hb1⟩; obtain ⟨a1, c1, rfl, -⟩ := id oi1; have hb1' := (below0 W0).trans hb1; have hA1 := keepHeap hb1' hA; have cA1 := rowCells hA1; have M2 : True := trivial)
    | (clear M2; go_at_call 23; refine (cloneI_any (h0.keep (hB0.trans (hb1'.mono hB0.size))).2 (by omega)).mono ?_; rintro e w2 ⟨v2, rfl, oa2, hk2, hb2⟩; obtain ⟨a2, c2, rfl, -⟩ := id oa2; have hA2 := keepHeap hb2 hA1; have cA2 := rowCells hA2; have fA2 := fun j => frozenHeap hA2 j))
  all_goals
    have hs1 := hb1'.size
    have hs2 := hb2.size
    have hb02 := hB0.trans ((hb1'.trans (hb2.mono hs1)).mono hB0.size)
    obtain ⟨n1, hn1'⟩ : ∃ n, n = w1.heap.size := ⟨_, rfl⟩
    obtain ⟨n2, hn2'⟩ : ∃ n, n = w2.heap.size := ⟨_, rfl⟩
    have oi2 : OwnIn w2 W0.heap.size n1 (.slice a1 p.ins.length c1) p.ins := by rw [hn1']; exact (OwnIn.of oi1).keep hb2
    have oa2 : OwnIn w2 n1 n2 (.slice a2 p.acks.length c2) p.acks := by rw [hn1', hn2']; exact OwnIn.of oa2
    have hB2 := keepHeap (hb1'.trans (hb2.mono hs1)) hB
    have hR2 := keepHeap (hb1'.trans (hb2.mono hs1)) hR
    have hA4 := setHl (k := 4) (v := .slice a2 p.acks.length c2) (setHl (k := 3) (v := .slice a1 p.ins.length c1) hA2)
    have hB4 := farHeap (p := ⟨w.heap.size, 4, none⟩) (farHeap (p := ⟨w.heap.size, 3, none⟩) hB2 (by simp) (.slice a1 p.ins.length c1)) (by simp) (.slice a2 p.acks.length c2)
    have hR4 := farHeap (p := ⟨w.heap.size, 4, none⟩) (farHeap (p := ⟨w.heap.size, 3, none⟩) hR2 (by simp; omega) (.slice a1 p.ins.length c1)) (by simp; omega) (.slice a2 p.acks.length c2)
    have hb04 := (hb02.setCell (p := ⟨w.heap.size, 3, none⟩) (by simp) (.slice a1 p.ins.length c1)).setCell (p := ⟨w.heap.size, 4, none⟩) (by simp) (.slice a2 p.acks.length c2)
    have oi4 := (oi2.far (p := ⟨w.heap.size, 3, none⟩) (by simp; omega) (.slice a1 p.ins.length c1)).far (p := ⟨w.heap.size, 4, none⟩) (by simp; omega) (.slice a2 p.acks.length c2)
    have oa4 := (oa2.far (p := ⟨w.heap.size, 3, none⟩) (by simp; omega) (.slice a1 p.ins.length c1)).far (p := ⟨w.heap.size, 4, none⟩) (by simp; omega) (.slice a2 p.acks.length c2)
    obtain ⟨W4, hW4⟩ : ∃ W4, W4 = (w2.setCell ⟨w.heap.size, 3, none⟩ (.slice a1 p.ins.length c1)).setCell ⟨w.heap.size, 4, none⟩ (.slice a2 p.acks.length c2) := ⟨_, rfl⟩
    have hz4 : n2 ≤ W4.heap.size := by rw [hW4, hn2']; simp
    rw [← hW4] at hA4 hB4 hR4 hb04 oi4 oa4 ⊢
    clear hW4 cA cA1 cA2 fA2 hA1 hA2 hB2 hR2 hb02 oi2 oa2 oi1
    have hA4 : W4.heap[w.heap.size]? = some (.cells #[.int .i64 p.fr, .int .i64 p.tick, .int .i64 p.first, (.slice a1 p.ins.length c1), (.slice a2 p.acks.length c2), .int .i64 p.sumTick, .int .i64 p.sum, .int .i64 p.time, .int .i64 p.echo] 31 (0, 0)) := hA4
    have cA4 := rowCells hA4
    have cB4 := rowCells hB4
    go_wp2_with (fail)
    refine (P1 _).mono ?_
    rintro e w5 ⟨rfl, hb5⟩
    have hA5 := keepHeap hb5 hA4
    have hB5 := keepHeap hb5 hB4
    have hR5 := keepHeap hb5 hR4
    have hb05 := hb04.trans (hb5.mono hb04.size)
    have oi5 := oi4.keep hb5
    have hz5 := hb5.size
    have oa5 := oa4.keep hb5
    have cA5 := rowCells hA5
    have cB5 := rowCells hB5
    have cR5 := rowCells hR5
    have fA5 := fun j => frozenHeap hA5 j
    have fR5 := fun j => frozenHeap hR5 j
    clear cA4 cB4 hA4 hB4 hR4 oi4 oa4
    cases q1 : paceB q with
    | false =>
      have HQ : Hid (stampX p q now = p) := Lib.hid (stamp_1 q1)
      clear q1
      go_wp2_with (fail)
      have hP := putP_heap hR5 rfl p (.slice a1 p.ins.length c1) (.slice a2 p.acks.length c2)
      have hbP := putP_below hb05 (c := w.heap.size + 1 + 1) (by omega) p (.slice a1 p.ins.length c1) (.slice a2 p.acks.length c2)
      have hoP := OwnIn.putP (c := w.heap.size + 1 + 1) oi5 (by omega) p (.slice a1 p.ins.length c1) (.slice a2 p.acks.length c2)
      have haP := OwnIn.putP (c := w.heap.size + 1 + 1) oa5 (by omega) p (.slice a1 p.ins.length c1) (.slice a2 p.acks.length c2)
      have hzP := putP_size w5 (w.heap.size + 1 + 1) p (.slice a1 p.ins.length c1) (.slice a2 p.acks.length c2)
      unfold putP at hP hbP hoP haP hzP
      refine bodyPost_ret (results_cell_row rfl _ _ (w.heap.size + 1 + 1) 31 (pkC p (.slice a1 p.ins.length c1) (.slice a2 p.acks.length c2)) (0, 0) ?d ?hp ?hg ?hu ?hd ?hi) rfl ?_
      case hp => rfl
      case hg => exact hP
      case hu => exact Try.underlying31
      case hd => rfl
      case hi => kernel_rfl
      refine ⟨(.slice a1 p.ins.length c1), (.slice a2 p.acks.length c2), by rw [HQ.out], ?_, hk1, hk2, hbP⟩
      rw [HQ.out]
      refine ⟨W0.heap.size, n1, n1, n2, ⟨by omega, by omega, ?_⟩, ⟨by omega, by omega, ?_⟩, .inl (Nat.le_refl _), hoP, haP⟩
      · rw [hzP]; omega
      · rw [hzP]; omega
    | true =>
    by_cases hq : q.newest ≤ 1000000
    case neg =>
      have HQ : Hid (stampX p q now = p) := Lib.hid (stamp_2 hq)
      have zq : decide (q.newest ≤ 1000000) = false := by simpa using hq
      clear q1
      go_wp2_with (fail)
      have hP := putP_heap hR5 rfl p (.slice a1 p.ins.length c1) (.slice a2 p.acks.length c2)
      have hbP := putP_below hb05 (c := w.heap.size + 1 + 1) (by omega) p (.slice a1 p.ins.length c1) (.slice a2 p.acks.length c2)
      have hoP := OwnIn.putP (c := w.heap.size + 1 + 1) oi5 (by omega) p (.slice a1 p.ins.length c1) (.slice a2 p.acks.length c2)
      have haP := OwnIn.putP (c := w.heap.size + 1 + 1) oa5 (by omega) p (.slice a1 p.ins.length c1) (.slice a2 p.acks.length c2)
      have hzP := putP_size w5 (w.heap.size + 1 + 1) p (.slice a1 p.ins.length c1) (.slice a2 p.acks.length c2)
      unfold putP at hP hbP hoP haP hzP
      refine bodyPost_ret (results_cell_row rfl _ _ (w.heap.size + 1 + 1) 31 (pkC p (.slice a1 p.ins.length c1) (.slice a2 p.acks.length c2)) (0, 0) ?d ?hp ?hg ?hu ?hd ?hi) rfl ?_
      case hp => rfl
      case hg => exact hP
      case hu => exact Try.underlying31
      case hd => rfl
      case hi => kernel_rfl
      refine ⟨(.slice a1 p.ins.length c1), (.slice a2 p.acks.length c2), by rw [HQ.out], ?_, hk1, hk2, hbP⟩
      rw [HQ.out]
      refine ⟨W0.heap.size, n1, n1, n2, ⟨by omega, by omega, ?_⟩, ⟨by omega, by omega, ?_⟩, .inl (Nat.le_refl _), hoP, haP⟩
      · rw [hzP]; omega
      · rw [hzP]; omega
    have zq : decide (q.newest ≤ 1000000) = true := by simpa using hq
    have Q1 := Lib.hid q1
    clear q1
    go_wp2_with (fail)
    refine (within_impl _ _ _ _).mono ?_
    rintro e w6 ⟨rfl, rfl⟩
    cases q3 : inR now 0 1000000 with
    | false =>
      have HQ : Hid (stampX p q now = p) := Lib.hid (stamp_3 q3)
      clear q3
      go_wp2_with (fail)
      have hP := putP_heap hR5 rfl p (.slice a1 p.ins.length c1) (.slice a2 p.acks.length c2)
      have hbP := putP_below hb05 (c := w.heap.size + 1 + 1) (by omega) p (.slice a1 p.ins.length c1) (.slice a2 p.acks.length c2)
      have hoP := OwnIn.putP (c := w.heap.size + 1 + 1) oi5 (by omega) p (.slice a1 p.ins.length c1) (.slice a2 p.acks.length c2)
      have haP := OwnIn.putP (c := w.heap.size + 1 + 1) oa5 (by omega) p (.slice a1 p.ins.length c1) (.slice a2 p.acks.length c2)
      have hzP := putP_size w5 (w.heap.size + 1 + 1) p (.slice a1 p.ins.length c1) (.slice a2 p.acks.length c2)
      unfold putP at hP hbP hoP haP hzP
      refine bodyPost_ret (results_cell_row rfl _ _ (w.heap.size + 1 + 1) 31 (pkC p (.slice a1 p.ins.length c1) (.slice a2 p.acks.length c2)) (0, 0) ?d ?hp ?hg ?hu ?hd ?hi) rfl ?_
      case hp => rfl
      case hg => exact hP
      case hu => exact Try.underlying31
      case hd => rfl
      case hi => kernel_rfl
      refine ⟨(.slice a1 p.ins.length c1), (.slice a2 p.acks.length c2), by rw [HQ.out], ?_, hk1, hk2, hbP⟩
      rw [HQ.out]
      refine ⟨W0.heap.size, n1, n1, n2, ⟨by omega, by omega, ?_⟩, ⟨by omega, by omega, ?_⟩, .inl (Nat.le_refl _), hoP, haP⟩
      · rw [hzP]; omega
      · rw [hzP]; omega
    | true =>
    have HQ : Hid (stampX p q now = { p with time := now, echo := q.newest }) := Lib.hid (stamp_ok Q1.out hq q3)
    clear q3
    have hA7 := setHl (k := 8) (v := .int .i64 q.newest) (setHl (k := 7) (v := .int .i64 now) hA5)
    have hR7 := farHeap (p := ⟨w.heap.size, 8, none⟩) (farHeap (p := ⟨w.heap.size, 7, none⟩) hR5 (by simp; omega) (.int .i64 now)) (by simp; omega) (.int .i64 q.newest)
    have hb07 := (hb05.setCell (p := ⟨w.heap.size, 7, none⟩) (by simp) (.int .i64 now)).setCell (p := ⟨w.heap.size, 8, none⟩) (by simp) (.int .i64 q.newest)
    have oi7 := (oi5.far (p := ⟨w.heap.size, 7, none⟩) (by simp; omega) (.int .i64 now)).far (p := ⟨w.heap.size, 8, none⟩) (by simp; omega) (.int .i64 q.newest)
    have oa7 := (oa5.far (p := ⟨w.heap.size, 7, none⟩) (by simp; omega) (.int .i64 now)).far (p := ⟨w.heap.size, 8, none⟩) (by simp; omega) (.int .i64 q.newest)
    go_upto_region 3 with (fail)
    go_region
    obtain ⟨W7, hW7⟩ : ∃ W7, W7 = ((w5.setCell ⟨w.heap.size, 7, none⟩ (.int .i64 now)).setCell ⟨w.heap.size, 8, none⟩ (.int .i64 q.newest)).drew := ⟨_, rfl⟩
    try rw [← hW7]
    have hA7 : W7.heap[w.heap.size]? = some (.cells #[.int .i64 p.fr, .int .i64 p.tick, .int .i64 p.first, (.slice a1 p.ins.length c1), (.slice a2 p.acks.length c2), .int .i64 p.sumTick, .int .i64 p.sum, .int .i64 now, .int .i64 q.newest] 31 (0, 0)) := by rw [hW7]; exact hA7
    have hR7 : W7.heap[w.heap.size + 1 + 1]? = some (.cells #[.int .i64 0, .int .i64 0, .int .i64 0, .slice none 0 0, .slice none 0 0, .int .i64 0, .int .i64 0, .int .i64 0, .int .i64 0] 31 (0, 0)) := by rw [hW7]; exact hR7
    have hb07 : Below w.heap.size w W7 := by rw [hW7]; exact hb07.drew
    have oi7 : OwnIn W7 W0.heap.size n1 (.slice a1 p.ins.length c1) p.ins := by rw [hW7]; exact oi7
    have oa7 : OwnIn W7 n1 n2 (.slice a2 p.acks.length c2) p.acks := by rw [hW7]; exact oa7
    have hz7 : W7.heap.size = w5.heap.size := by rw [hW7]; simp
    clear hW7 cA5 cB5 cR5 fA5 fR5
    have cA7 := rowCells hA7
    have cR7 := rowCells hR7
    have fR7 := fun j => frozenHeap hR7 j
    go_wp2_with (fail)
    have hP := putP_heap hR7 rfl { p with time := now, echo := q.newest } (.slice a1 p.ins.length c1) (.slice a2 p.acks.length c2)
    have hbP := putP_below hb07 (c := w.heap.size + 1 + 1) (by omega) { p with time := now, echo := q.newest } (.slice a1 p.ins.length c1) (.slice a2 p.acks.length c2)
    have hoP := OwnIn.putP (c := w.heap.size + 1 + 1) oi7 (by omega) { p with time := now, echo := q.newest } (.slice a1 p.ins.length c1) (.slice a2 p.acks.length c2)
    have haP := OwnIn.putP (c := w.heap.size + 1 + 1) oa7 (by omega) { p with time := now, echo := q.newest } (.slice a1 p.ins.length c1) (.slice a2 p.acks.length c2)
    have hzP := putP_size W7 (w.heap.size + 1 + 1) { p with time := now, echo := q.newest } (.slice a1 p.ins.length c1) (.slice a2 p.acks.length c2)
    unfold putP at hP hbP hoP haP hzP
    refine bodyPost_ret (results_cell_row rfl _ _ (w.heap.size + 1 + 1) 31 (pkC { p with time := now, echo := q.newest } (.slice a1 p.ins.length c1) (.slice a2 p.acks.length c2)) (0, 0) ?d ?hp ?hg ?hu ?hd ?hi) rfl ?_
    case hp => rfl
    case hg => exact hP
    case hu => exact Try.underlying31
    case hd => rfl
    case hi => kernel_rfl
    refine ⟨(.slice a1 p.ins.length c1), (.slice a2 p.acks.length c2), by rw [HQ.out], ?_, hk1, hk2, hbP⟩
    rw [HQ.out]
    refine ⟨W0.heap.size, n1, n1, n2, ⟨by omega, by omega, ?_⟩, ⟨by omega, by omega, ?_⟩, .inl (Nat.le_refl _), hoP, haP⟩
    · rw [hzP]; omega
    · rw [hzP]; omega
end Go.Proofs.Ytbjbamcpfjlllab
