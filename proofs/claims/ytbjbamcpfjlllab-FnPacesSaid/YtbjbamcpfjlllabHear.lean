/-
  HearPacket of the program and of the model. No condition but that the packet's lists can be.
-/
import Derived.Test.YtbjbamcpfjlllabPace
import Derived.Test.YtbjbamcpfjlllabPkO
import Derived.Deep.Cut
import Derived.Deep.CutBlock
namespace Go.Proofs.Ytbjbamcpfjlllab
open Go.RowKit
set_option linter.all false
theorem setHPc {w : World} {c k : Nat} {v : Value} {l : List Value} {T : TypeId} (h : w.heap[c]? = some (.cells ⟨l⟩ T (0, 0))) : (w.setCell ⟨c, k, none⟩ v).heap[c]? = some (.cells ⟨l.set k v⟩ T (0, 0)) := by
  rw [setHeap h]; simp
/-- A whole one is stored. -/
def boxPc (w : World) (c : Nat) (q : Pc) : World := ((((w.setCell ⟨c, 0, none⟩ (.int .i64 q.newest)).setCell ⟨c, 1, none⟩ (.int .i64 q.their)).setCell ⟨c, 2, none⟩ (.int .i64 q.at0)).setCell ⟨c, 3, none⟩ (.int .i64 q.trip)).setCell ⟨c, 4, none⟩ (.int .i64 q.samples)
set_option maxHeartbeats 1000000 in
theorem boxPc_heap {w : World} {c : Nat} {cs : Array Value} {T : TypeId} (h : w.heap[c]? = some (.cells cs T (0, 0))) (hn : cs.size = 5) (q : Pc) : (boxPc w c q).heap[c]? = some (.cells #[.int .i64 q.newest, .int .i64 q.their, .int .i64 q.at0, .int .i64 q.trip, .int .i64 q.samples] T (0, 0)) := by
  obtain ⟨l⟩ := cs
  match l, hn with
  | [a0, a1, a2, a3, a4], _ =>
    have h0 := h
    have h1 := setHPc (k := 0) (v := .int .i64 q.newest) h0
    have h2 := setHPc (k := 1) (v := .int .i64 q.their) h1
    have h3 := setHPc (k := 2) (v := .int .i64 q.at0) h2
    have h4 := setHPc (k := 3) (v := .int .i64 q.trip) h3
    have h5 := setHPc (k := 4) (v := .int .i64 q.samples) h4
    exact h5
theorem boxPc_far {w : World} {c k : Nat} {o : Obj} (h : w.heap[k]? = some o) (hk : k ≠ c) (q : Pc) : (boxPc w c q).heap[k]? = some o := by
  unfold boxPc
  repeat (refine farHeap ?_ hk _)
  exact h
theorem boxPc_below {B : Nat} {w0 w : World} {c : Nat} (h : Below B w0 w) (hc : B ≤ c) (q : Pc) : Below B w0 (boxPc w c q) := by
  unfold boxPc
  repeat (refine Below.setCell ?_ (by simpa using hc) _)
  exact h
theorem loadPc {W : World} {k : Nat} {xs : Array Value} (h : W.heap[k]? = some (.cells xs 26 (0, 0))) (hn : xs.size = 5) : (loadVar 26 ⟨k, 0, none⟩).run Try.prog W = .ok (.agg xs) W :=
  run_loadVar_row W _ _ _ _ _ _ h Try.underlying26 rfl (by rw [hn]; kernel_rfl)
/-- A sample is taken. -/
def tripR (q : Pc) (s : Int) : Int := if q.samples = 0 then s else (3 * q.trip + s + 2) / 4
def smpR (q : Pc) : Int := if q.samples < 1000000 then q.samples + 1 else q.samples
def sampR (q : Pc) (s : Int) : Pc := { q with trip := tripR q s, samples := smpR q }
/-- A newer packet is heard. -/
def newR (q : Pc) (x : Pk) (now : Int) : Pc := if q.newest < x.time + 1 then { q with newest := x.time + 1, their := x.tick, at0 := now } else q
def hearOk (q : Pc) (x : Pk) (now : Int) : Bool := paceB q && (pktB x && inR now 0 1000000)
def hearR (q : Pc) (x : Pk) (now : Int) : Pc := if hearOk q x now = true then (if 0 < x.echo ∧ x.echo - 1 ≤ now then sampR (newR q x now) (now - (x.echo - 1)) else newR q x now) else q
theorem newR_range {q : Pc} {x : Pk} {now : Int} (h : paceB q = true) (hx1 : 0 ≤ x.time ∧ x.time ≤ 1000000) (hx2 : 0 ≤ x.tick ∧ x.tick ≤ 400) (hn : 0 ≤ now ∧ now ≤ 1000000) : paceB (newR q x now) = true := by
  obtain ⟨f1, f2, f3, f4, f5⟩ := paceB_facts h
  unfold newR
  split
  · unfold paceB; simp only [Bool.and_eq_true, inR_iff]; omega
  · exact h
theorem pktB_bounds {p : Pk} (h : pktB p = true) : (0 ≤ p.time ∧ p.time ≤ 1000000) ∧ (0 ≤ p.tick ∧ p.tick ≤ 400) ∧ (0 ≤ p.echo ∧ p.echo ≤ 1000000) := by
  unfold pktB at h
  simp only [Bool.and_eq_true, inR_iff] at h
  exact ⟨h.2.2.2.2.2.2.2.2.2.1, h.2.2.2.2.2.2.1, h.2.2.2.2.2.2.2.2.2.2⟩
set_option maxHeartbeats 1000000 in
theorem withSample_any (q : Pc) (s : Int) (hs : 0 ≤ s ∧ s ≤ 1000000) (hq : paceB q = true) (w : World) : Calls Try.prog 22 #[pcV q, .int .i64 s] w fun e w' => e = .returned (pcV (sampR q s)) ∧ Below w.heap.size w w' := by
  obtain ⟨f1, f2, f3, f4, f5⟩ := paceB_facts hq
  unfold pcV
  by_cases h0 : q.samples = 0
  · have HQ : Hid (sampR q s = ⟨q.newest, q.their, q.at0, s, 1⟩) := Lib.hid (by unfold sampR tripR smpR; rw [if_pos h0, if_pos (by omega), h0]; rfl)
    rw [h0] at *
    go_enter Try.func22, Try.ntmps22
    go_wp2_with (fail)
    refine bodyPost_ret (results_cell_row rfl _ _ (w.heap.size + 1) 26 #[.int .i64 q.newest, .int .i64 q.their, .int .i64 q.at0, .int .i64 s, .int .i64 1] (0, 0) ?d ?hp ?hg ?hu ?hd ?hi) rfl ?_
    case hp => rfl
    case hg => exact heap_at _ _ (by simp)
    case hu => exact Try.underlying26
    case hd => rfl
    case hi => kernel_rfl
    exact ⟨by rw [HQ.out], below2 _ _ _⟩
  · have z0 : (q.samples == 0) = false := by simpa using h0
    obtain ⟨t, ht⟩ : ∃ t, t = (3 * q.trip + s + 2) / 4 := ⟨_, rfl⟩
    have e1 : (3 * q.trip + s + 2).tdiv 4 = t := by rw [ht]; exact Int.tdiv_eq_ediv_of_nonneg (by omega)
    have ht2 : 0 ≤ t ∧ t ≤ 1000001 := by omega
    by_cases h1 : q.samples < 1000000
    · have z1 : decide (q.samples < 1000000) = true := by simpa using h1
      have HQ : Hid (sampR q s = ⟨q.newest, q.their, q.at0, t, q.samples + 1⟩) := Lib.hid (by unfold sampR tripR smpR; rw [if_neg h0, if_pos h1, ht])
      clear ht
      go_enter Try.func22, Try.ntmps22
      go_wp2_with (fail)
      refine bodyPost_ret (results_cell_row rfl _ _ (w.heap.size + 1) 26 #[.int .i64 q.newest, .int .i64 q.their, .int .i64 q.at0, .int .i64 t, .int .i64 (q.samples + 1)] (0, 0) ?d ?hp ?hg ?hu ?hd ?hi) rfl ?_
      case hp => rfl
      case hg => exact heap_at _ _ (by simp)
      case hu => exact Try.underlying26
      case hd => rfl
      case hi => kernel_rfl
      exact ⟨by rw [HQ.out], below2 _ _ _⟩
    · have z1 : decide (q.samples < 1000000) = false := by simpa using h1
      have HQ : Hid (sampR q s = ⟨q.newest, q.their, q.at0, t, q.samples⟩) := Lib.hid (by unfold sampR tripR smpR; rw [if_neg h0, if_neg h1, ht])
      clear ht
      go_enter Try.func22, Try.ntmps22
      go_wp2_with (fail)
      refine bodyPost_ret (results_cell_row rfl _ _ (w.heap.size + 1) 26 #[.int .i64 q.newest, .int .i64 q.their, .int .i64 q.at0, .int .i64 t, .int .i64 q.samples] (0, 0) ?d ?hp ?hg ?hu ?hd ?hi) rfl ?_
      case hp => rfl
      case hg => exact heap_at _ _ (by simp)
      case hu => exact Try.underlying26
      case hd => rfl
      case hi => kernel_rfl
      exact ⟨by rw [HQ.out], below2 _ _ _⟩
set_option maxRecDepth 100000 in
set_option maxHeartbeats 8000000 in
theorem hear_impl {w : World} (q : Pc) {p : Pk} {vi va : Value} (h : RdP w p vi va) (hs : p.sane) (now : Int) :
    Calls Try.prog 7 #[pcV q, .agg (pkC p vi va), .int .i64 now] w fun e w' => e = .returned (pcV (hearR q p now)) ∧ Below w.heap.size w w' := by
  have P1 := fun W => paceOk_impl q W
  have P2 := fun {W : World} {vi va : Value} (h : RdP W p vi va) => packetOk_impl h hs
  have h0 := h
  obtain ⟨ai, ci, rfl, -⟩ := id h.1
  obtain ⟨aa, ca, rfl, -⟩ := id h.2
  unfold pcV at P1 ⊢
  unfold pkC at P2 ⊢
  obtain ⟨W0, hW, hA, hP, hR, hB0, hS0⟩ := rows3 w #[.int .i64 q.newest, .int .i64 q.their, .int .i64 q.at0, .int .i64 q.trip, .int .i64 q.samples] #[.int .i64 p.fr, .int .i64 p.tick, .int .i64 p.first, (.slice ai p.ins.length ci), (.slice aa p.acks.length ca), .int .i64 p.sumTick, .int .i64 p.sum, .int .i64 p.time, .int .i64 p.echo] #[.int .i64 0, .int .i64 0, .int .i64 0, .int .i64 0, .int .i64 0] 26 31 26
  have cA := rowCells hA
  have cP := rowCells hP
  go_enter Try.func7, Try.ntmps7
  go_wp2_with (fail)
  try rw [hW]
  clear hW
  refine (P1 _).mono ?_
  rintro e w1 ⟨rfl, hb1⟩
  have hA1 := keepHeap hb1 hA
  have hP1 := keepHeap hb1 hP
  have hR1 := keepHeap hb1 hR
  have hb01 := hB0.trans (hb1.mono (by omega))
  have cA1 := rowCells hA1
  have cP1 := rowCells hP1
  have cR1 := rowCells hR1
  have fR1 := fun j => frozenHeap hR1 j
  have hs1 := hb1.size
  clear cA cP hA hP hR hb1
  cases q1 : paceB q with
  | false =>
    have HQ : Hid (hearR q p now = q) := Lib.hid (by unfold hearR hearOk; rw [q1]; rfl)
    clear q1
    go_wp2_with (fail)
    refine bodyPost_ret (results_cell_row rfl _ _ (w.heap.size + 1 + 1) 26 #[.int .i64 q.newest, .int .i64 q.their, .int .i64 q.at0, .int .i64 q.trip, .int .i64 q.samples] (0, 0) ?d ?hp ?hg ?hu ?hd ?hi) rfl ?_
    case hp => rfl
    case hg => exact boxPc_heap hR1 rfl ⟨q.newest, q.their, q.at0, q.trip, q.samples⟩
    case hu => exact Try.underlying26
    case hd => rfl
    case hi => kernel_rfl
    exact ⟨by rw [HQ.out], boxPc_below hb01 (by omega) ⟨q.newest, q.their, q.at0, q.trip, q.samples⟩⟩
  | true =>
  have Q1 := Lib.hid q1
  clear q1
  go_wp2_with (fail)
  refine (P2 (h0.keep hb01)).mono ?_
  rintro e w2 ⟨rfl, hb2⟩
  have hA2 := keepHeap hb2 hA1
  have hP2 := keepHeap hb2 hP1
  have hR2 := keepHeap hb2 hR1
  have hb02 := hb01.trans (hb2.mono hb01.size)
  have cA2 := rowCells hA2
  have cP2 := rowCells hP2
  have cR2 := rowCells hR2
  have fA2 := fun j => frozenHeap hA2 j
  have fR2 := fun j => frozenHeap hR2 j
  have hs2 := hb2.size
  clear cA1 cP1 cR1 fR1 hA1 hP1 hR1 hb2
  cases q2 : pktB p with
  | false =>
    have HQ : Hid (hearR q p now = q) := Lib.hid (by unfold hearR hearOk; rw [Q1.out, q2]; rfl)
    clear q2
    go_wp2_with (fail)
    refine bodyPost_ret (results_cell_row rfl _ _ (w.heap.size + 1 + 1) 26 #[.int .i64 q.newest, .int .i64 q.their, .int .i64 q.at0, .int .i64 q.trip, .int .i64 q.samples] (0, 0) ?d ?hp ?hg ?hu ?hd ?hi) rfl ?_
    case hp => rfl
    case hg => exact boxPc_heap hR2 rfl ⟨q.newest, q.their, q.at0, q.trip, q.samples⟩
    case hu => exact Try.underlying26
    case hd => rfl
    case hi => kernel_rfl
    exact ⟨by rw [HQ.out], boxPc_below hb02 (by omega) ⟨q.newest, q.their, q.at0, q.trip, q.samples⟩⟩
  | true =>
  obtain ⟨hx1, hx2, hx3⟩ := pktB_bounds q2
  have Q2 := Lib.hid q2
  clear q2
  go_wp2_with (fail)
  refine (within_impl _ _ _ _).mono ?_
  rintro e w3 ⟨rfl, rfl⟩
  cases q3 : inR now 0 1000000 with
  | false =>
    have HQ : Hid (hearR q p now = q) := Lib.hid (by unfold hearR hearOk; rw [Q1.out, Q2.out, q3]; rfl)
    clear q3
    go_wp2_with (fail)
    refine bodyPost_ret (results_cell_row rfl _ _ (w.heap.size + 1 + 1) 26 #[.int .i64 q.newest, .int .i64 q.their, .int .i64 q.at0, .int .i64 q.trip, .int .i64 q.samples] (0, 0) ?d ?hp ?hg ?hu ?hd ?hi) rfl ?_
    case hp => rfl
    case hg => exact boxPc_heap hR2 rfl ⟨q.newest, q.their, q.at0, q.trip, q.samples⟩
    case hu => exact Try.underlying26
    case hd => rfl
    case hi => kernel_rfl
    exact ⟨by rw [HQ.out], boxPc_below hb02 (by omega) ⟨q.newest, q.their, q.at0, q.trip, q.samples⟩⟩
  | true =>
  have hnow := (inR_iff _ _ _).1 q3
  have HK : Hid (hearOk q p now = true) := Lib.hid (by unfold hearOk; rw [Q1.out, Q2.out, q3]; rfl)
  have HN : Hid (paceB (newR q p now) = true) := Lib.hid (newR_range Q1.out hx1 hx2 hnow)
  obtain ⟨f1, f2, f3, f4, f5⟩ := paceB_facts Q1.out
  clear q3
  by_cases hq : q.newest < p.time + 1
  case neg =>
    have z4 : decide (q.newest < p.time + 1) = false := by simpa using hq
    have HE : Hid (newR q p now = ⟨q.newest, q.their, q.at0, q.trip, q.samples⟩) := Lib.hid (by unfold newR; rw [if_neg hq])
    by_cases he : 0 < p.echo
    case neg =>
      have z5 : decide (0 < p.echo) = false := by simpa using he
      have HQ : Hid (hearR q p now = ⟨q.newest, q.their, q.at0, q.trip, q.samples⟩) := Lib.hid (by unfold hearR; rw [if_pos HK.out, if_neg (by omega), HE.out])
      go_wp2_with (fail)
      refine bodyPost_ret (results_cell_row rfl _ _ (w.heap.size + 1 + 1) 26 #[.int .i64 q.newest, .int .i64 q.their, .int .i64 q.at0, .int .i64 q.trip, .int .i64 q.samples] (0, 0) ?d ?hp ?hg ?hu ?hd ?hi) rfl ?_
      case hp => rfl
      case hg => exact boxPc_heap hR2 rfl ⟨q.newest, q.their, q.at0, q.trip, q.samples⟩
      case hu => exact Try.underlying26
      case hd => rfl
      case hi => kernel_rfl
      exact ⟨by rw [HQ.out], boxPc_below hb02 (by omega) ⟨q.newest, q.their, q.at0, q.trip, q.samples⟩⟩
    have z5 : decide (0 < p.echo) = true := by simpa using he
    by_cases hn : p.echo - 1 ≤ now
    case neg =>
      have z6 : decide (p.echo - 1 ≤ now) = false := by simpa using hn
      have HQ : Hid (hearR q p now = ⟨q.newest, q.their, q.at0, q.trip, q.samples⟩) := Lib.hid (by unfold hearR; rw [if_pos HK.out, if_neg (by omega), HE.out])
      go_wp2_with (fail)
      refine bodyPost_ret (results_cell_row rfl _ _ (w.heap.size + 1 + 1) 26 #[.int .i64 q.newest, .int .i64 q.their, .int .i64 q.at0, .int .i64 q.trip, .int .i64 q.samples] (0, 0) ?d ?hp ?hg ?hu ?hd ?hi) rfl ?_
      case hp => rfl
      case hg => exact boxPc_heap hR2 rfl ⟨q.newest, q.their, q.at0, q.trip, q.samples⟩
      case hu => exact Try.underlying26
      case hd => rfl
      case hi => kernel_rfl
      exact ⟨by rw [HQ.out], boxPc_below hb02 (by omega) ⟨q.newest, q.their, q.at0, q.trip, q.samples⟩⟩
    have z6 : decide (p.echo - 1 ≤ now) = true := by simpa using hn
    have HQ : Hid (hearR q p now = sampR ⟨q.newest, q.their, q.at0, q.trip, q.samples⟩ (now - (p.echo - 1))) := Lib.hid (by unfold hearR; rw [if_pos HK.out, if_pos ⟨he, hn⟩, HE.out])
    have P3 := fun W => withSample_any ⟨q.newest, q.their, q.at0, q.trip, q.samples⟩ (now - (p.echo - 1)) (by omega) (by rw [← HE.out]; exact HN.out) W
    unfold pcV at P3
    generalize sampR ⟨q.newest, q.their, q.at0, q.trip, q.samples⟩ (now - (p.echo - 1)) = r at *
    clear HE HN HK
    go_wp2_with (fail)
    refine (P3 _).mono ?_
    rintro e w5 ⟨rfl, hb5⟩
    have hR5 := keepHeap hb5 hR2
    have hb05 := (hb02).trans (hb5.mono (hb02).size)
    have cR5 := rowCells hR5
    have fR5 := fun j => frozenHeap hR5 j
    go_wp2_with (fail)
    refine bodyPost_ret (results_cell_row rfl _ _ (w.heap.size + 1 + 1) 26 #[.int .i64 r.newest, .int .i64 r.their, .int .i64 r.at0, .int .i64 r.trip, .int .i64 r.samples] (0, 0) ?d ?hp ?hg ?hu ?hd ?hi) rfl ?_
    case hp => rfl
    case hg => exact boxPc_heap hR5 rfl ⟨r.newest, r.their, r.at0, r.trip, r.samples⟩
    case hu => exact Try.underlying26
    case hd => rfl
    case hi => kernel_rfl
    exact ⟨by rw [HQ.out], boxPc_below hb05 (by omega) ⟨r.newest, r.their, r.at0, r.trip, r.samples⟩⟩
  have z4 : decide (q.newest < p.time + 1) = true := by simpa using hq
  have HE : Hid (newR q p now = ⟨(p.time + 1), p.tick, now, q.trip, q.samples⟩) := Lib.hid (by unfold newR; rw [if_pos hq])
  have hA4 := setHPc (k := 2) (v := .int .i64 now) (setHPc (k := 1) (v := .int .i64 p.tick) (setHPc (k := 0) (v := .int .i64 (p.time + 1)) hA2))
  have hP4 := farHeap (p := ⟨w.heap.size, 2, none⟩) (farHeap (p := ⟨w.heap.size, 1, none⟩) (farHeap (p := ⟨w.heap.size, 0, none⟩) hP2 (by simp) (.int .i64 (p.time + 1))) (by simp) (.int .i64 p.tick)) (by simp) (.int .i64 now)
  have hR4 := farHeap (p := ⟨w.heap.size, 2, none⟩) (farHeap (p := ⟨w.heap.size, 1, none⟩) (farHeap (p := ⟨w.heap.size, 0, none⟩) hR2 (by simp; omega) (.int .i64 (p.time + 1))) (by simp; omega) (.int .i64 p.tick)) (by simp; omega) (.int .i64 now)
  have hb04 := (((hb02.setCell (p := ⟨w.heap.size, 0, none⟩) (by simp) (.int .i64 (p.time + 1))).setCell (p := ⟨w.heap.size, 1, none⟩) (by simp) (.int .i64 p.tick)).setCell (p := ⟨w.heap.size, 2, none⟩) (by simp) (.int .i64 now)).drew
  go_upto_region 4 with (fail)
  go_region
  obtain ⟨W4, hW4⟩ : ∃ W4, W4 = (((w2.setCell ⟨w.heap.size, 0, none⟩ (.int .i64 (p.time + 1))).setCell ⟨w.heap.size, 1, none⟩ (.int .i64 p.tick)).setCell ⟨w.heap.size, 2, none⟩ (.int .i64 now)).drew := ⟨_, rfl⟩
  rw [← hW4] at hb04 ⊢
  have hA4 : W4.heap[w.heap.size]? = some (.cells #[.int .i64 (p.time + 1), .int .i64 p.tick, .int .i64 now, .int .i64 q.trip, .int .i64 q.samples] 26 (0, 0)) := by rw [hW4]; exact hA4
  have hP4 : W4.heap[w.heap.size + 1]? = some (.cells #[.int .i64 p.fr, .int .i64 p.tick, .int .i64 p.first, (.slice ai p.ins.length ci), (.slice aa p.acks.length ca), .int .i64 p.sumTick, .int .i64 p.sum, .int .i64 p.time, .int .i64 p.echo] 31 (0, 0)) := by rw [hW4]; exact hP4
  have hR4 : W4.heap[w.heap.size + 1 + 1]? = some (.cells #[.int .i64 0, .int .i64 0, .int .i64 0, .int .i64 0, .int .i64 0] 26 (0, 0)) := by rw [hW4]; exact hR4
  clear hW4 cA2 cP2 cR2 fA2 fR2 hA2 hP2 hR2 hb02
  have cA4 := rowCells hA4
  have cP4 := rowCells hP4
  have cR4 := rowCells hR4
  have fA4 := fun j => frozenHeap hA4 j
  have fR4 := fun j => frozenHeap hR4 j
  by_cases he : 0 < p.echo
  case neg =>
    have z5 : decide (0 < p.echo) = false := by simpa using he
    have HQ : Hid (hearR q p now = ⟨(p.time + 1), p.tick, now, q.trip, q.samples⟩) := Lib.hid (by unfold hearR; rw [if_pos HK.out, if_neg (by omega), HE.out])
    go_wp2_with (fail)
    refine bodyPost_ret (results_cell_row rfl _ _ (w.heap.size + 1 + 1) 26 #[.int .i64 (p.time + 1), .int .i64 p.tick, .int .i64 now, .int .i64 q.trip, .int .i64 q.samples] (0, 0) ?d ?hp ?hg ?hu ?hd ?hi) rfl ?_
    case hp => rfl
    case hg => exact boxPc_heap hR4 rfl ⟨(p.time + 1), p.tick, now, q.trip, q.samples⟩
    case hu => exact Try.underlying26
    case hd => rfl
    case hi => kernel_rfl
    exact ⟨by rw [HQ.out], boxPc_below hb04 (by omega) ⟨(p.time + 1), p.tick, now, q.trip, q.samples⟩⟩
  have z5 : decide (0 < p.echo) = true := by simpa using he
  by_cases hn : p.echo - 1 ≤ now
  case neg =>
    have z6 : decide (p.echo - 1 ≤ now) = false := by simpa using hn
    have HQ : Hid (hearR q p now = ⟨(p.time + 1), p.tick, now, q.trip, q.samples⟩) := Lib.hid (by unfold hearR; rw [if_pos HK.out, if_neg (by omega), HE.out])
    go_wp2_with (fail)
    refine bodyPost_ret (results_cell_row rfl _ _ (w.heap.size + 1 + 1) 26 #[.int .i64 (p.time + 1), .int .i64 p.tick, .int .i64 now, .int .i64 q.trip, .int .i64 q.samples] (0, 0) ?d ?hp ?hg ?hu ?hd ?hi) rfl ?_
    case hp => rfl
    case hg => exact boxPc_heap hR4 rfl ⟨(p.time + 1), p.tick, now, q.trip, q.samples⟩
    case hu => exact Try.underlying26
    case hd => rfl
    case hi => kernel_rfl
    exact ⟨by rw [HQ.out], boxPc_below hb04 (by omega) ⟨(p.time + 1), p.tick, now, q.trip, q.samples⟩⟩
  have z6 : decide (p.echo - 1 ≤ now) = true := by simpa using hn
  have HQ : Hid (hearR q p now = sampR ⟨(p.time + 1), p.tick, now, q.trip, q.samples⟩ (now - (p.echo - 1))) := Lib.hid (by unfold hearR; rw [if_pos HK.out, if_pos ⟨he, hn⟩, HE.out])
  have P3 := fun W => withSample_any ⟨(p.time + 1), p.tick, now, q.trip, q.samples⟩ (now - (p.echo - 1)) (by omega) (by rw [← HE.out]; exact HN.out) W
  unfold pcV at P3
  generalize sampR ⟨(p.time + 1), p.tick, now, q.trip, q.samples⟩ (now - (p.echo - 1)) = r at *
  clear HE HN HK
  go_wp2_with (fail)
  refine (P3 _).mono ?_
  rintro e w5 ⟨rfl, hb5⟩
  have hR5 := keepHeap hb5 hR4
  have hb05 := (hb04).trans (hb5.mono (hb04).size)
  have cR5 := rowCells hR5
  have fR5 := fun j => frozenHeap hR5 j
  go_wp2_with (fail)
  refine bodyPost_ret (results_cell_row rfl _ _ (w.heap.size + 1 + 1) 26 #[.int .i64 r.newest, .int .i64 r.their, .int .i64 r.at0, .int .i64 r.trip, .int .i64 r.samples] (0, 0) ?d ?hp ?hg ?hu ?hd ?hi) rfl ?_
  case hp => rfl
  case hg => exact boxPc_heap hR5 rfl ⟨r.newest, r.their, r.at0, r.trip, r.samples⟩
  case hu => exact Try.underlying26
  case hd => rfl
  case hi => kernel_rfl
  exact ⟨by rw [HQ.out], boxPc_below hb05 (by omega) ⟨r.newest, r.their, r.at0, r.trip, r.samples⟩⟩

end Go.Proofs.Ytbjbamcpfjlllab
