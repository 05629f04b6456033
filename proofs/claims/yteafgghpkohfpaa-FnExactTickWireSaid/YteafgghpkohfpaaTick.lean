/-
  TickWire of the program and of the model. Lists of at most 2^20.
-/
import Derived.Test.YteafgghpkohfpaaCpy5
namespace Go.Proofs.Yteafgghpkohfpaa
open Go.RowKit
set_option linter.all false
def tickX (x : Wi) : Wi := if wireB x = true then { x with now := min (x.now + 1) 1000000 } else x
theorem tickX_end {x : Wi} (h : wireB x = true) (h2 : x.now = 1000000) : tickX x = x := by
  unfold tickX; rw [if_pos h, Int.min_eq_right (by omega), ← h2]
set_option maxRecDepth 100000 in
set_option maxHeartbeats 4000000 in
theorem tick_impl {w : World} {x : Wi} {vf : Value} (h : RdFl w vf x.fls) (hs : x.sane) (hn : x.fls.length ≤ 1048576) :
    Calls Try.prog 42 #[.agg (wiC x vf)] w (RetWi w (tickX x)) := by
  have h0 := h
  obtain ⟨al, cl, rfl, -⟩ := id h
  have P1 := fun {W : World} {v : Value} (h : RdFl W v x.fls) => copyWire_impl h hn
  have P2 := fun {W : World} {v : Value} (h : RdFl W v x.fls) => wireOk_impl h hs
  unfold RetWiG at P1
  unfold wiC at P1 P2 ⊢
  obtain ⟨W0, hW, hA, hR, hB0, hS0⟩ := rows2 w #[.int .i64 x.seed, .int .i64 x.delay, .int .i64 x.jitter, .int .i64 x.loss, .int .i64 x.copies, .int .i64 x.damage, .int .i64 x.now, .slice al x.fls.length cl, .int .i64 x.sent, .int .i64 x.lost] #[.int .i64 0, .int .i64 0, .int .i64 0, .int .i64 0, .int .i64 0, .int .i64 0, .int .i64 0, .slice none 0 0, .int .i64 0, .int .i64 0] 50 50
  have cA := rowCells hA
  go_enter Try.func42, Try.ntmps42
  go_wp2_with (fail)
  try rw [hW]
  clear hW
  refine (P1 (h0.keep hB0)).mono ?_
  rintro e w1 ⟨v1, rfl, ho1, hb1⟩
  have hcap := ho1.capd
  have hb01 := hB0.trans (hb1.mono (by omega))
  have hi1 := OwnFlIn.of ho1.own
  obtain ⟨a1, c1, rfl, -⟩ := id ho1.own
  have hs1 := hb1.size
  obtain ⟨W2, hW2, hX2, hb2⟩ : ∃ W, w1.alloc (.cells #[.int .i64 x.seed, .int .i64 x.delay, .int .i64 x.jitter, .int .i64 x.loss, .int .i64 x.copies, .int .i64 x.damage, .int .i64 x.now, .slice a1 x.fls.length c1, .int .i64 x.sent, .int .i64 x.lost] 50) = W ∧ W.heap[w1.heap.size]? = some (.cells #[.int .i64 x.seed, .int .i64 x.delay, .int .i64 x.jitter, .int .i64 x.loss, .int .i64 x.copies, .int .i64 x.damage, .int .i64 x.now, .slice a1 x.fls.length c1, .int .i64 x.sent, .int .i64 x.lost] 50 (0, 0)) ∧ Below w1.heap.size w1 W := ⟨_, rfl, heap_alloc_new _ _, below1 _ _⟩
  have hA2 := keepHeap (hb1.trans (hb2.mono hs1)) hA
  have hR2 := keepHeap (hb1.trans (hb2.mono hs1)) hR
  have hb02 := hb01.trans (hb2.mono (by omega))
  have hi2 := hi1.keep hb2
  have cA2 := rowCells hA2
  have r2 := h0.keep hb02
  clear cA hA hR ho1 hb01
  go_wp2_with (fail)
  try rw [hW2]
  clear hW2
  refine (P2 r2).mono ?_
  rintro e w3 ⟨rfl, hb3⟩
  have hA3 := keepHeap hb3 hA2
  have hR3 := keepHeap hb3 hR2
  have hX3 := keepHeap hb3 hX2
  have hb03 := hb02.trans (hb3.mono hb02.size)
  have hi3 := hi2.keep hb3
  have cA3 := rowCells hA3
  have cX3 := rowCells hX3
  have cR3 := rowCells hR3
  have fX3 := fun j => frozenHeap hX3 j
  have fR3 := fun j => frozenHeap hR3 j
  clear cA2 hA2 hR2 hX2 hb02 r2 hi2 hi1
  cases q : wireB x with
  | false =>
    have HQ : Hid (tickX x = x) := Lib.hid (by unfold tickX; rw [q]; rfl)
    clear q
    go_wp2_with (fail)
    have hP := putWi_heap hR3 rfl x (.slice a1 x.fls.length c1)
    have hbP := putWi_below hb03 (c := w.heap.size + 1) (by omega) x (.slice a1 x.fls.length c1)
    have hoP := OwnFlIn.put (c := w.heap.size + 1) hi3 (.inl (by omega)) x (.slice a1 x.fls.length c1)
    unfold putWi at hP hbP hoP
    refine bodyPost_ret (results_cell_row rfl _ _ (w.heap.size + 1) 50 (wiC x (.slice a1 x.fls.length c1)) (0, 0) ?d ?hp ?hg ?hu ?hd ?hi) rfl ?_
    case hp => rfl
    case hg => exact hP
    case hu => exact Try.underlying50
    case hd => rfl
    case hi => kernel_rfl
    refine ⟨.slice a1 x.fls.length c1, by rw [HQ.out], ?_, hcap, hbP⟩
    rw [HQ.out]
    exact hoP.own.up (by omega)
  | true =>
  have hx7 := (wireB_facts q).2.2.2.2.2.2.2.2.1
  by_cases hm : x.now < 1000000
  · have HQ : Hid (tickX x = { x with now := x.now + 1 }) := Lib.hid (by unfold tickX; rw [if_pos q, Int.min_eq_left (by omega)])
    have e6 : min (x.now + 1) 1000000 = x.now + 1 := Int.min_eq_left (by omega)
    clear q
    have hX4 := setHf (k := 6) (v := .int .i64 (x.now + 1)) hX3
    have hR4 := farHeap (p := ⟨w1.heap.size, 6, none⟩) hR3 (by simp; omega) (.int .i64 (x.now + 1))
    have hb04 := hb03.setCell (p := ⟨w1.heap.size, 6, none⟩) (by simp; omega) (.int .i64 (x.now + 1))
    have hi4 := hi3.set (p := ⟨w1.heap.size, 6, none⟩) (.inr (Nat.le_refl _)) (.int .i64 (x.now + 1))
    go_upto_region 4 with (fail)
    obtain ⟨W4, hW4⟩ : ∃ W4, W4 = w3.setCell ⟨w1.heap.size, 6, none⟩ (.int .i64 (x.now + 1)) := ⟨_, rfl⟩
    try rw [← hW4]
    rw [← hW4] at hX4 hR4 hb04 hi4
    have hX4 : W4.heap[w1.heap.size]? = some (.cells #[.int .i64 x.seed, .int .i64 x.delay, .int .i64 x.jitter, .int .i64 x.loss, .int .i64 x.copies, .int .i64 x.damage, .int .i64 (x.now + 1), .slice a1 x.fls.length c1, .int .i64 x.sent, .int .i64 x.lost] 50 (0, 0)) := hX4
    clear hW4 cA3 cX3 cR3 fX3 fR3
    have cX4 := rowCells hX4
    have cR4 := rowCells hR4
    have fR4 := fun j => frozenHeap hR4 j
    go_wp2_with (fail)
    have hP := putWi_heap hR4 rfl { x with now := (x.now + 1) } (.slice a1 x.fls.length c1)
    have hbP := putWi_below hb04 (c := w.heap.size + 1) (by omega) { x with now := (x.now + 1) } (.slice a1 x.fls.length c1)
    have hoP := OwnFlIn.put (c := w.heap.size + 1) hi4 (.inl (by omega)) { x with now := (x.now + 1) } (.slice a1 x.fls.length c1)
    unfold putWi at hP hbP hoP
    refine bodyPost_ret (results_cell_row rfl _ _ (w.heap.size + 1) 50 (wiC { x with now := (x.now + 1) } (.slice a1 x.fls.length c1)) (0, 0) ?d ?hp ?hg ?hu ?hd ?hi) rfl ?_
    case hp => rfl
    case hg => exact hP
    case hu => exact Try.underlying50
    case hd => rfl
    case hi => kernel_rfl
    refine ⟨.slice a1 x.fls.length c1, by rw [HQ.out], ?_, hcap, hbP⟩
    rw [HQ.out]
    exact hoP.own.up (by omega)
  · have HQ : Hid (tickX x = { x with now := 1000000 }) := Lib.hid (by unfold tickX; rw [if_pos q, Int.min_eq_right (by omega)])
    have e6 : min (x.now + 1) 1000000 = 1000000 := Int.min_eq_right (by omega)
    clear q
    have hX4 := setHf (k := 6) (v := .int .i64 1000000) hX3
    have hR4 := farHeap (p := ⟨w1.heap.size, 6, none⟩) hR3 (by simp; omega) (.int .i64 1000000)
    have hb04 := hb03.setCell (p := ⟨w1.heap.size, 6, none⟩) (by simp; omega) (.int .i64 1000000)
    have hi4 := hi3.set (p := ⟨w1.heap.size, 6, none⟩) (.inr (Nat.le_refl _)) (.int .i64 1000000)
    go_upto_region 4 with (fail)
    obtain ⟨W4, hW4⟩ : ∃ W4, W4 = w3.setCell ⟨w1.heap.size, 6, none⟩ (.int .i64 1000000) := ⟨_, rfl⟩
    try rw [← hW4]
    rw [← hW4] at hX4 hR4 hb04 hi4
    have hX4 : W4.heap[w1.heap.size]? = some (.cells #[.int .i64 x.seed, .int .i64 x.delay, .int .i64 x.jitter, .int .i64 x.loss, .int .i64 x.copies, .int .i64 x.damage, .int .i64 1000000, .slice a1 x.fls.length c1, .int .i64 x.sent, .int .i64 x.lost] 50 (0, 0)) := hX4
    clear hW4 cA3 cX3 cR3 fX3 fR3
    have cX4 := rowCells hX4
    have cR4 := rowCells hR4
    have fR4 := fun j => frozenHeap hR4 j
    go_wp2_with (fail)
    have hP := putWi_heap hR4 rfl { x with now := 1000000 } (.slice a1 x.fls.length c1)
    have hbP := putWi_below hb04 (c := w.heap.size + 1) (by omega) { x with now := 1000000 } (.slice a1 x.fls.length c1)
    have hoP := OwnFlIn.put (c := w.heap.size + 1) hi4 (.inl (by omega)) { x with now := 1000000 } (.slice a1 x.fls.length c1)
    unfold putWi at hP hbP hoP
    refine bodyPost_ret (results_cell_row rfl _ _ (w.heap.size + 1) 50 (wiC { x with now := 1000000 } (.slice a1 x.fls.length c1)) (0, 0) ?d ?hp ?hg ?hu ?hd ?hi) rfl ?_
    case hp => rfl
    case hg => exact hP
    case hu => exact Try.underlying50
    case hd => rfl
    case hi => kernel_rfl
    refine ⟨.slice a1 x.fls.length c1, by rw [HQ.out], ?_, hcap, hbP⟩
    rw [HQ.out]
    exact hoP.own.up (by omega)
set_option maxRecDepth 100000 in
set_option maxHeartbeats 4000000 in
theorem tick_spec {w : World} {x : Wi} {vf : Value} (h : RdFl w vf x.fls) (hs : x.sane) (hn : x.fls.length ≤ 1048576) :
    Calls Try.prog 41 #[.agg (wiC x vf)] w (RetWi w (tickX x)) := by
  have h0 := h
  obtain ⟨al, cl, rfl, -⟩ := id h
  have P1 := fun {W : World} {v : Value} (h : RdFl W v x.fls) => copyWire_spec h hn
  have P2 := fun {W : World} {v : Value} (h : RdFl W v x.fls) => wireOk_spec h hs
  unfold RetWiG at P1
  unfold wiC at P1 P2 ⊢
  obtain ⟨W0, hW, hA, hR, hB0, hS0⟩ := rows2 w #[.int .i64 x.seed, .int .i64 x.delay, .int .i64 x.jitter, .int .i64 x.loss, .int .i64 x.copies, .int .i64 x.damage, .int .i64 x.now, .slice al x.fls.length cl, .int .i64 x.sent, .int .i64 x.lost] #[.int .i64 0, .int .i64 0, .int .i64 0, .int .i64 0, .int .i64 0, .int .i64 0, .int .i64 0, .slice none 0 0, .int .i64 0, .int .i64 0] 50 50
  have cA := rowCells hA
  go_enter Try.func41, Try.ntmps41
  go_wp2_with (fail)
  try rw [hW]
  clear hW
  refine (P1 (h0.keep hB0)).mono ?_
  rintro e w1 ⟨v1, rfl, ho1, hb1⟩
  have hcap := ho1.capd
  have hb01 := hB0.trans (hb1.mono (by omega))
  have hi1 := OwnFlIn.of ho1.own
  obtain ⟨a1, c1, rfl, -⟩ := id ho1.own
  have hs1 := hb1.size
  obtain ⟨W2, hW2, hX2, hb2⟩ : ∃ W, w1.alloc (.cells #[.int .i64 x.seed, .int .i64 x.delay, .int .i64 x.jitter, .int .i64 x.loss, .int .i64 x.copies, .int .i64 x.damage, .int .i64 x.now, .slice a1 x.fls.length c1, .int .i64 x.sent, .int .i64 x.lost] 50) = W ∧ W.heap[w1.heap.size]? = some (.cells #[.int .i64 x.seed, .int .i64 x.delay, .int .i64 x.jitter, .int .i64 x.loss, .int .i64 x.copies, .int .i64 x.damage, .int .i64 x.now, .slice a1 x.fls.length c1, .int .i64 x.sent, .int .i64 x.lost] 50 (0, 0)) ∧ Below w1.heap.size w1 W := ⟨_, rfl, heap_alloc_new _ _, below1 _ _⟩
  have hA2 := keepHeap (hb1.trans (hb2.mono hs1)) hA
  have hR2 := keepHeap (hb1.trans (hb2.mono hs1)) hR
  have hb02 := hb01.trans (hb2.mono (by omega))
  have hi2 := hi1.keep hb2
  have cA2 := rowCells hA2
  have r2 := h0.keep hb02
  clear cA hA hR ho1 hb01
  go_wp2_with (fail)
  try rw [hW2]
  clear hW2
  refine (P2 r2).mono ?_
  rintro e w3 ⟨rfl, hb3⟩
  have hA3 := keepHeap hb3 hA2
  have hR3 := keepHeap hb3 hR2
  have hX3 := keepHeap hb3 hX2
  have hb03 := hb02.trans (hb3.mono hb02.size)
  have hi3 := hi2.keep hb3
  have cA3 := rowCells hA3
  have cX3 := rowCells hX3
  have cR3 := rowCells hR3
  have fX3 := fun j => frozenHeap hX3 j
  have fR3 := fun j => frozenHeap hR3 j
  clear cA2 hA2 hR2 hX2 hb02 r2 hi2 hi1
  cases q : wireB x with
  | false =>
    have HQ : Hid (tickX x = x) := Lib.hid (by unfold tickX; rw [q]; rfl)
    clear q
    go_wp2_with (fail)
    have hP := putWi_heap hR3 rfl x (.slice a1 x.fls.length c1)
    have hbP := putWi_below hb03 (c := w.heap.size + 1) (by omega) x (.slice a1 x.fls.length c1)
    have hoP := OwnFlIn.put (c := w.heap.size + 1) hi3 (.inl (by omega)) x (.slice a1 x.fls.length c1)
    unfold putWi at hP hbP hoP
    refine bodyPost_ret (results_cell_row rfl _ _ (w.heap.size + 1) 50 (wiC x (.slice a1 x.fls.length c1)) (0, 0) ?d ?hp ?hg ?hu ?hd ?hi) rfl ?_
    case hp => rfl
    case hg => exact hP
    case hu => exact Try.underlying50
    case hd => rfl
    case hi => kernel_rfl
    refine ⟨.slice a1 x.fls.length c1, by rw [HQ.out], ?_, hcap, hbP⟩
    rw [HQ.out]
    exact hoP.own.up (by omega)
  | true =>
  have hx7 := (wireB_facts q).2.2.2.2.2.2.2.2.1
  by_cases hm : x.now < 1000000
  · have HQ : Hid (tickX x = { x with now := x.now + 1 }) := Lib.hid (by unfold tickX; rw [if_pos q, Int.min_eq_left (by omega)])
    have z6 : decide (x.now < 1000000) = true := by simpa using hm
    clear q
    have hX4 := setHf (k := 6) (v := .int .i64 (x.now + 1)) hX3
    have hR4 := farHeap (p := ⟨w1.heap.size, 6, none⟩) hR3 (by simp; omega) (.int .i64 (x.now + 1))
    have hb04 := hb03.setCell (p := ⟨w1.heap.size, 6, none⟩) (by simp; omega) (.int .i64 (x.now + 1))
    have hi4 := hi3.set (p := ⟨w1.heap.size, 6, none⟩) (.inr (Nat.le_refl _)) (.int .i64 (x.now + 1))
    go_upto_region 4 with (fail)
    obtain ⟨W4, hW4⟩ : ∃ W4, W4 = w3.setCell ⟨w1.heap.size, 6, none⟩ (.int .i64 (x.now + 1)) := ⟨_, rfl⟩
    try rw [← hW4]
    rw [← hW4] at hX4 hR4 hb04 hi4
    have hX4 : W4.heap[w1.heap.size]? = some (.cells #[.int .i64 x.seed, .int .i64 x.delay, .int .i64 x.jitter, .int .i64 x.loss, .int .i64 x.copies, .int .i64 x.damage, .int .i64 (x.now + 1), .slice a1 x.fls.length c1, .int .i64 x.sent, .int .i64 x.lost] 50 (0, 0)) := hX4
    clear hW4 cA3 cX3 cR3 fX3 fR3
    have cX4 := rowCells hX4
    have cR4 := rowCells hR4
    have fR4 := fun j => frozenHeap hR4 j
    go_wp2_with (fail)
    have hP := putWi_heap hR4 rfl { x with now := (x.now + 1) } (.slice a1 x.fls.length c1)
    have hbP := putWi_below hb04 (c := w.heap.size + 1) (by omega) { x with now := (x.now + 1) } (.slice a1 x.fls.length c1)
    have hoP := OwnFlIn.put (c := w.heap.size + 1) hi4 (.inl (by omega)) { x with now := (x.now + 1) } (.slice a1 x.fls.length c1)
    unfold putWi at hP hbP hoP
    refine bodyPost_ret (results_cell_row rfl _ _ (w.heap.size + 1) 50 (wiC { x with now := (x.now + 1) } (.slice a1 x.fls.length c1)) (0, 0) ?d ?hp ?hg ?hu ?hd ?hi) rfl ?_
    case hp => rfl
    case hg => exact hP
    case hu => exact Try.underlying50
    case hd => rfl
    case hi => kernel_rfl
    refine ⟨.slice a1 x.fls.length c1, by rw [HQ.out], ?_, hcap, hbP⟩
    rw [HQ.out]
    exact hoP.own.up (by omega)
  · have HQ : Hid (tickX x = x) := Lib.hid (tickX_end q (by omega))
    have z6 : decide (x.now < 1000000) = false := by simpa using hm
    clear q
    go_wp2_with (fail)
    have hP := putWi_heap hR3 rfl x (.slice a1 x.fls.length c1)
    have hbP := putWi_below hb03 (c := w.heap.size + 1) (by omega) x (.slice a1 x.fls.length c1)
    have hoP := OwnFlIn.put (c := w.heap.size + 1) hi3 (.inl (by omega)) x (.slice a1 x.fls.length c1)
    unfold putWi at hP hbP hoP
    refine bodyPost_ret (results_cell_row rfl _ _ (w.heap.size + 1) 50 (wiC x (.slice a1 x.fls.length c1)) (0, 0) ?d ?hp ?hg ?hu ?hd ?hi) rfl ?_
    case hp => rfl
    case hg => exact hP
    case hu => exact Try.underlying50
    case hd => rfl
    case hi => kernel_rfl
    refine ⟨.slice a1 x.fls.length c1, by rw [HQ.out], ?_, hcap, hbP⟩
    rw [HQ.out]
    exact hoP.own.up (by omega)
end Go.Proofs.Yteafgghpkohfpaa
