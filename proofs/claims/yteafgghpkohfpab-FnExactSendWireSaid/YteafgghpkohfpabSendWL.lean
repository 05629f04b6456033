/-
  The law on SendWire. No condition.
-/
import Derived.Test.YteafgghpkohfpabSendS
namespace Go.Proofs.Yteafgghpkohfpab
open Go.RowKit
set_option linter.all false
theorem launchX_data {x : Wi} {d : List UInt8} (h : ∀ f ∈ x.fls, f.data.length ≤ 1048576) (hd : d.length ≤ 1048576) : ∀ f ∈ (launchX x d).fls, f.data.length ≤ 1048576 := by
  unfold launchX; split
  · exact h
  · intro f hf
    rcases List.mem_append.1 hf with hf | hf
    · exact h f hf
    · rw [List.mem_singleton.1 hf]; show (lchD x d).2.length ≤ 1048576; rw [lchD_len]; exact hd
theorem sendX_few {x : Wi} {d : List UInt8} (h : x.few) (hd : d.length ≤ 1048576) : (sendX x d).few := by
  unfold sendX
  by_cases hk : sendOk x d = true
  · rw [if_pos hk]
    have hw : wireB x = true := by unfold sendOk at hk; simp only [Bool.and_eq_true] at hk; exact hk.1
    have hs := Wi.sound_of hw
    have hs2 : (s2X x).sound := hs
    have hf2 : ∀ f ∈ (s2X x).fls, f.data.length ≤ 1048576 := h.2
    split
    · exact h
    · split
      · exact ⟨Nat.le_trans (launchX_sound (launchX_sound hs2 d) d).2.2.2.2 (by omega), launchX_data (launchX_data hf2 hd) hd⟩
      · exact ⟨Nat.le_trans (launchX_sound hs2 d).2.2.2.2 (by omega), launchX_data hf2 hd⟩
  · rw [if_neg hk]; exact h
set_option maxRecDepth 100000 in
set_option maxHeartbeats 8000000 in
theorem lawSendWire {w : World} (x : Wi) (vf : Value) (h : RdFl w vf x.fls) (hs : x.sane) (s : ByteArray) (hd : s.size ≤ maxLen) :
    Calls Try.prog 6 #[.agg (wiC x vf), .string s] w fun e w' => e = .returned (.bool true) ∧ Below w.heap.size w w' := by
  have h0 := h
  obtain ⟨al, cl, rfl, -⟩ := id h
  obtain ⟨w_1, hW, A_1, q0_1, -⟩ := rows1 w #[Value.int .i64 x.seed, .int .i64 x.delay, .int .i64 x.jitter, .int .i64 x.loss, .int .i64 x.copies, .int .i64 x.damage, .int .i64 x.now, .slice al x.fls.length cl, .int .i64 x.sent, .int .i64 x.lost] 48
  have sz_1 := q0_1.size
  unfold wiC
  unfold maxLen at hd
  obtain ⟨dd, rfl⟩ : ∃ l : List UInt8, s = ⟨l.toArray⟩ := ⟨s.data.toList, rfl⟩
  have hd1 : dd.length ≤ 9223372036854775807 := hd
  clear hd
  by_cases hd2 : 1048576 < dd.length
  · go_enter Try.func6, Try.ntmps6
    go_wp2_with (fail)
    go_ret
    refine ⟨rfl, ?_⟩
    try rw [hW]
    exact q0_1
  have hd3 : dd.length ≤ 1048576 := by omega
  go_enter Try.func6, Try.ntmps6
  have cA_1 := rowCells A_1
  go_wp2_with (fail)
  try rw [hW]
  clear hW
  refine (szWire_any (h0.keep q0_1) hs 1048576 (by omega) (by omega)).mono ?_
  rintro e w_2 ⟨r, rfl, hr, hb_2⟩
  have q0_2 := q0_1.trans (hb_2.mono q0_1.size)
  have A_2 := keepHeap hb_2 A_1
  have sz_2 := hb_2.size
  clear q0_1 A_1 cA_1
  clear hb_2
  rcases hr with rfl | ⟨hr0, hn⟩
  · go_wp2_with (fail)
    go_ret
    exact ⟨rfl, q0_2⟩
  have zr : decide (r < 0) = false := by simpa using hr0
  have hto := fun {W : World} {vf : Value} (h1 : RdFl W vf x.fls) => toWire_any h1 hn
  have hspec := fun {W : World} {vf : Value} (h1 : RdFl W vf x.fls) => send_spec h1 hs hn.1 dd hd3
  have himpl := fun {W : World} {vf : Value} (h1 : RdFl W vf x.fls) => send_impl h1 hs hn.1 dd hd3
  have hfy : (sendX x dd).few := sendX_few hn hd3
  generalize sendX x dd = y at hspec himpl hfy
  have heqx := fun {W : World} {v v' : Value} (h1 : RdFl W v x.fls) (h2 : RdFl W v' x.fls) => eqWire_same h1 h2 hn
  have heq := fun {W : World} {v v' : Value} (h1 : RdFl W v y.fls) (h2 : RdFl W v' y.fls) => eqWire_same h1 h2 hfy
  have hmx := fun {W : World} {lo hi : Nat} {v : Value} (h1 : OwnFlIn W lo hi v x.fls) (h2 : lo ≤ W.heap.size) => markWire_far h1 h2 hn.1 1 (by omega) (by omega)
  have hmk := fun {W : World} {lo hi : Nat} {v : Value} (h1 : OwnFlIn W lo hi v y.fls) (h2 : lo ≤ W.heap.size) => markWire_far h1 h2 hfy.1 1 (by omega) (by omega)
  have hhd := fun {W : World} {v : Value} (h1 : RdFl W v (y.marked 1)) => heldWire_any y 1 h1 hfy.1 (by omega) (by omega)
  rw [show ((1 : Nat) : Int) = 1 from rfl] at hmx hmk hhd
  unfold RetWi at hto hspec himpl
  unfold wiC at hto hspec himpl heqx heq hmx hmk hhd
  generalize 1 + 2 * x.fls.length = mX at hmx
  generalize 1 + 2 * y.fls.length = mN at hmk hhd
  have zX : decide ((mX : Int) < 0) = false := by simp
  have zN : decide ((mN : Int) < 0) = false := by simp
  have cA_2 := rowCells A_2
  go_wp2_with (fail)
  refine (hto (h0.keep q0_2)).mono ?_
  rintro e w_3 ⟨vf1, rfl, o1, k1, hb_3⟩
  have q0_3 := q0_2.trans (hb_3.mono q0_2.size)
  have A_3 := keepHeap hb_3 A_2
  have sz_3 := hb_3.size
  clear q0_2 A_2 cA_2
  clear hb_3
  have qT1_3 : Below w_3.heap.size w_3 w_3 := Below.refl _ _
  have rd1 := o1.rd
  obtain ⟨a1, c1, rfl, -⟩ := id rd1
  clear rd1
  have cA_3 := rowCells A_3
  go_wp2_with (fail)
  refine (hspec (o1.rd.keep qT1_3)).mono ?_
  rintro e w_4 ⟨vfP, rfl, oP, kP, hb_4⟩
  have q0_4 := q0_3.trans (hb_4.mono q0_3.size)
  have qT1_4 := qT1_3.trans (hb_4.mono qT1_3.size)
  have A_4 := keepHeap hb_4 A_3
  have sz_4 := hb_4.size
  clear q0_3 qT1_3 A_3 cA_3
  clear hb_4
  have qSP_4 : Below w_4.heap.size w_4 w_4 := Below.refl _ _
  have rdP := oP.rd
  obtain ⟨aP, cP, rfl, -⟩ := id rdP
  clear rdP
  clear o1 k1 kP qT1_4
  obtain ⟨w_5, hw_5, P_5, hb_5⟩ : ∃ W, w_4.alloc (.cells #[Value.int .i64 y.seed, .int .i64 y.delay, .int .i64 y.jitter, .int .i64 y.loss, .int .i64 y.copies, .int .i64 y.damage, .int .i64 y.now, .slice aP y.fls.length cP, .int .i64 y.sent, .int .i64 y.lost] 52) = W ∧ W.heap[w_4.heap.size]? = some (.cells #[Value.int .i64 y.seed, .int .i64 y.delay, .int .i64 y.jitter, .int .i64 y.loss, .int .i64 y.copies, .int .i64 y.damage, .int .i64 y.now, .slice aP y.fls.length cP, .int .i64 y.sent, .int .i64 y.lost] 52 (0, 0)) ∧ Below w_4.heap.size w_4 W := ⟨_, rfl, heap_alloc_new _ _, below1 _ _⟩
  have q0_5 := q0_4.trans (hb_5.mono q0_4.size)
  have qSP_5 := qSP_4.trans (hb_5.mono qSP_4.size)
  have A_5 := keepHeap hb_5 A_4
  have sz_5 := hb_5.size
  clear q0_4 qSP_4 A_4
  clear hb_5
  have ltP : w_4.heap.size < w_5.heap.size := blockLt P_5
  have cA_5 := rowCells A_5
  have cP_5 := rowCells P_5
  go_wp2_with (fail)
  try rw [hw_5]
  clear hw_5
  refine (hto (h0.keep q0_5)).mono ?_
  rintro e w_6 ⟨vfx, rfl, ox, kx, hb_6⟩
  have q0_6 := q0_5.trans (hb_6.mono q0_5.size)
  have qSP_6 := qSP_5.trans (hb_6.mono qSP_5.size)
  have A_6 := keepHeap hb_6 A_5
  have P_6 := keepHeap hb_6 P_5
  have sz_6 := hb_6.size
  clear q0_5 qSP_5 A_5 P_5 cA_5 cP_5
  clear hb_6
  have qTx_6 : Below w_6.heap.size w_6 w_6 := Below.refl _ _
  have rdx := ox.rd
  obtain ⟨ax, cx, rfl, -⟩ := id rdx
  clear rdx
  obtain ⟨w_7, hw_7, X_7, hb_7⟩ : ∃ W, w_6.alloc (.cells #[Value.int .i64 x.seed, .int .i64 x.delay, .int .i64 x.jitter, .int .i64 x.loss, .int .i64 x.copies, .int .i64 x.damage, .int .i64 x.now, .slice ax x.fls.length cx, .int .i64 x.sent, .int .i64 x.lost] 52) = W ∧ W.heap[w_6.heap.size]? = some (.cells #[Value.int .i64 x.seed, .int .i64 x.delay, .int .i64 x.jitter, .int .i64 x.loss, .int .i64 x.copies, .int .i64 x.damage, .int .i64 x.now, .slice ax x.fls.length cx, .int .i64 x.sent, .int .i64 x.lost] 52 (0, 0)) ∧ Below w_6.heap.size w_6 W := ⟨_, rfl, heap_alloc_new _ _, below1 _ _⟩
  have q0_7 := q0_6.trans (hb_7.mono q0_6.size)
  have qSP_7 := qSP_6.trans (hb_7.mono qSP_6.size)
  have qTx_7 := qTx_6.trans (hb_7.mono qTx_6.size)
  have A_7 := keepHeap hb_7 A_6
  have P_7 := keepHeap hb_7 P_6
  have sz_7 := hb_7.size
  clear q0_6 qSP_6 qTx_6 A_6 P_6
  clear hb_7
  have ltX : w_6.heap.size < w_7.heap.size := blockLt X_7
  have cA_7 := rowCells A_7
  have cP_7 := rowCells P_7
  have cX_7 := rowCells X_7
  go_wp2_with (fail)
  try rw [hw_7]
  clear hw_7
  refine (himpl (ox.rd.keep qTx_7)).mono ?_
  rintro e w_8 ⟨vfG, rfl, oG, kG, hb_8⟩
  have q0_8 := q0_7.trans (hb_8.mono q0_7.size)
  have qSP_8 := qSP_7.trans (hb_8.mono qSP_7.size)
  have qTx_8 := qTx_7.trans (hb_8.mono qTx_7.size)
  have A_8 := keepHeap hb_8 A_7
  have P_8 := keepHeap hb_8 P_7
  have X_8 := keepHeap hb_8 X_7
  have sz_8 := hb_8.size
  clear q0_7 qSP_7 qTx_7 A_7 P_7 X_7 cA_7 cP_7 cX_7
  clear hb_8
  have qSG_8 : Below w_8.heap.size w_8 w_8 := Below.refl _ _
  have rdG := oG.rd
  obtain ⟨aG, cG, rfl, -⟩ := id rdG
  clear rdG
  obtain ⟨w_9, hw_9, G_9, hb_9⟩ : ∃ W, w_8.alloc (.cells #[Value.int .i64 y.seed, .int .i64 y.delay, .int .i64 y.jitter, .int .i64 y.loss, .int .i64 y.copies, .int .i64 y.damage, .int .i64 y.now, .slice aG y.fls.length cG, .int .i64 y.sent, .int .i64 y.lost] 52) = W ∧ W.heap[w_8.heap.size]? = some (.cells #[Value.int .i64 y.seed, .int .i64 y.delay, .int .i64 y.jitter, .int .i64 y.loss, .int .i64 y.copies, .int .i64 y.damage, .int .i64 y.now, .slice aG y.fls.length cG, .int .i64 y.sent, .int .i64 y.lost] 52 (0, 0)) ∧ Below w_8.heap.size w_8 W := ⟨_, rfl, heap_alloc_new _ _, below1 _ _⟩
  have q0_9 := q0_8.trans (hb_9.mono q0_8.size)
  have qSP_9 := qSP_8.trans (hb_9.mono qSP_8.size)
  have qTx_9 := qTx_8.trans (hb_9.mono qTx_8.size)
  have qSG_9 := qSG_8.trans (hb_9.mono qSG_8.size)
  have A_9 := keepHeap hb_9 A_8
  have P_9 := keepHeap hb_9 P_8
  have X_9 := keepHeap hb_9 X_8
  have sz_9 := hb_9.size
  clear q0_8 qSP_8 qTx_8 qSG_8 A_8 P_8 X_8
  clear hb_9
  have ltG : w_8.heap.size < w_9.heap.size := blockLt G_9
  have cA_9 := rowCells A_9
  have cP_9 := rowCells P_9
  have cX_9 := rowCells X_9
  have cG_9 := rowCells G_9
  go_wp2_with (fail)
  try rw [hw_9]
  clear hw_9
  refine (heq (oG.rd.keep qSG_9) (oP.rd.keep qSP_9)).mono ?_
  rintro e w_10 ⟨rfl, hb_10⟩
  have q0_10 := q0_9.trans (hb_10.mono q0_9.size)
  have qSP_10 := qSP_9.trans (hb_10.mono qSP_9.size)
  have qTx_10 := qTx_9.trans (hb_10.mono qTx_9.size)
  have qSG_10 := qSG_9.trans (hb_10.mono qSG_9.size)
  have A_10 := keepHeap hb_10 A_9
  have P_10 := keepHeap hb_10 P_9
  have X_10 := keepHeap hb_10 X_9
  have G_10 := keepHeap hb_10 G_9
  have sz_10 := hb_10.size
  clear q0_9 qSP_9 qTx_9 qSG_9 A_9 P_9 X_9 G_9 cA_9 cP_9 cX_9 cG_9
  clear hb_10
  have cA_10 := rowCells A_10
  have cP_10 := rowCells P_10
  have cX_10 := rowCells X_10
  have cG_10 := rowCells G_10
  go_wp2_with (fail)
  have ra := (h0.keep q0_10)
  have rx := (ox.rd.keep qTx_10)
  go_region_held3 (fun w' => (∀ j, w'.cell? ⟨w.heap.size, j, none⟩ = #[Value.int .i64 x.seed, .int .i64 x.delay, .int .i64 x.jitter, .int .i64 x.loss, .int .i64 x.copies, .int .i64 x.damage, .int .i64 x.now, .slice al x.fls.length cl, .int .i64 x.sent, .int .i64 x.lost][j]?) ∧ (∀ j, w'.cell? ⟨w_6.heap.size, j, none⟩ = #[Value.int .i64 x.seed, .int .i64 x.delay, .int .i64 x.jitter, .int .i64 x.loss, .int .i64 x.copies, .int .i64 x.damage, .int .i64 x.now, .slice ax x.fls.length cx, .int .i64 x.sent, .int .i64 x.lost][j]?)) (first | go_keep | (exact ⟨cA8, cX8⟩) | exact ⟨cA9, cX9⟩)
    (first
    | (go_at_call 26; refine (hto (RdFl.keep ra (belowDrew _ 1))).mono ?_; rintro e w8 ⟨vf8, rfl, o8, -, hb8⟩; have hA8 := keepHeap hb8 (keepHeap (belowDrew _ 1) A_10); have hX8 := keepHeap hb8 (keepHeap (belowDrew _ 1) X_10); have cA8 := rowCells hA8; have cX8 := rowCells hX8; have rd8 := o8.rd; obtain ⟨al8, cl8, rfl, -⟩ := id rd8; have rdx8 := (RdFl.keep rx (belowDrew _ 1)).keep hb8; have hb18 := (belowDrew w_10 1).trans (hb8.mono (by simp)))
    | (go_at_call 28; refine (heqx rdx8 rd8).mono ?_; rintro e w9 ⟨rfl, hb9⟩; have cA9 := rowCells (keepHeap hb9 hA8); have cX9 := rowCells (keepHeap hb9 hX8); have hb19 := hb18.trans (hb9.mono hb18.size)))
  clear ra rx
  have q0_11 := q0_10.trans (hb19.mono q0_10.size)
  have qSP_11 := qSP_10.trans (hb19.mono qSP_10.size)
  have qTx_11 := qTx_10.trans (hb19.mono qTx_10.size)
  have qSG_11 := qSG_10.trans (hb19.mono qSG_10.size)
  have A_11 := keepHeap hb19 A_10
  have P_11 := keepHeap hb19 P_10
  have X_11 := keepHeap hb19 X_10
  have G_11 := keepHeap hb19 G_10
  have sz_11 := hb19.size
  clear q0_10 qSP_10 qTx_10 qSG_10 A_10 P_10 X_10 G_10 cA_10 cP_10 cX_10 cG_10
  have mx := (OwnFlIn.of ox).keep qTx_11
  have mg := (OwnFlIn.of oG).keep qSG_11
  clear ox kx oG kG qTx_11 qSG_11
  have cX_11 := rowCells X_11
  go_wp2_with (fail)
  refine (hmx mx (by omega)).mono ?_
  rintro e w_12 ⟨rfl, -, far_12⟩
  have q0_12 := q0_11.trans (far_12.1.mono (by omega))
  have qSP_12 := qSP_11.trans (far_12.1.mono (by omega))
  have A_12 := keepHeapFar far_12 A_11 (by omega)
  have P_12 := keepHeapFar far_12 P_11 (by omega)
  have G_12 := keepHeapFar far_12 G_11 (by omega)
  have mg := mg.afar far_12 (by omega)
  clear mx
  have sz_12 := far_12.1.size
  clear q0_11 qSP_11 A_11 P_11 X_11 G_11 cX_11 far_12
  have cP_12 := rowCells P_12
  have cG_12 := rowCells G_12
  go_wp2_with (fail)
  refine (heq mg.rd (oP.rd.keep qSP_12)).mono ?_
  rintro e w_13 ⟨rfl, hb_13⟩
  have q0_13 := q0_12.trans (hb_13.mono q0_12.size)
  have qSP_13 := qSP_12.trans (hb_13.mono qSP_12.size)
  have A_13 := keepHeap hb_13 A_12
  have P_13 := keepHeap hb_13 P_12
  have G_13 := keepHeap hb_13 G_12
  have sz_13 := hb_13.size
  clear q0_12 qSP_12 A_12 P_12 G_12 cP_12 cG_12
  have mg := mg.keep hb_13
  clear hb_13
  have cG_13 := rowCells G_13
  go_wp2_with (fail)
  refine (hmk mg (by omega)).mono ?_
  rintro e w_14 ⟨rfl, mg, far_14⟩
  have q0_14 := q0_13.trans (far_14.1.mono (by omega))
  have qSP_14 := qSP_13.trans (far_14.1.mono (by omega))
  have A_14 := keepHeapFar far_14 A_13 (by omega)
  have P_14 := keepHeapFar far_14 P_13 (by omega)
  have G_14 := keepHeapFar far_14 G_13 (by omega)
  have sz_14 := far_14.1.size
  clear q0_13 qSP_13 A_13 P_13 G_13 cG_13 far_14
  have cG_14 := rowCells G_14
  go_wp2_with (fail)
  refine (hhd mg.rd).mono ?_
  rintro e w_15 ⟨rfl, hb_15⟩
  have q0_15 := q0_14.trans (hb_15.mono q0_14.size)
  have qSP_15 := qSP_14.trans (hb_15.mono qSP_14.size)
  have A_15 := keepHeap hb_15 A_14
  have P_15 := keepHeap hb_15 P_14
  have G_15 := keepHeap hb_15 G_14
  have sz_15 := hb_15.size
  clear q0_14 qSP_14 A_14 P_14 G_14 cG_14
  have mg := mg.keep hb_15
  clear hb_15
  have qM_15 : Below w_15.heap.size w_15 w_15 := Below.refl _ _
  have cA_15 := rowCells A_15
  go_wp2_with (fail)
  refine (hto (h0.keep q0_15)).mono ?_
  rintro e w_16 ⟨vfd, rfl, od, kd, hb_16⟩
  have q0_16 := q0_15.trans (hb_16.mono q0_15.size)
  have qSP_16 := qSP_15.trans (hb_16.mono qSP_15.size)
  have qM_16 := qM_15.trans (hb_16.mono qM_15.size)
  have A_16 := keepHeap hb_16 A_15
  have P_16 := keepHeap hb_16 P_15
  have G_16 := keepHeap hb_16 G_15
  have sz_16 := hb_16.size
  clear q0_15 qSP_15 qM_15 A_15 P_15 G_15 cA_15
  clear hb_16
  have qTd_16 : Below w_16.heap.size w_16 w_16 := Below.refl _ _
  have rdd := od.rd
  obtain ⟨ad, cd, rfl, -⟩ := id rdd
  clear rdd
  go_wp2_with (fail)
  refine (himpl (od.rd.keep qTd_16)).mono ?_
  rintro e w_17 ⟨vfH, rfl, oH, kH, hb_17⟩
  have q0_17 := q0_16.trans (hb_17.mono q0_16.size)
  have qSP_17 := qSP_16.trans (hb_17.mono qSP_16.size)
  have qM_17 := qM_16.trans (hb_17.mono qM_16.size)
  have qTd_17 := qTd_16.trans (hb_17.mono qTd_16.size)
  have A_17 := keepHeap hb_17 A_16
  have P_17 := keepHeap hb_17 P_16
  have G_17 := keepHeap hb_17 G_16
  have sz_17 := hb_17.size
  clear q0_16 qSP_16 qM_16 qTd_16 A_16 P_16 G_16
  clear hb_17
  have qSH_17 : Below w_17.heap.size w_17 w_17 := Below.refl _ _
  have rdH := oH.rd
  obtain ⟨aH, cH, rfl, -⟩ := id rdH
  clear rdH
  obtain ⟨w_18, hw_18, H_18, hb_18⟩ : ∃ W, w_17.alloc (.cells #[Value.int .i64 y.seed, .int .i64 y.delay, .int .i64 y.jitter, .int .i64 y.loss, .int .i64 y.copies, .int .i64 y.damage, .int .i64 y.now, .slice aH y.fls.length cH, .int .i64 y.sent, .int .i64 y.lost] 52) = W ∧ W.heap[w_17.heap.size]? = some (.cells #[Value.int .i64 y.seed, .int .i64 y.delay, .int .i64 y.jitter, .int .i64 y.loss, .int .i64 y.copies, .int .i64 y.damage, .int .i64 y.now, .slice aH y.fls.length cH, .int .i64 y.sent, .int .i64 y.lost] 52 (0, 0)) ∧ Below w_17.heap.size w_17 W := ⟨_, rfl, heap_alloc_new _ _, below1 _ _⟩
  have q0_18 := q0_17.trans (hb_18.mono q0_17.size)
  have qSP_18 := qSP_17.trans (hb_18.mono qSP_17.size)
  have qM_18 := qM_17.trans (hb_18.mono qM_17.size)
  have qTd_18 := qTd_17.trans (hb_18.mono qTd_17.size)
  have qSH_18 := qSH_17.trans (hb_18.mono qSH_17.size)
  have A_18 := keepHeap hb_18 A_17
  have P_18 := keepHeap hb_18 P_17
  have G_18 := keepHeap hb_18 G_17
  have sz_18 := hb_18.size
  clear q0_17 qSP_17 qM_17 qTd_17 qSH_17 A_17 P_17 G_17
  clear hb_18
  have cP_18 := rowCells P_18
  have cH_18 := rowCells H_18
  go_wp2_with (fail)
  try rw [hw_18]
  clear hw_18
  refine (heq (oH.rd.keep qSH_18) (oP.rd.keep qSP_18)).mono ?_
  rintro e w_19 ⟨rfl, hb_19⟩
  have q0_19 := q0_18.trans (hb_19.mono q0_18.size)
  have qSP_19 := qSP_18.trans (hb_19.mono qSP_18.size)
  have qM_19 := qM_18.trans (hb_19.mono qM_18.size)
  have qTd_19 := qTd_18.trans (hb_19.mono qTd_18.size)
  have qSH_19 := qSH_18.trans (hb_19.mono qSH_18.size)
  have A_19 := keepHeap hb_19 A_18
  have P_19 := keepHeap hb_19 P_18
  have G_19 := keepHeap hb_19 G_18
  have H_19 := keepHeap hb_19 H_18
  have sz_19 := hb_19.size
  clear q0_18 qSP_18 qM_18 qTd_18 qSH_18 A_18 P_18 G_18 H_18 cP_18 cH_18
  clear hb_19
  have cG_19 := rowCells G_19
  go_wp2_with (fail)
  refine (hhd (mg.rd.keep qM_19)).mono ?_
  rintro e w_20 ⟨rfl, hb_20⟩
  have q0_20 := q0_19.trans (hb_20.mono q0_19.size)
  have qSP_20 := qSP_19.trans (hb_20.mono qSP_19.size)
  have qM_20 := qM_19.trans (hb_20.mono qM_19.size)
  have qTd_20 := qTd_19.trans (hb_20.mono qTd_19.size)
  have qSH_20 := qSH_19.trans (hb_20.mono qSH_19.size)
  have A_20 := keepHeap hb_20 A_19
  have P_20 := keepHeap hb_20 P_19
  have G_20 := keepHeap hb_20 G_19
  have H_20 := keepHeap hb_20 H_19
  have sz_20 := hb_20.size
  clear q0_19 qSP_19 qM_19 qTd_19 qSH_19 A_19 P_19 G_19 H_19 cG_19
  clear hb_20
  go_wp2_with (fail)
  go_ret
  exact ⟨rfl, q0_20⟩
end Go.Proofs.Yteafgghpkohfpab
