/-
  The law on MakePacket. No condition.
-/
import Derived.Test.YtnjjpeblbfomoaaMpS
namespace Go.Proofs.Ytnjjpeblbfomoaa
open Go.RowKit
set_option linter.all false
theorem markTrackS_F {w : World} {B T : Nat} {v : Value} {X : Rowi} (h : MkR w B T v X) (hn : X.length ≤ 1048576) (hi : totalR X ≤ 1048576) (k0 : Int) (h0 : 0 ≤ k0) (h1 : k0 ≤ 1048576) :
    Calls Try.prog 25 #[v, .int .i64 k0] w fun e w' => e = .returned (.int .i64 (k0 + (totalR X : Nat))) ∧ FarB B T w w' :=
  (markTrackS_ch h hn hi k0 h0 h1).mono fun e w' h => ⟨h.1, h.2.farB⟩
set_option maxRecDepth 100000 in
set_option maxHeartbeats 8000000 in
theorem lawMakePacket (v : Value) (X : Rowi) {w : World} (h : RdR w v X) (hs : SaneR X) (me : Int) (wm : (Lit.int .i64 me).wf = true) (ack : Int) (wa : (Lit.int .i64 ack).wf = true) :
    Calls Try.prog 4 #[v, .int .i64 me, .int .i64 ack] w fun e w' => e = .returned (.bool true) ∧ Below w.heap.size w w' := by
  have h0 := h
  have hs0 := hs
  have q0_0 : Below w.heap.size w w := Below.refl _ _
  obtain ⟨a, cap, rfl, -⟩ := id h
  go_enter Try.func4, Try.ntmps4
  go_wp2_with (fail)
  refine (szTrackS_any (h0.keep q0_0) hs 1048576 (by omega) (by omega)).mono ?_
  rintro e w_1 ⟨r, rfl, hr, hb_1⟩
  have q0_1 := q0_0.trans (hb_1.mono q0_0.size)
  have sz_1 := hb_1.size
  clear q0_0
  clear hb_1
  rcases hr with rfl | ⟨hr0, hr1⟩
  · go_wp2_with (fail)
    go_ret
    exact ⟨rfl, q0_1⟩
  have zr : decide (r < 0) = false := by simpa using hr0
  have hf : Few X := ⟨by omega, fun x hx => by have := totalR_mem hx; omega⟩
  have hT : totalR X ≤ 1048576 := by omega
  clear hr1
  have hspec := fun {W : World} {v : Value} (h1 : RdR W v X) (h2 : CapR W v X) => makePacket_spec h1 h2 hf me ack
  have himpl := fun {W : World} {v : Value} (h1 : RdR W v X) (h2 : CapR W v X) => makePacket_impl h1 h2 hf me ack
  unfold RetMp at hspec himpl
  have hfp : (mpX X me ack).few := mpX_few hf
  obtain ⟨P, hP⟩ : ∃ P, P = mpX X me ack := ⟨_, rfl⟩
  obtain ⟨b, hB⟩ : ∃ b, b = mpOk X me ack := ⟨_, rfl⟩
  simp only [← hP, ← hB] at hspec himpl hfp
  clear hP hB
  have heq := fun {W : World} {vi va vi' va' : Value} (h1 : RdP W P vi va) (h2 : RdP W P vi' va') => eqPacket_same h1 h2 hfp
  have hmk := fun {W : World} {lo hi : Nat} {vi va : Value} (h1 : OwnPIn W lo hi P vi va) (h2 : hi ≤ W.heap.size) => markPacket_far h1 h2 hfp 1 (by omega) (by omega)
  have hhd := fun {W : World} {vi va : Value} (h1 : RdP W (P.marked 1) vi va) => heldPacket_any P 1 h1 hfp (by omega) (by omega)
  unfold pkC at hspec himpl heq hmk hhd
  generalize P.marksN = mN at hmk hhd
  go_wp2_with (fail)
  refine (toTrackS_cap (h0.keep q0_1) hf.1 hf.2).mono ?_
  rintro e w_2 ⟨va, rfl, oa, ka, hb_2⟩
  have q0_2 := q0_1.trans (hb_2.mono q0_1.size)
  have sz_2 := hb_2.size
  clear q0_1
  clear hb_2
  have qTa_2 : Below w_2.heap.size w_2 w_2 := Below.refl _ _
  obtain ⟨aa, ca, rfl, -⟩ := id oa.rd
  go_wp2_with (fail)
  refine (hspec (oa.rd.keep qTa_2) (ka.keep qTa_2)).mono ?_
  rintro e w_3 ⟨viP, vaP, rfl, oP, hb_3⟩
  have q0_3 := q0_2.trans (hb_3.mono q0_2.size)
  have qTa_3 := qTa_2.trans (hb_3.mono qTa_2.size)
  have sz_3 := hb_3.size
  clear q0_2 qTa_2
  clear hb_3
  have rdP := oP.rd
  obtain ⟨aiP, ciP, rfl, -⟩ := id rdP.1
  obtain ⟨aaP, caP, rfl, -⟩ := id rdP.2
  have qSP_3 : Below w_3.heap.size w_3 w_3 := Below.refl _ _
  clear oa ka oP qTa_3
  obtain ⟨w_4, hw_4, P_4, hb_4⟩ : ∃ W, w_3.alloc (.cells #[Value.int .i64 P.fr, .int .i64 P.tick, .int .i64 P.first, .slice aiP P.ins.length ciP, .slice aaP P.acks.length caP, .int .i64 P.sumTick, .int .i64 P.sum, .int .i64 P.time, .int .i64 P.echo] 39) = W ∧ W.heap[w_3.heap.size]? = some (.cells #[Value.int .i64 P.fr, .int .i64 P.tick, .int .i64 P.first, .slice aiP P.ins.length ciP, .slice aaP P.acks.length caP, .int .i64 P.sumTick, .int .i64 P.sum, .int .i64 P.time, .int .i64 P.echo] 39 (0, 0)) ∧ Below w_3.heap.size w_3 W := ⟨_, rfl, heap_alloc_new _ _, below1 _ _⟩
  have q0_4 := q0_3.trans (hb_4.mono q0_3.size)
  have qSP_4 := qSP_3.trans (hb_4.mono qSP_3.size)
  have sz_4 := hb_4.size
  clear q0_3 qSP_3
  clear hb_4
  have ltP : w_3.heap.size < w_4.heap.size := blockLt P_4
  have cP_4 := rowCells P_4
  go_wp2_with (fail)
  try rw [hw_4]
  clear hw_4
  refine (toTrackS_cap (h0.keep q0_4) hf.1 hf.2).mono ?_
  rintro e w_5 ⟨vx, rfl, ox, kx, hb_5⟩
  have q0_5 := q0_4.trans (hb_5.mono q0_4.size)
  have qSP_5 := qSP_4.trans (hb_5.mono qSP_4.size)
  have P_5 := keepHeap hb_5 P_4
  have sz_5 := hb_5.size
  clear q0_4 qSP_4 P_4 cP_4
  clear hb_5
  have qTx_5 : Below w_5.heap.size w_5 w_5 := Below.refl _ _
  obtain ⟨ax, cx, rfl, -⟩ := id ox.rd
  have cP_5 := rowCells P_5
  go_wp2_with (fail)
  refine (himpl (ox.rd.keep qTx_5) (kx.keep qTx_5)).mono ?_
  rintro e w_6 ⟨viG, vaG, rfl, oG, hb_6⟩
  have q0_6 := q0_5.trans (hb_6.mono q0_5.size)
  have qSP_6 := qSP_5.trans (hb_6.mono qSP_5.size)
  have qTx_6 := qTx_5.trans (hb_6.mono qTx_5.size)
  have P_6 := keepHeap hb_6 P_5
  have sz_6 := hb_6.size
  clear q0_5 qSP_5 qTx_5 P_5 cP_5
  clear hb_6
  have rdG := oG.rd
  obtain ⟨aiG, ciG, rfl, -⟩ := id rdG.1
  obtain ⟨aaG, caG, rfl, -⟩ := id rdG.2
  have qSG_6 : Below w_6.heap.size w_6 w_6 := Below.refl _ _
  obtain ⟨w_7, hw_7, G_7, hb_7⟩ : ∃ W, w_6.alloc (.cells #[Value.int .i64 P.fr, .int .i64 P.tick, .int .i64 P.first, .slice aiG P.ins.length ciG, .slice aaG P.acks.length caG, .int .i64 P.sumTick, .int .i64 P.sum, .int .i64 P.time, .int .i64 P.echo] 39) = W ∧ W.heap[w_6.heap.size]? = some (.cells #[Value.int .i64 P.fr, .int .i64 P.tick, .int .i64 P.first, .slice aiG P.ins.length ciG, .slice aaG P.acks.length caG, .int .i64 P.sumTick, .int .i64 P.sum, .int .i64 P.time, .int .i64 P.echo] 39 (0, 0)) ∧ Below w_6.heap.size w_6 W := ⟨_, rfl, heap_alloc_new _ _, below1 _ _⟩
  have q0_7 := q0_6.trans (hb_7.mono q0_6.size)
  have qSP_7 := qSP_6.trans (hb_7.mono qSP_6.size)
  have qTx_7 := qTx_6.trans (hb_7.mono qTx_6.size)
  have qSG_7 := qSG_6.trans (hb_7.mono qSG_6.size)
  have P_7 := keepHeap hb_7 P_6
  have sz_7 := hb_7.size
  clear q0_6 qSP_6 qTx_6 qSG_6 P_6
  clear hb_7
  have ltG : w_6.heap.size < w_7.heap.size := blockLt G_7
  have cP_7 := rowCells P_7
  have cG_7 := rowCells G_7
  go_wp2_with (fail)
  try rw [hw_7]
  clear hw_7
  refine (heq (rdG.keep qSG_7) (rdP.keep qSP_7)).mono ?_
  rintro e w_8 ⟨rfl, hb_8⟩
  have q0_8 := q0_7.trans (hb_8.mono q0_7.size)
  have qSP_8 := qSP_7.trans (hb_8.mono qSP_7.size)
  have qTx_8 := qTx_7.trans (hb_8.mono qTx_7.size)
  have qSG_8 := qSG_7.trans (hb_8.mono qSG_7.size)
  have P_8 := keepHeap hb_8 P_7
  have G_8 := keepHeap hb_8 G_7
  have sz_8 := hb_8.size
  clear q0_7 qSP_7 qTx_7 qSG_7 P_7 G_7 cP_7 cG_7
  clear hb_8
  go_wp2_with (fail)
  refine (toTrackS_cap (h0.keep q0_8) hf.1 hf.2).mono ?_
  rintro e w_9 ⟨vz, rfl, oz, kz, hb_9⟩
  have q0_9 := q0_8.trans (hb_9.mono q0_8.size)
  have qSP_9 := qSP_8.trans (hb_9.mono qSP_8.size)
  have qTx_9 := qTx_8.trans (hb_9.mono qTx_8.size)
  have qSG_9 := qSG_8.trans (hb_9.mono qSG_8.size)
  have P_9 := keepHeap hb_9 P_8
  have G_9 := keepHeap hb_9 G_8
  have sz_9 := hb_9.size
  clear q0_8 qSP_8 qTx_8 qSG_8 P_8 G_8
  clear hb_9
  have qZ_9 : Below w_9.heap.size w_9 w_9 := Below.refl _ _
  obtain ⟨az, cz, rfl, -⟩ := id oz.rd
  go_wp2_with (fail)
  refine (eqTrackS_rows (ox.rd.keep qTx_9) (oz.rd.keep qZ_9) hf.1 hf.2).mono ?_
  rintro e w_10 ⟨rfl, hb_10⟩
  have q0_10 := q0_9.trans (hb_10.mono q0_9.size)
  have qSP_10 := qSP_9.trans (hb_10.mono qSP_9.size)
  have qTx_10 := qTx_9.trans (hb_10.mono qTx_9.size)
  have qSG_10 := qSG_9.trans (hb_10.mono qSG_9.size)
  have qZ_10 := qZ_9.trans (hb_10.mono qZ_9.size)
  have P_10 := keepHeap hb_10 P_9
  have G_10 := keepHeap hb_10 G_9
  have sz_10 := hb_10.size
  clear q0_9 qSP_9 qTx_9 qSG_9 qZ_9 P_9 G_9
  clear hb_10
  clear oz kz qZ_10
  go_wp2_with (fail)
  have mx : MkR w_10 w_4.heap.size w_5.heap.size (.slice ax X.length cx) X := (MkR.of_wr ox).ch (IntCh.of_below qTx_10 (by omega))
  have mg := oG.keep qSG_10
  clear ox kx oG rdG qTx_10 qSG_10
  refine (markTrackS_F mx hf.1 hT 1 (by omega) (by omega)).mono ?_
  rintro e w_11 ⟨rfl, far_11⟩
  have q0_11 := q0_10.trans (far_11.1.mono (by omega))
  have qSP_11 := qSP_10.trans (far_11.1.mono (by omega))
  have P_11 := keepHeapFar far_11 P_10 (by omega)
  have G_11 := keepHeapFar far_11 G_10 (by omega)
  have mg := mg.afar far_11 (by omega)
  have sz_11 := far_11.1.size
  clear q0_10 qSP_10 P_10 G_10 far_11
  have zk : decide ((1 : Int) + (totalR X : Int) < 0) = false := by simp; omega
  clear mx
  have cP_11 := rowCells P_11
  have cG_11 := rowCells G_11
  go_wp2_with (fail)
  refine (heq mg.rd (rdP.keep qSP_11)).mono ?_
  rintro e w_12 ⟨rfl, hb_12⟩
  have q0_12 := q0_11.trans (hb_12.mono q0_11.size)
  have qSP_12 := qSP_11.trans (hb_12.mono qSP_11.size)
  have P_12 := keepHeap hb_12 P_11
  have G_12 := keepHeap hb_12 G_11
  have sz_12 := hb_12.size
  clear q0_11 qSP_11 P_11 G_11 cP_11 cG_11
  have mg := mg.keep hb_12
  clear hb_12
  have cG_12 := rowCells G_12
  go_wp2_with (fail)
  refine (hmk mg (by omega)).mono ?_
  rintro e w_13 ⟨rfl, mg, far_13⟩
  have q0_13 := q0_12.trans (far_13.1.mono (by omega))
  have qSP_13 := qSP_12.trans (far_13.1.mono (by omega))
  have P_13 := keepHeapFar far_13 P_12 (by omega)
  have G_13 := keepHeapFar far_13 G_12 (by omega)
  have sz_13 := far_13.1.size
  clear q0_12 qSP_12 P_12 G_12 cG_12 far_13
  have zq : decide ((1 : Int) + (mN : Int) < 0) = false := by simp; omega
  have cG_13 := rowCells G_13
  go_wp2_with (fail)
  refine (hhd mg.rd).mono ?_
  rintro e w_14 ⟨rfl, hb_14⟩
  have q0_14 := q0_13.trans (hb_14.mono q0_13.size)
  have qSP_14 := qSP_13.trans (hb_14.mono qSP_13.size)
  have P_14 := keepHeap hb_14 P_13
  have G_14 := keepHeap hb_14 G_13
  have sz_14 := hb_14.size
  clear q0_13 qSP_13 P_13 G_13 cG_13
  have mg := mg.keep hb_14
  clear hb_14
  have qM_14 : Below w_14.heap.size w_14 w_14 := Below.refl _ _
  go_wp2_with (fail)
  refine (toTrackS_cap (h0.keep q0_14) hf.1 hf.2).mono ?_
  rintro e w_15 ⟨vd, rfl, od, kd, hb_15⟩
  have q0_15 := q0_14.trans (hb_15.mono q0_14.size)
  have qSP_15 := qSP_14.trans (hb_15.mono qSP_14.size)
  have qM_15 := qM_14.trans (hb_15.mono qM_14.size)
  have P_15 := keepHeap hb_15 P_14
  have G_15 := keepHeap hb_15 G_14
  have sz_15 := hb_15.size
  clear q0_14 qSP_14 qM_14 P_14 G_14
  clear hb_15
  have qTd_15 : Below w_15.heap.size w_15 w_15 := Below.refl _ _
  obtain ⟨ad, cd, rfl, -⟩ := id od.rd
  go_wp2_with (fail)
  refine (himpl (od.rd.keep qTd_15) (kd.keep qTd_15)).mono ?_
  rintro e w_16 ⟨viH, vaH, rfl, oH, hb_16⟩
  have q0_16 := q0_15.trans (hb_16.mono q0_15.size)
  have qSP_16 := qSP_15.trans (hb_16.mono qSP_15.size)
  have qM_16 := qM_15.trans (hb_16.mono qM_15.size)
  have qTd_16 := qTd_15.trans (hb_16.mono qTd_15.size)
  have P_16 := keepHeap hb_16 P_15
  have G_16 := keepHeap hb_16 G_15
  have sz_16 := hb_16.size
  clear q0_15 qSP_15 qM_15 qTd_15 P_15 G_15
  clear hb_16
  have rdH := oH.rd
  obtain ⟨aiH, ciH, rfl, -⟩ := id rdH.1
  obtain ⟨aaH, caH, rfl, -⟩ := id rdH.2
  have qSH_16 : Below w_16.heap.size w_16 w_16 := Below.refl _ _
  obtain ⟨w_17, hw_17, H_17, hb_17⟩ : ∃ W, w_16.alloc (.cells #[Value.int .i64 P.fr, .int .i64 P.tick, .int .i64 P.first, .slice aiH P.ins.length ciH, .slice aaH P.acks.length caH, .int .i64 P.sumTick, .int .i64 P.sum, .int .i64 P.time, .int .i64 P.echo] 39) = W ∧ W.heap[w_16.heap.size]? = some (.cells #[Value.int .i64 P.fr, .int .i64 P.tick, .int .i64 P.first, .slice aiH P.ins.length ciH, .slice aaH P.acks.length caH, .int .i64 P.sumTick, .int .i64 P.sum, .int .i64 P.time, .int .i64 P.echo] 39 (0, 0)) ∧ Below w_16.heap.size w_16 W := ⟨_, rfl, heap_alloc_new _ _, below1 _ _⟩
  have q0_17 := q0_16.trans (hb_17.mono q0_16.size)
  have qSP_17 := qSP_16.trans (hb_17.mono qSP_16.size)
  have qM_17 := qM_16.trans (hb_17.mono qM_16.size)
  have qTd_17 := qTd_16.trans (hb_17.mono qTd_16.size)
  have qSH_17 := qSH_16.trans (hb_17.mono qSH_16.size)
  have P_17 := keepHeap hb_17 P_16
  have G_17 := keepHeap hb_17 G_16
  have sz_17 := hb_17.size
  clear q0_16 qSP_16 qM_16 qTd_16 qSH_16 P_16 G_16
  clear hb_17
  have cP_17 := rowCells P_17
  have cH_17 := rowCells H_17
  go_wp2_with (fail)
  try rw [hw_17]
  clear hw_17
  refine (heq (rdH.keep qSH_17) (rdP.keep qSP_17)).mono ?_
  rintro e w_18 ⟨rfl, hb_18⟩
  have q0_18 := q0_17.trans (hb_18.mono q0_17.size)
  have qSP_18 := qSP_17.trans (hb_18.mono qSP_17.size)
  have qM_18 := qM_17.trans (hb_18.mono qM_17.size)
  have qTd_18 := qTd_17.trans (hb_18.mono qTd_17.size)
  have qSH_18 := qSH_17.trans (hb_18.mono qSH_17.size)
  have P_18 := keepHeap hb_18 P_17
  have G_18 := keepHeap hb_18 G_17
  have H_18 := keepHeap hb_18 H_17
  have sz_18 := hb_18.size
  clear q0_17 qSP_17 qM_17 qTd_17 qSH_17 P_17 G_17 H_17 cP_17 cH_17
  clear hb_18
  have cG_18 := rowCells G_18
  go_wp2_with (fail)
  refine (hhd (mg.rd.keep qM_18)).mono ?_
  rintro e w_19 ⟨rfl, hb_19⟩
  have q0_19 := q0_18.trans (hb_19.mono q0_18.size)
  have qSP_19 := qSP_18.trans (hb_19.mono qSP_18.size)
  have qM_19 := qM_18.trans (hb_19.mono qM_18.size)
  have qTd_19 := qTd_18.trans (hb_19.mono qTd_18.size)
  have qSH_19 := qSH_18.trans (hb_19.mono qSH_18.size)
  have P_19 := keepHeap hb_19 P_18
  have G_19 := keepHeap hb_19 G_18
  have H_19 := keepHeap hb_19 H_18
  have sz_19 := hb_19.size
  clear q0_18 qSP_18 qM_18 qTd_18 qSH_18 P_18 G_18 H_18 cG_18
  clear hb_19
  go_wp2_with (fail)
  go_ret
  exact ⟨rfl, q0_19⟩
end Go.Proofs.Ytnjjpeblbfomoaa
