/-
  The law on NewReplay. No condition.
-/
import Derived.Test.YtecimgennncjkaaDoorNr
import Derived.Test.YtecimgennncjkaaDoorMarkL
namespace Go.Proofs.YtecimgennncjkaaDoor
open Go.RowKit
set_option linter.all false
theorem nrX_ok {L : Rowz} {p s t : Int} (hs : Sane L) (h : L.length ≤ 1048576) : (nrX L p s t).few ∧ (nrX L p s t).lv.length + totalR (nrX L p s t).rows + (nrX L p s t).keys.length ≤ 100000 := by
  refine ⟨(nrX_few h).1, ?_⟩
  unfold nrX
  split
  · rename_i hq
    have h1 := (levelB_facts (rp_facts hq).1).2.1
    have h1 : L.length ≤ 12 := h1
    simp [nrY, totalR]; omega
  · simp [rp0, totalR]
theorem markLevel_FR {w : World} {B T : Nat} {v : Value} {xs : List (List UInt8)} (h : WrS w B v xs) (hT : LowS T v xs) (hTw : T ≤ w.heap.size) (hB0 : B ≤ w.heap.size) (hn : xs.length ≤ 1099511627776) (k0 : Nat) (h0 : 0 < k0) (h1 : k0 ≤ 1099511627776) :
    Calls Tryd.prog 25 #[.agg #[v], .int .i64 (k0 : Int)] w fun e w' => e = .returned (.int .i64 ((k0 + xs.length : Nat) : Int)) ∧ FarB B T w w' :=
  (markLevel_far h hT hTw hB0 hn k0 h0 h1).mono fun e w' h => ⟨h.1, h.2.2.1, h.2.2.2⟩
set_option maxRecDepth 100000 in
set_option maxHeartbeats 8000000 in
theorem lawNewReplay {w : World} (v : Value) (L : Rowz) (h : RdS w v L) (hs : Sane L) (p : Int) (wp : (Lit.int .i64 p).wf = true) (s : Int) (ws : (Lit.int .i64 s).wf = true) (t : Int) (wt : (Lit.int .i64 t).wf = true) :
    Calls Tryd.prog 5 #[.agg #[v], .int .i64 p, .int .i64 s, .int .i64 t] w fun e w' => e = .returned (.bool true) ∧ Below w.heap.size w w' := by
  obtain ⟨a, cap, rfl, -⟩ := id h
  obtain ⟨w_1, hW, A_1, q0_1, -⟩ := rows1 w #[.slice a L.length cap] 36
  have sz_1 := q0_1.size
  have ltA : w.heap.size < w_1.heap.size := blockLt A_1
  go_enter Tryd.func5, Tryd.ntmps5
  have cA_1 := rowCells A_1
  go_wp2_with (fail)
  try rw [hW]
  clear hW
  refine (szLevel_any (h.keep q0_1) hs 1048576 (by omega) (by omega)).mono ?_
  rintro e w_2 ⟨r, rfl, hr, hb_2⟩
  have q0_2 := q0_1.trans (hb_2.mono q0_1.size)
  have A_2 := keepHeap hb_2 A_1
  have sz_2 := hb_2.size
  clear q0_1 A_1 cA_1
  clear hb_2
  rcases hr with rfl | ⟨hr0, hr1⟩
  · go_wp2_with (fail)
    go_ret
    exact ⟨rfl, q0_2⟩
  have zr : decide (r < 0) = false := by simpa using hr0
  have hl : L.length ≤ 1048576 := by omega
  clear hr1
  have hspec := fun {W : World} {v : Value} (h1 : RdS W v L) => newReplay_spec h1 hs hl p s t
  have himpl := fun {W : World} {v : Value} (h1 : RdS W v L) => newReplay_impl h1 hs hl p s t
  unfold RetRpB at hspec himpl
  obtain ⟨hf, hsm⟩ := nrX_ok (p := p) (s := s) (t := t) hs hl
  obtain ⟨X, hX⟩ : ∃ X, X = nrX L p s t := ⟨_, rfl⟩
  obtain ⟨b, hB⟩ : ∃ b, b = replayB (nrY L p s t) := ⟨_, rfl⟩
  simp only [← hX, ← hB] at hspec himpl hf hsm
  clear hX hB
  have heq := fun {W : World} {vl vs vb vl' vs' vb' : Value} (h1 : RdRp W X vl vs vb) (h2 : RdRp W X vl' vs' vb') => eqReplay_same h1 h2 hf
  have hmk := fun {W : World} {lo hi : Nat} {vl vs vb : Value} (h1 : OwnRpIn W lo hi X vl vs vb) (h2 : hi ≤ W.heap.size) => markReplay_far h1 h2 hf hsm 1 (by omega) (by omega)
  have hhd := fun {W : World} {vl vs vb : Value} (h1 : RdRp W (X.marked 1) vl vs vb) => heldReplay_any X 1 h1 hf hsm (by omega) (by omega) X.players X.seed X.every
  unfold rpC at hspec himpl heq hmk
  generalize X.marksN = mN at hmk hhd
  have cA_2 := rowCells A_2
  go_wp2_with (fail)
  refine (toLevel_any (h.keep q0_2) (by omega)).mono ?_
  rintro e w_3 ⟨va, rfl, oa, hb_3⟩
  have q0_3 := q0_2.trans (hb_3.mono q0_2.size)
  have A_3 := keepHeap hb_3 A_2
  have sz_3 := hb_3.size
  clear q0_2 A_2 cA_2
  clear hb_3
  have qTa_3 : Below w_3.heap.size w_3 w_3 := Below.refl _ _
  have la := WrS.low oa
  obtain ⟨aa, ca, rfl, -⟩ := id oa.rd
  have cA_3 := rowCells A_3
  go_wp2_with (fail)
  refine (hspec (oa.rd.keep qTa_3)).mono ?_
  rintro e w_4 ⟨vlP, vsP, vbP, rfl, oP, hb_4⟩
  have q0_4 := q0_3.trans (hb_4.mono q0_3.size)
  have qTa_4 := qTa_3.trans (hb_4.mono qTa_3.size)
  have A_4 := keepHeap hb_4 A_3
  have sz_4 := hb_4.size
  clear q0_3 qTa_3 A_3 cA_3
  clear hb_4
  have rdP := oP.rd
  obtain ⟨alP, clP, rfl, -⟩ := id rdP.1
  obtain ⟨aqP, cqP, rfl, -⟩ := id rdP.2.1
  obtain ⟨abP, cbP, rfl, -⟩ := id rdP.2.2
  have qSP_4 : Below w_4.heap.size w_4 w_4 := Below.refl _ _
  clear oa la oP qTa_4
  obtain ⟨w_5, hw_5, P_5, hb_5⟩ : ∃ W, w_4.alloc (.cells #[Value.slice alP X.lv.length clP, .int .i64 X.players, .int .i64 X.seed, .int .i64 X.every, .slice aqP X.rows.length cqP, .slice abP X.keys.length cbP] 44) = W ∧ W.heap[w_4.heap.size]? = some (.cells #[Value.slice alP X.lv.length clP, .int .i64 X.players, .int .i64 X.seed, .int .i64 X.every, .slice aqP X.rows.length cqP, .slice abP X.keys.length cbP] 44 (0, 0)) ∧ Below w_4.heap.size w_4 W := ⟨_, rfl, heap_alloc_new _ _, below1 _ _⟩
  have q0_5 := q0_4.trans (hb_5.mono q0_4.size)
  have qSP_5 := qSP_4.trans (hb_5.mono qSP_4.size)
  have A_5 := keepHeap hb_5 A_4
  have sz_5 := hb_5.size
  clear q0_4 qSP_4 A_4
  clear hb_5
  have ltP : w_4.heap.size < w_5.heap.size := blockLt P_5
  have cA_5 := rowCells A_5
  have cP_5 := rowCells P_5
  go_wp2_with (fail)
  try rw [hw_5]
  clear hw_5
  refine (toLevel_any (h.keep q0_5) (by omega)).mono ?_
  rintro e w_6 ⟨vx, rfl, ox, hb_6⟩
  have q0_6 := q0_5.trans (hb_6.mono q0_5.size)
  have qSP_6 := qSP_5.trans (hb_6.mono qSP_5.size)
  have A_6 := keepHeap hb_6 A_5
  have P_6 := keepHeap hb_6 P_5
  have sz_6 := hb_6.size
  clear q0_5 qSP_5 A_5 P_5 cA_5 cP_5
  clear hb_6
  have qTx_6 : Below w_6.heap.size w_6 w_6 := Below.refl _ _
  have lx := WrS.low ox
  obtain ⟨ax, cx, rfl, -⟩ := id ox.rd
  obtain ⟨w_7, hw_7, X_7, hb_7⟩ : ∃ W, w_6.alloc (.cells #[.slice ax L.length cx] 42) = W ∧ W.heap[w_6.heap.size]? = some (.cells #[.slice ax L.length cx] 42 (0, 0)) ∧ Below w_6.heap.size w_6 W := ⟨_, rfl, heap_alloc_new _ _, below1 _ _⟩
  have q0_7 := q0_6.trans (hb_7.mono q0_6.size)
  have qSP_7 := qSP_6.trans (hb_7.mono qSP_6.size)
  have qTx_7 := qTx_6.trans (hb_7.mono qTx_6.size)
  have A_7 := keepHeap hb_7 A_6
  have P_7 := keepHeap hb_7 P_6
  have sz_7 := hb_7.size
  clear q0_6 qSP_6 qTx_6 A_6 P_6
  clear hb_7
  have ltX : w_6.heap.size < w_7.heap.size := blockLt X_7
  have cA_7 := rowCells A_7
  have cP_7 := rowCells P_7
  have cX_7 := rowCells X_7
  go_wp2_with (fail)
  try rw [hw_7]
  clear hw_7
  refine (himpl (ox.rd.keep qTx_7)).mono ?_
  rintro e w_8 ⟨vlG, vsG, vbG, rfl, oG, hb_8⟩
  have q0_8 := q0_7.trans (hb_8.mono q0_7.size)
  have qSP_8 := qSP_7.trans (hb_8.mono qSP_7.size)
  have qTx_8 := qTx_7.trans (hb_8.mono qTx_7.size)
  have A_8 := keepHeap hb_8 A_7
  have P_8 := keepHeap hb_8 P_7
  have X_8 := keepHeap hb_8 X_7
  have sz_8 := hb_8.size
  clear q0_7 qSP_7 qTx_7 A_7 P_7 X_7 cA_7 cP_7 cX_7
  clear hb_8
  have rdG := oG.rd
  obtain ⟨alG, clG, rfl, -⟩ := id rdG.1
  obtain ⟨aqG, cqG, rfl, -⟩ := id rdG.2.1
  obtain ⟨abG, cbG, rfl, -⟩ := id rdG.2.2
  have qSG_8 : Below w_8.heap.size w_8 w_8 := Below.refl _ _
  obtain ⟨w_9, hw_9, G_9, hb_9⟩ : ∃ W, w_8.alloc (.cells #[Value.slice alG X.lv.length clG, .int .i64 X.players, .int .i64 X.seed, .int .i64 X.every, .slice aqG X.rows.length cqG, .slice abG X.keys.length cbG] 44) = W ∧ W.heap[w_8.heap.size]? = some (.cells #[Value.slice alG X.lv.length clG, .int .i64 X.players, .int .i64 X.seed, .int .i64 X.every, .slice aqG X.rows.length cqG, .slice abG X.keys.length cbG] 44 (0, 0)) ∧ Below w_8.heap.size w_8 W := ⟨_, rfl, heap_alloc_new _ _, below1 _ _⟩
  have q0_9 := q0_8.trans (hb_9.mono q0_8.size)
  have qSP_9 := qSP_8.trans (hb_9.mono qSP_8.size)
  have qTx_9 := qTx_8.trans (hb_9.mono qTx_8.size)
  have qSG_9 := qSG_8.trans (hb_9.mono qSG_8.size)
  have A_9 := keepHeap hb_9 A_8
  have P_9 := keepHeap hb_9 P_8
  have X_9 := keepHeap hb_9 X_8
  have sz_9 := hb_9.size
  clear q0_8 qSP_8 qTx_8 qSG_8 A_8 P_8 X_8
  clear hb_9
  have ltG : w_8.heap.size < w_9.heap.size := blockLt G_9
  have cA_9 := rowCells A_9
  have cP_9 := rowCells P_9
  have cX_9 := rowCells X_9
  have cG_9 := rowCells G_9
  go_wp2_with (fail)
  try rw [hw_9]
  clear hw_9
  refine (heq (rdG.keep qSG_9) (rdP.keep qSP_9)).mono ?_
  rintro e w_10 ⟨rfl, hb_10⟩
  have q0_10 := q0_9.trans (hb_10.mono q0_9.size)
  have qSP_10 := qSP_9.trans (hb_10.mono qSP_9.size)
  have qTx_10 := qTx_9.trans (hb_10.mono qTx_9.size)
  have qSG_10 := qSG_9.trans (hb_10.mono qSG_9.size)
  have A_10 := keepHeap hb_10 A_9
  have P_10 := keepHeap hb_10 P_9
  have X_10 := keepHeap hb_10 X_9
  have G_10 := keepHeap hb_10 G_9
  have sz_10 := hb_10.size
  clear q0_9 qSP_9 qTx_9 qSG_9 A_9 P_9 X_9 G_9 cA_9 cP_9 cX_9 cG_9
  clear hb_10
  have cA_10 := rowCells A_10
  have cX_10 := rowCells X_10
  go_wp2_with (fail)
  have ra := (h.keep q0_10)
  have rx := (ox.rd.keep qTx_10)
  go_region_held3 (fun w' => (∀ j, w'.cell? ⟨w.heap.size, j, none⟩ = #[Value.slice a L.length cap][j]?) ∧ (∀ j, w'.cell? ⟨w_6.heap.size, j, none⟩ = #[Value.slice ax L.length cx][j]?)) (first | go_keep | (exact ⟨cA8, cX8⟩) | exact ⟨cA9, cX9⟩)
    (first
    | (go_at_call 22; refine (toLevel_any (RdS.keep ra (belowDrew _ 1)) (by omega)).mono ?_; rintro e w8 ⟨v8, rfl, wr8, hb8⟩; have hA8 := keepHeap hb8 (keepHeap (belowDrew _ 1) A_10); have hX8 := keepHeap hb8 (keepHeap (belowDrew _ 1) X_10); have cA8 := rowCells hA8; have cX8 := rowCells hX8; have rd8 := wr8.rd; obtain ⟨a8, c8, rfl, -⟩ := id rd8; have rdx8 := (RdS.keep rx (belowDrew _ 1)).keep hb8; have hb18 := (belowDrew w_10 1).trans (hb8.mono (by simp)))
    | (go_at_call 24; refine (eqLevel_same rdx8 rd8 (by omega)).mono ?_; rintro e w9 ⟨rfl, hb9⟩; have cA9 := rowCells (keepHeap hb9 hA8); have cX9 := rowCells (keepHeap hb9 hX8); have hb19 := hb18.trans (hb9.mono hb18.size)))
  clear ra rx cA8 cX8 cA9 cX9 hA8 hX8 hb9 hb18 rdx8 rd8 wr8 hb8
  have q0_11 := q0_10.trans (hb19.mono q0_10.size)
  have qSP_11 := qSP_10.trans (hb19.mono qSP_10.size)
  have qTx_11 := qTx_10.trans (hb19.mono qTx_10.size)
  have qSG_11 := qSG_10.trans (hb19.mono qSG_10.size)
  have A_11 := keepHeap hb19 A_10
  have P_11 := keepHeap hb19 P_10
  have X_11 := keepHeap hb19 X_10
  have G_11 := keepHeap hb19 G_10
  have sz_11 := hb19.size
  clear q0_10 qSP_10 qTx_10 qSG_10 A_10 P_10 X_10 G_10 cA_10 cX_10
  clear hb19
  have cX_11 := rowCells X_11
  go_wp2_with (fail)
  have mx : WrS w9 w_5.heap.size (.slice ax L.length cx) L := ox.keep qTx_11
  have mg := oG.keep qSG_11
  clear ox oG rdG qTx_11 qSG_11
  refine (markLevel_FR mx lx (by omega) (by omega) (by omega) 1 (by omega) (by omega)).mono ?_
  rintro e w_12 ⟨rfl, far_12⟩
  have q0_12 := q0_11.trans (far_12.1.mono (by omega))
  have qSP_12 := qSP_11.trans (far_12.1.mono (by omega))
  have A_12 := keepHeapFar far_12 A_11 (by omega)
  have P_12 := keepHeapFar far_12 P_11 (by omega)
  have G_12 := keepHeapFar far_12 G_11 (by omega)
  have mg := mg.afar far_12 (by omega)
  have sz_12 := far_12.1.size
  clear q0_11 qSP_11 A_11 P_11 X_11 G_11 cX_11 far_12
  have zk : decide ((1 : Int) + (L.length : Int) < 0) = false := by simp; omega
  clear mx lx
  have cP_12 := rowCells P_12
  have cG_12 := rowCells G_12
  go_wp2_with (fail)
  refine (heq mg.rd (rdP.keep qSP_12)).mono ?_
  rintro e w_13 ⟨rfl, hb_13⟩
  have q0_13 := q0_12.trans (hb_13.mono q0_12.size)
  have qSP_13 := qSP_12.trans (hb_13.mono qSP_12.size)
  have A_13 := keepHeap hb_13 A_12
  have P_13 := keepHeap hb_13 P_12
  have G_13 := keepHeap hb_13 G_12
  have sz_13 := hb_13.size
  clear q0_12 qSP_12 A_12 P_12 G_12 cP_12 cG_12
  have mg := mg.keep hb_13
  clear hb_13
  have cG_13 := rowCells G_13
  go_wp2_with (fail)
  refine (hmk mg (by omega)).mono ?_
  rintro e w_14 ⟨rfl, mg, far_14⟩
  have q0_14 := q0_13.trans (far_14.1.mono (by omega))
  have qSP_14 := qSP_13.trans (far_14.1.mono (by omega))
  have A_14 := keepHeapFar far_14 A_13 (by omega)
  have P_14 := keepHeapFar far_14 P_13 (by omega)
  have G_14 := keepHeapFar far_14 G_13 (by omega)
  have sz_14 := far_14.1.size
  clear q0_13 qSP_13 A_13 P_13 G_13 cG_13 far_14
  have zq : decide ((1 : Int) + (mN : Int) < 0) = false := by simp; omega
  have cG_14 := rowCells G_14
  go_wp2_with (fail)
  refine (hhd mg.rd).mono ?_
  rintro e w_15 ⟨rfl, hb_15⟩
  have q0_15 := q0_14.trans (hb_15.mono q0_14.size)
  have qSP_15 := qSP_14.trans (hb_15.mono qSP_14.size)
  have A_15 := keepHeap hb_15 A_14
  have P_15 := keepHeap hb_15 P_14
  have G_15 := keepHeap hb_15 G_14
  have sz_15 := hb_15.size
  clear q0_14 qSP_14 A_14 P_14 G_14 cG_14
  have mg := mg.keep hb_15
  clear hb_15
  have qM_15 : Below w_15.heap.size w_15 w_15 := Below.refl _ _
  have cA_15 := rowCells A_15
  go_wp2_with (fail)
  refine (toLevel_any (h.keep q0_15) (by omega)).mono ?_
  rintro e w_16 ⟨vd, rfl, od, hb_16⟩
  have q0_16 := q0_15.trans (hb_16.mono q0_15.size)
  have qSP_16 := qSP_15.trans (hb_16.mono qSP_15.size)
  have qM_16 := qM_15.trans (hb_16.mono qM_15.size)
  have A_16 := keepHeap hb_16 A_15
  have P_16 := keepHeap hb_16 P_15
  have G_16 := keepHeap hb_16 G_15
  have sz_16 := hb_16.size
  clear q0_15 qSP_15 qM_15 A_15 P_15 G_15 cA_15
  clear hb_16
  have qTd_16 : Below w_16.heap.size w_16 w_16 := Below.refl _ _
  have ld := WrS.low od
  obtain ⟨ad, cd, rfl, -⟩ := id od.rd
  go_wp2_with (fail)
  refine (himpl (od.rd.keep qTd_16)).mono ?_
  rintro e w_17 ⟨vlH, vsH, vbH, rfl, oH, hb_17⟩
  have q0_17 := q0_16.trans (hb_17.mono q0_16.size)
  have qSP_17 := qSP_16.trans (hb_17.mono qSP_16.size)
  have qM_17 := qM_16.trans (hb_17.mono qM_16.size)
  have qTd_17 := qTd_16.trans (hb_17.mono qTd_16.size)
  have A_17 := keepHeap hb_17 A_16
  have P_17 := keepHeap hb_17 P_16
  have G_17 := keepHeap hb_17 G_16
  have sz_17 := hb_17.size
  clear q0_16 qSP_16 qM_16 qTd_16 A_16 P_16 G_16
  clear hb_17
  have rdH := oH.rd
  obtain ⟨alH, clH, rfl, -⟩ := id rdH.1
  obtain ⟨aqH, cqH, rfl, -⟩ := id rdH.2.1
  obtain ⟨abH, cbH, rfl, -⟩ := id rdH.2.2
  have qSH_17 : Below w_17.heap.size w_17 w_17 := Below.refl _ _
  obtain ⟨w_18, hw_18, H_18, hb_18⟩ : ∃ W, w_17.alloc (.cells #[Value.slice alH X.lv.length clH, .int .i64 X.players, .int .i64 X.seed, .int .i64 X.every, .slice aqH X.rows.length cqH, .slice abH X.keys.length cbH] 44) = W ∧ W.heap[w_17.heap.size]? = some (.cells #[Value.slice alH X.lv.length clH, .int .i64 X.players, .int .i64 X.seed, .int .i64 X.every, .slice aqH X.rows.length cqH, .slice abH X.keys.length cbH] 44 (0, 0)) ∧ Below w_17.heap.size w_17 W := ⟨_, rfl, heap_alloc_new _ _, below1 _ _⟩
  have q0_18 := q0_17.trans (hb_18.mono q0_17.size)
  have qSP_18 := qSP_17.trans (hb_18.mono qSP_17.size)
  have qM_18 := qM_17.trans (hb_18.mono qM_17.size)
  have qTd_18 := qTd_17.trans (hb_18.mono qTd_17.size)
  have qSH_18 := qSH_17.trans (hb_18.mono qSH_17.size)
  have A_18 := keepHeap hb_18 A_17
  have P_18 := keepHeap hb_18 P_17
  have G_18 := keepHeap hb_18 G_17
  have sz_18 := hb_18.size
  clear q0_17 qSP_17 qM_17 qTd_17 qSH_17 A_17 P_17 G_17
  clear hb_18
  have cP_18 := rowCells P_18
  have cH_18 := rowCells H_18
  go_wp2_with (fail)
  try rw [hw_18]
  clear hw_18
  refine (heq (rdH.keep qSH_18) (rdP.keep qSP_18)).mono ?_
  rintro e w_19 ⟨rfl, hb_19⟩
  have q0_19 := q0_18.trans (hb_19.mono q0_18.size)
  have qSP_19 := qSP_18.trans (hb_19.mono qSP_18.size)
  have qM_19 := qM_18.trans (hb_19.mono qM_18.size)
  have qTd_19 := qTd_18.trans (hb_19.mono qTd_18.size)
  have qSH_19 := qSH_18.trans (hb_19.mono qSH_18.size)
  have A_19 := keepHeap hb_19 A_18
  have P_19 := keepHeap hb_19 P_18
  have G_19 := keepHeap hb_19 G_18
  have H_19 := keepHeap hb_19 H_18
  have sz_19 := hb_19.size
  clear q0_18 qSP_18 qM_18 qTd_18 qSH_18 A_18 P_18 G_18 H_18 cP_18 cH_18
  clear hb_19
  have cG_19 := rowCells G_19
  go_wp2_with (fail)
  refine (hhd (mg.rd.keep qM_19)).mono ?_
  rintro e w_20 ⟨rfl, hb_20⟩
  have q0_20 := q0_19.trans (hb_20.mono q0_19.size)
  have qSP_20 := qSP_19.trans (hb_20.mono qSP_19.size)
  have qM_20 := qM_19.trans (hb_20.mono qM_19.size)
  have qTd_20 := qTd_19.trans (hb_20.mono qTd_19.size)
  have qSH_20 := qSH_19.trans (hb_20.mono qSH_19.size)
  have A_20 := keepHeap hb_20 A_19
  have P_20 := keepHeap hb_20 P_19
  have G_20 := keepHeap hb_20 G_19
  have H_20 := keepHeap hb_20 H_19
  have sz_20 := hb_20.size
  clear q0_19 qSP_19 qM_19 qTd_19 qSH_19 A_19 P_19 G_19 H_19 cG_19
  clear hb_20
  go_wp2_with (fail)
  go_ret
  exact ⟨rfl, q0_20⟩
end Go.Proofs.YtecimgennncjkaaDoor
