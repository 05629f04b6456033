/-
  The law on AddInputs. No condition.
-/
import Derived.Test.YtnjjpeblbfomoaaAddS
import Derived.Test.YtnjjpeblbfomoaaAddI
import Derived.Test.YtnjjpeblbfomoaaTrM
namespace Go.Proofs.Ytnjjpeblbfomoaa
open Go.RowKit
set_option linter.all false
set_option maxRecDepth 100000 in
set_option maxHeartbeats 8000000 in
theorem lawAddInputs {w : World} (v : Value) (xs : List Int) (h : RdI w v xs) (hs : xs.length ≤ 9223372036854775807) (f : Int) (wf : (Lit.int .i64 f).wf = true) (u : Value) (ys : List Int) (h' : RdI w u ys) (hs' : ys.length ≤ 9223372036854775807) :
    Calls Try.prog 3 #[.agg #[v], .int .i64 f, u] w fun e w' => e = .returned (.bool true) ∧ Below w.heap.size w w' := by
  obtain ⟨a, cap, rfl, -⟩ := id h
  obtain ⟨au, cu, rfl, -⟩ := id h'
  obtain ⟨w_1, hW, A_1, q0_1, -⟩ := rows1 w #[.slice a xs.length cap] 24
  have hly : (ys.length : Int) ≤ 9223372036854775807 := by omega
  have sz_1 := q0_1.size
  have ltA : w.heap.size < w_1.heap.size := blockLt A_1
  by_cases hbig : (1048576 : Int) < (ys.length : Int)
  · have z0 : decide ((1048576 : Int) < (ys.length : Int)) = true := by simpa using hbig
    go_enter Try.func3, Try.ntmps3
    go_wp2_with (fail)
    go_ret
    exact ⟨rfl, q0_1⟩
  have z0 : decide ((1048576 : Int) < (ys.length : Int)) = false := by simpa using hbig
  have hyl : ys.length ≤ 1048576 := by omega
  go_enter Try.func3, Try.ntmps3
  have cA_1 := rowCells A_1
  go_wp2_with (fail)
  try rw [hW]
  clear hW
  refine (szTrack_any (h.keep q0_1) hs 1048576 (by omega) (by omega)).mono ?_
  rintro e w_2 ⟨r, rfl, hr, hb_2⟩
  have q0_2 := q0_1.trans (hb_2.mono q0_1.size)
  have A_2 := keepHeap hb_2 A_1
  have sz_2 := hb_2.size
  clear q0_1 A_1 cA_1
  clear hb_2
  rcases hr with rfl | ⟨hr0, hr1⟩
  · go_wp2_with (fail)
    go_ret
    exact ⟨rfl, q0_2⟩
  have zr : decide (r < 0) = false := by simpa using hr0
  have hn : xs.length ≤ 1048576 := by omega
  clear hr1 hbig
  have hspec := fun {W : World} {v u : Value} (h1 : RdI W v xs) (h2 : RdI W u ys) => addInputs_spec h1 h2 hn hyl f
  have himpl := fun {W : World} {v u : Value} (h1 : RdI W v xs) (hc1 : CapI v) (h2 : RdI W u ys) (hc2 : CapI u) => addInputs_impl h1 hc1 h2 hc2 hn hyl f
  unfold RetAd at hspec himpl
  have hll : (addT xs f ys).length ≤ 1048576 := addT_len hn
  obtain ⟨L, hL⟩ : ∃ L, L = addT xs f ys := ⟨_, rfl⟩
  obtain ⟨b, hB⟩ : ∃ b, b = addB xs f ys := ⟨_, rfl⟩
  simp only [← hL, ← hB] at hspec himpl hll
  clear hL hB
  have cA_2 := rowCells A_2
  go_wp2_with (fail)
  refine (toTrack_cap (h.keep q0_2) (by omega)).mono ?_
  rintro e w_3 ⟨va, rfl, oa, ka, hb_3⟩
  have q0_3 := q0_2.trans (hb_3.mono q0_2.size)
  have A_3 := keepHeap hb_3 A_2
  have sz_3 := hb_3.size
  clear q0_2 A_2 cA_2
  clear hb_3
  have qTa_3 : Below w_3.heap.size w_3 w_3 := Below.refl _ _
  obtain ⟨aa, ca, rfl, -⟩ := id oa.rd
  have cA_3 := rowCells A_3
  go_wp2_with (fail)
  refine (toIntS_cap (h'.keep q0_3) (by omega)).mono ?_
  rintro e w_4 ⟨vb, rfl, ob, kb, hb_4⟩
  have q0_4 := q0_3.trans (hb_4.mono q0_3.size)
  have qTa_4 := qTa_3.trans (hb_4.mono qTa_3.size)
  have A_4 := keepHeap hb_4 A_3
  have sz_4 := hb_4.size
  clear q0_3 qTa_3 A_3 cA_3
  clear hb_4
  have qTb_4 : Below w_4.heap.size w_4 w_4 := Below.refl _ _
  obtain ⟨ab, cb, rfl, -⟩ := id ob.rd
  have cA_4 := rowCells A_4
  go_wp2_with (fail)
  refine (hspec (oa.rd.keep qTa_4) (ob.rd.keep qTb_4)).mono ?_
  rintro e w_5 ⟨v5, rfl, o5, hb_5⟩
  have q0_5 := q0_4.trans (hb_5.mono q0_4.size)
  have qTa_5 := qTa_4.trans (hb_5.mono qTa_4.size)
  have qTb_5 := qTb_4.trans (hb_5.mono qTb_4.size)
  have A_5 := keepHeap hb_5 A_4
  have sz_5 := hb_5.size
  clear q0_4 qTa_4 qTb_4 A_4 cA_4
  clear hb_5
  obtain ⟨a5, c5, rfl, -⟩ := id o5.rd
  clear oa ka ob kb qTa_5 qTb_5
  have qS_5 : Below w_5.heap.size w_5 w_5 := Below.refl _ _
  obtain ⟨w_6, hw_6, P_6, hb_6⟩ : ∃ W, w_5.alloc (.cells #[.slice a5 L.length c5] 26) = W ∧ W.heap[w_5.heap.size]? = some (.cells #[.slice a5 L.length c5] 26 (0, 0)) ∧ Below w_5.heap.size w_5 W := ⟨_, rfl, heap_alloc_new _ _, below1 _ _⟩
  have q0_6 := q0_5.trans (hb_6.mono q0_5.size)
  have qS_6 := qS_5.trans (hb_6.mono qS_5.size)
  have A_6 := keepHeap hb_6 A_5
  have sz_6 := hb_6.size
  clear q0_5 qS_5 A_5
  clear hb_6
  have ltP : w_5.heap.size < w_6.heap.size := blockLt P_6
  have cA_6 := rowCells A_6
  have cP_6 := rowCells P_6
  go_wp2_with (fail)
  try rw [hw_6]
  clear hw_6
  refine (toTrack_cap (h.keep q0_6) (by omega)).mono ?_
  rintro e w_7 ⟨vx, rfl, ox, kx, hb_7⟩
  have q0_7 := q0_6.trans (hb_7.mono q0_6.size)
  have qS_7 := qS_6.trans (hb_7.mono qS_6.size)
  have A_7 := keepHeap hb_7 A_6
  have P_7 := keepHeap hb_7 P_6
  have sz_7 := hb_7.size
  clear q0_6 qS_6 A_6 P_6 cA_6 cP_6
  clear hb_7
  have qTx_7 : Below w_7.heap.size w_7 w_7 := Below.refl _ _
  obtain ⟨ax, cx, rfl, -⟩ := id ox.rd
  obtain ⟨w_8, hw_8, X_8, hb_8⟩ : ∃ W, w_7.alloc (.cells #[.slice ax xs.length cx] 26) = W ∧ W.heap[w_7.heap.size]? = some (.cells #[.slice ax xs.length cx] 26 (0, 0)) ∧ Below w_7.heap.size w_7 W := ⟨_, rfl, heap_alloc_new _ _, below1 _ _⟩
  have q0_8 := q0_7.trans (hb_8.mono q0_7.size)
  have qS_8 := qS_7.trans (hb_8.mono qS_7.size)
  have qTx_8 := qTx_7.trans (hb_8.mono qTx_7.size)
  have A_8 := keepHeap hb_8 A_7
  have P_8 := keepHeap hb_8 P_7
  have sz_8 := hb_8.size
  clear q0_7 qS_7 qTx_7 A_7 P_7
  clear hb_8
  have ltX : w_7.heap.size < w_8.heap.size := blockLt X_8
  have cA_8 := rowCells A_8
  have cP_8 := rowCells P_8
  have cX_8 := rowCells X_8
  go_wp2_with (fail)
  try rw [hw_8]
  clear hw_8
  refine (toIntS_cap (h'.keep q0_8) (by omega)).mono ?_
  rintro e w_9 ⟨vy, rfl, oy, ky, hb_9⟩
  have q0_9 := q0_8.trans (hb_9.mono q0_8.size)
  have qS_9 := qS_8.trans (hb_9.mono qS_8.size)
  have qTx_9 := qTx_8.trans (hb_9.mono qTx_8.size)
  have A_9 := keepHeap hb_9 A_8
  have P_9 := keepHeap hb_9 P_8
  have X_9 := keepHeap hb_9 X_8
  have sz_9 := hb_9.size
  clear q0_8 qS_8 qTx_8 A_8 P_8 X_8 cA_8 cP_8 cX_8
  clear hb_9
  have qTy_9 : Below w_9.heap.size w_9 w_9 := Below.refl _ _
  obtain ⟨ay, cy, rfl, -⟩ := id oy.rd
  have cA_9 := rowCells A_9
  have cP_9 := rowCells P_9
  have cX_9 := rowCells X_9
  go_wp2_with (fail)
  refine (himpl (ox.rd.keep qTx_9) kx (oy.rd.keep qTy_9) ky).mono ?_
  rintro e w_10 ⟨v6, rfl, o6, hb_10⟩
  have q0_10 := q0_9.trans (hb_10.mono q0_9.size)
  have qS_10 := qS_9.trans (hb_10.mono qS_9.size)
  have qTx_10 := qTx_9.trans (hb_10.mono qTx_9.size)
  have qTy_10 := qTy_9.trans (hb_10.mono qTy_9.size)
  have A_10 := keepHeap hb_10 A_9
  have P_10 := keepHeap hb_10 P_9
  have X_10 := keepHeap hb_10 X_9
  have sz_10 := hb_10.size
  clear q0_9 qS_9 qTx_9 qTy_9 A_9 P_9 X_9 cA_9 cP_9 cX_9
  clear hb_10
  obtain ⟨a6, c6, rfl, -⟩ := id o6.rd
  have qG_10 : Below w_10.heap.size w_10 w_10 := Below.refl _ _
  obtain ⟨w_11, hw_11, G_11, hb_11⟩ : ∃ W, w_10.alloc (.cells #[.slice a6 L.length c6] 26) = W ∧ W.heap[w_10.heap.size]? = some (.cells #[.slice a6 L.length c6] 26 (0, 0)) ∧ Below w_10.heap.size w_10 W := ⟨_, rfl, heap_alloc_new _ _, below1 _ _⟩
  have q0_11 := q0_10.trans (hb_11.mono q0_10.size)
  have qS_11 := qS_10.trans (hb_11.mono qS_10.size)
  have qTx_11 := qTx_10.trans (hb_11.mono qTx_10.size)
  have qTy_11 := qTy_10.trans (hb_11.mono qTy_10.size)
  have qG_11 := qG_10.trans (hb_11.mono qG_10.size)
  have A_11 := keepHeap hb_11 A_10
  have P_11 := keepHeap hb_11 P_10
  have X_11 := keepHeap hb_11 X_10
  have sz_11 := hb_11.size
  clear q0_10 qS_10 qTx_10 qTy_10 qG_10 A_10 P_10 X_10
  clear hb_11
  have ltG : w_10.heap.size < w_11.heap.size := blockLt G_11
  have cA_11 := rowCells A_11
  have cP_11 := rowCells P_11
  have cX_11 := rowCells X_11
  have cG_11 := rowCells G_11
  go_wp2_with (fail)
  try rw [hw_11]
  clear hw_11
  refine (eqTrack_same (o6.rd.keep qG_11) (o5.rd.keep qS_11) (by omega)).mono ?_
  rintro e w_12 ⟨rfl, hb_12⟩
  have q0_12 := q0_11.trans (hb_12.mono q0_11.size)
  have qS_12 := qS_11.trans (hb_12.mono qS_11.size)
  have qTx_12 := qTx_11.trans (hb_12.mono qTx_11.size)
  have qTy_12 := qTy_11.trans (hb_12.mono qTy_11.size)
  have qG_12 := qG_11.trans (hb_12.mono qG_11.size)
  have A_12 := keepHeap hb_12 A_11
  have P_12 := keepHeap hb_12 P_11
  have X_12 := keepHeap hb_12 X_11
  have G_12 := keepHeap hb_12 G_11
  have sz_12 := hb_12.size
  clear q0_11 qS_11 qTx_11 qTy_11 qG_11 A_11 P_11 X_11 G_11 cA_11 cP_11 cX_11 cG_11
  clear hb_12
  have cA_12 := rowCells A_12
  have cX_12 := rowCells X_12
  go_wp2_with (fail)
  have ra := (h.keep q0_12)
  have rx := (ox.rd.keep qTx_12)
  go_region_held3 (fun w' => (∀ j, w'.cell? ⟨w.heap.size, j, none⟩ = #[Value.slice a xs.length cap][j]?) ∧ (∀ j, w'.cell? ⟨w_7.heap.size, j, none⟩ = #[Value.slice ax xs.length cx][j]?)) (first | go_keep | (exact ⟨cA8, cX8⟩) | exact ⟨cA9, cX9⟩)
    (first
    | (go_at_call 11; refine (toTrack_any (RdI.keep ra (belowDrew _ 1)) (by omega)).mono ?_; rintro e w8 ⟨v8, rfl, wr8, hb8⟩; have hA8 := keepHeap hb8 (keepHeap (belowDrew _ 1) A_12); have hX8 := keepHeap hb8 (keepHeap (belowDrew _ 1) X_12); have cA8 := rowCells hA8; have cX8 := rowCells hX8; have rd8 := wr8.rd; obtain ⟨a8, c8, rfl, -⟩ := id rd8; have rdx8 := (RdI.keep rx (belowDrew _ 1)).keep hb8; have hb18 := (belowDrew w_12 1).trans (hb8.mono (by simp)))
    | (go_at_call 14; refine (eqTrack_same rdx8 rd8 (by omega)).mono ?_; rintro e w9 ⟨rfl, hb9⟩; have cA9 := rowCells (keepHeap hb9 hA8); have cX9 := rowCells (keepHeap hb9 hX8); have hb19 := hb18.trans (hb9.mono hb18.size)))
  clear ra rx cA8 cX8 cA9 cX9 hA8 hX8 hb9 hb18 rdx8 rd8 wr8 hb8
  have q0_13 := q0_12.trans (hb19.mono q0_12.size)
  have qS_13 := qS_12.trans (hb19.mono qS_12.size)
  have qTx_13 := qTx_12.trans (hb19.mono qTx_12.size)
  have qTy_13 := qTy_12.trans (hb19.mono qTy_12.size)
  have qG_13 := qG_12.trans (hb19.mono qG_12.size)
  have A_13 := keepHeap hb19 A_12
  have P_13 := keepHeap hb19 P_12
  have X_13 := keepHeap hb19 X_12
  have G_13 := keepHeap hb19 G_12
  have sz_13 := hb19.size
  clear q0_12 qS_12 qTx_12 qTy_12 qG_12 A_12 P_12 X_12 G_12 cA_12 cX_12
  clear hb19
  have cA_13 := rowCells A_13
  have cP_13 := rowCells P_13
  have cX_13 := rowCells X_13
  have cG_13 := rowCells G_13
  go_wp2_with (fail)
  refine (toIntS_cap (h'.keep q0_13) (by omega)).mono ?_
  rintro e w_14 ⟨vz, rfl, oz, kz, hb_14⟩
  have q0_14 := q0_13.trans (hb_14.mono q0_13.size)
  have qS_14 := qS_13.trans (hb_14.mono qS_13.size)
  have qTx_14 := qTx_13.trans (hb_14.mono qTx_13.size)
  have qTy_14 := qTy_13.trans (hb_14.mono qTy_13.size)
  have qG_14 := qG_13.trans (hb_14.mono qG_13.size)
  have A_14 := keepHeap hb_14 A_13
  have P_14 := keepHeap hb_14 P_13
  have X_14 := keepHeap hb_14 X_13
  have G_14 := keepHeap hb_14 G_13
  have sz_14 := hb_14.size
  clear q0_13 qS_13 qTx_13 qTy_13 qG_13 A_13 P_13 X_13 G_13 cA_13 cP_13 cX_13 cG_13
  clear hb_14
  have qZ_14 : Below w_14.heap.size w_14 w_14 := Below.refl _ _
  obtain ⟨az, cz, rfl, -⟩ := id oz.rd
  have cA_14 := rowCells A_14
  have cP_14 := rowCells P_14
  have cX_14 := rowCells X_14
  have cG_14 := rowCells G_14
  go_wp2_with (fail)
  refine (eqIntS_same (oy.rd.keep qTy_14) (oz.rd.keep qZ_14) (by omega)).mono ?_
  rintro e w_15 ⟨rfl, m_15, hw_15⟩
  have hb_15 : Below w_14.heap.size w_14 w_15 := by rw [hw_15]; exact belowDrew _ _
  clear hw_15
  have q0_15 := q0_14.trans (hb_15.mono q0_14.size)
  have qS_15 := qS_14.trans (hb_15.mono qS_14.size)
  have qTx_15 := qTx_14.trans (hb_15.mono qTx_14.size)
  have qTy_15 := qTy_14.trans (hb_15.mono qTy_14.size)
  have qG_15 := qG_14.trans (hb_15.mono qG_14.size)
  have qZ_15 := qZ_14.trans (hb_15.mono qZ_14.size)
  have A_15 := keepHeap hb_15 A_14
  have P_15 := keepHeap hb_15 P_14
  have X_15 := keepHeap hb_15 X_14
  have G_15 := keepHeap hb_15 G_14
  have sz_15 := hb_15.size
  clear q0_14 qS_14 qTx_14 qTy_14 qG_14 qZ_14 A_14 P_14 X_14 G_14 cA_14 cP_14 cX_14 cG_14
  clear hb_15
  clear oz kz qZ_15
  have mx : OwnIn w_15 w_6.heap.size w_7.heap.size (.slice ax xs.length cx) xs := (OwnIn.of ox).keep qTx_15
  have my : OwnIn w_15 w_8.heap.size w_9.heap.size (.slice ay ys.length cy) ys := (OwnIn.of oy).keep qTy_15
  have mg : OwnIn w_15 w_9.heap.size w_10.heap.size (.slice a6 L.length c6) L := (OwnIn.of o6).keep qG_15
  clear ox kx oy ky o6 qTx_15 qTy_15 qG_15
  have cX_15 := rowCells X_15
  go_wp2_with (fail)
  refine (markTrack_full mx (by omega) hn 1 (by omega) (by omega)).mono ?_
  rintro e w_16 ⟨rfl, -, far_16⟩
  have q0_16 := q0_15.trans (far_16.1.mono (by omega))
  have qS_16 := qS_15.trans (far_16.1.mono (by omega))
  have A_16 := keepHeapFar far_16 A_15 (by omega)
  have P_16 := keepHeapFar far_16 P_15 (by omega)
  have G_16 := keepHeapFar far_16 G_15 (by omega)
  have my := my.afar far_16 (by omega)
  have mg := mg.afar far_16 (by omega)
  have sz_16 := far_16.1.size
  clear q0_15 qS_15 A_15 P_15 X_15 G_15 cX_15 far_16
  have zk : decide ((1 : Int) + (xs.length : Int) + (ys.length : Int) < 0) = false := by simp; omega
  clear mx
  go_wp2_with (fail)
  refine (markIntS_far my hyl (1 + (xs.length : Int)) (by omega) (by omega) (markIntS_full my hyl _ (by omega) (by omega))).mono ?_
  rintro e w_17 ⟨rfl, -, far_17⟩
  have q0_17 := q0_16.trans (far_17.1.mono (by omega))
  have qS_17 := qS_16.trans (far_17.1.mono (by omega))
  have A_17 := keepHeapFar far_17 A_16 (by omega)
  have P_17 := keepHeapFar far_17 P_16 (by omega)
  have G_17 := keepHeapFar far_17 G_16 (by omega)
  have mg := mg.afar far_17 (by omega)
  have sz_17 := far_17.1.size
  clear q0_16 qS_16 A_16 P_16 G_16 far_17
  clear my
  have cP_17 := rowCells P_17
  have cG_17 := rowCells G_17
  go_wp2_with (fail)
  refine (eqTrack_same mg.rd (o5.rd.keep qS_17) (by omega)).mono ?_
  rintro e w_18 ⟨rfl, hb_18⟩
  have q0_18 := q0_17.trans (hb_18.mono q0_17.size)
  have qS_18 := qS_17.trans (hb_18.mono qS_17.size)
  have A_18 := keepHeap hb_18 A_17
  have P_18 := keepHeap hb_18 P_17
  have G_18 := keepHeap hb_18 G_17
  have sz_18 := hb_18.size
  clear q0_17 qS_17 A_17 P_17 G_17 cP_17 cG_17
  have mg := mg.keep hb_18
  clear hb_18
  have cG_18 := rowCells G_18
  go_wp2_with (fail)
  refine (markTrack_full mg (by omega) (by omega) 1 (by omega) (by omega)).mono ?_
  rintro e w_19 ⟨rfl, mg, far_19⟩
  have q0_19 := q0_18.trans (far_19.1.mono (by omega))
  have qS_19 := qS_18.trans (far_19.1.mono (by omega))
  have A_19 := keepHeapFar far_19 A_18 (by omega)
  have P_19 := keepHeapFar far_19 P_18 (by omega)
  have G_19 := keepHeapFar far_19 G_18 (by omega)
  have sz_19 := far_19.1.size
  clear q0_18 qS_18 A_18 P_18 G_18 cG_18 far_19
  have zq : decide ((1 : Int) + (L.length : Int) < 0) = false := by simp; omega
  have cG_19 := rowCells G_19
  go_wp2_with (fail)
  refine (heldTrack_any L.length 1 mg.rd (by omega) (by omega) (by omega)).mono ?_
  rintro e w_20 ⟨rfl, hb_20⟩
  have q0_20 := q0_19.trans (hb_20.mono q0_19.size)
  have qS_20 := qS_19.trans (hb_20.mono qS_19.size)
  have A_20 := keepHeap hb_20 A_19
  have P_20 := keepHeap hb_20 P_19
  have G_20 := keepHeap hb_20 G_19
  have sz_20 := hb_20.size
  clear q0_19 qS_19 A_19 P_19 G_19 cG_19
  have mg := mg.keep hb_20
  clear hb_20
  have qM_20 : Below w_20.heap.size w_20 w_20 := Below.refl _ _
  have cA_20 := rowCells A_20
  go_wp2_with (fail)
  refine (toTrack_cap (h.keep q0_20) (by omega)).mono ?_
  rintro e w_21 ⟨vd, rfl, od, kd, hb_21⟩
  have q0_21 := q0_20.trans (hb_21.mono q0_20.size)
  have qS_21 := qS_20.trans (hb_21.mono qS_20.size)
  have qM_21 := qM_20.trans (hb_21.mono qM_20.size)
  have A_21 := keepHeap hb_21 A_20
  have P_21 := keepHeap hb_21 P_20
  have G_21 := keepHeap hb_21 G_20
  have sz_21 := hb_21.size
  clear q0_20 qS_20 qM_20 A_20 P_20 G_20 cA_20
  clear hb_21
  have qTd_21 : Below w_21.heap.size w_21 w_21 := Below.refl _ _
  obtain ⟨ad, cd, rfl, -⟩ := id od.rd
  go_wp2_with (fail)
  refine (toIntS_cap (h'.keep q0_21) (by omega)).mono ?_
  rintro e w_22 ⟨ve, rfl, oe, ke, hb_22⟩
  have q0_22 := q0_21.trans (hb_22.mono q0_21.size)
  have qS_22 := qS_21.trans (hb_22.mono qS_21.size)
  have qM_22 := qM_21.trans (hb_22.mono qM_21.size)
  have qTd_22 := qTd_21.trans (hb_22.mono qTd_21.size)
  have A_22 := keepHeap hb_22 A_21
  have P_22 := keepHeap hb_22 P_21
  have G_22 := keepHeap hb_22 G_21
  have sz_22 := hb_22.size
  clear q0_21 qS_21 qM_21 qTd_21 A_21 P_21 G_21
  clear hb_22
  have qTe_22 : Below w_22.heap.size w_22 w_22 := Below.refl _ _
  obtain ⟨ae, ce, rfl, -⟩ := id oe.rd
  go_wp2_with (fail)
  refine (himpl (od.rd.keep qTd_22) kd (oe.rd.keep qTe_22) ke).mono ?_
  rintro e w_23 ⟨v7, rfl, o7, hb_23⟩
  have q0_23 := q0_22.trans (hb_23.mono q0_22.size)
  have qS_23 := qS_22.trans (hb_23.mono qS_22.size)
  have qM_23 := qM_22.trans (hb_23.mono qM_22.size)
  have qTd_23 := qTd_22.trans (hb_23.mono qTd_22.size)
  have qTe_23 := qTe_22.trans (hb_23.mono qTe_22.size)
  have A_23 := keepHeap hb_23 A_22
  have P_23 := keepHeap hb_23 P_22
  have G_23 := keepHeap hb_23 G_22
  have sz_23 := hb_23.size
  clear q0_22 qS_22 qM_22 qTd_22 qTe_22 A_22 P_22 G_22
  clear hb_23
  obtain ⟨a7, c7, rfl, -⟩ := id o7.rd
  have qH_23 : Below w_23.heap.size w_23 w_23 := Below.refl _ _
  obtain ⟨w_24, hw_24, H_24, hb_24⟩ : ∃ W, w_23.alloc (.cells #[.slice a7 L.length c7] 26) = W ∧ W.heap[w_23.heap.size]? = some (.cells #[.slice a7 L.length c7] 26 (0, 0)) ∧ Below w_23.heap.size w_23 W := ⟨_, rfl, heap_alloc_new _ _, below1 _ _⟩
  have q0_24 := q0_23.trans (hb_24.mono q0_23.size)
  have qS_24 := qS_23.trans (hb_24.mono qS_23.size)
  have qM_24 := qM_23.trans (hb_24.mono qM_23.size)
  have qTd_24 := qTd_23.trans (hb_24.mono qTd_23.size)
  have qTe_24 := qTe_23.trans (hb_24.mono qTe_23.size)
  have qH_24 := qH_23.trans (hb_24.mono qH_23.size)
  have A_24 := keepHeap hb_24 A_23
  have P_24 := keepHeap hb_24 P_23
  have G_24 := keepHeap hb_24 G_23
  have sz_24 := hb_24.size
  clear q0_23 qS_23 qM_23 qTd_23 qTe_23 qH_23 A_23 P_23 G_23
  clear hb_24
  have cP_24 := rowCells P_24
  have cH_24 := rowCells H_24
  go_wp2_with (fail)
  try rw [hw_24]
  clear hw_24
  refine (eqTrack_same (o7.rd.keep qH_24) (o5.rd.keep qS_24) (by omega)).mono ?_
  rintro e w_25 ⟨rfl, hb_25⟩
  have q0_25 := q0_24.trans (hb_25.mono q0_24.size)
  have qS_25 := qS_24.trans (hb_25.mono qS_24.size)
  have qM_25 := qM_24.trans (hb_25.mono qM_24.size)
  have qTd_25 := qTd_24.trans (hb_25.mono qTd_24.size)
  have qTe_25 := qTe_24.trans (hb_25.mono qTe_24.size)
  have qH_25 := qH_24.trans (hb_25.mono qH_24.size)
  have A_25 := keepHeap hb_25 A_24
  have P_25 := keepHeap hb_25 P_24
  have G_25 := keepHeap hb_25 G_24
  have H_25 := keepHeap hb_25 H_24
  have sz_25 := hb_25.size
  clear q0_24 qS_24 qM_24 qTd_24 qTe_24 qH_24 A_24 P_24 G_24 H_24 cP_24 cH_24
  clear hb_25
  have cG_25 := rowCells G_25
  go_wp2_with (fail)
  refine (heldTrack_any L.length 1 (mg.rd.keep qM_25) (by omega) (by omega) (by omega)).mono ?_
  rintro e w_26 ⟨rfl, hb_26⟩
  have q0_26 := q0_25.trans (hb_26.mono q0_25.size)
  have qS_26 := qS_25.trans (hb_26.mono qS_25.size)
  have qM_26 := qM_25.trans (hb_26.mono qM_25.size)
  have qTd_26 := qTd_25.trans (hb_26.mono qTd_25.size)
  have qTe_26 := qTe_25.trans (hb_26.mono qTe_25.size)
  have qH_26 := qH_25.trans (hb_26.mono qH_25.size)
  have A_26 := keepHeap hb_26 A_25
  have P_26 := keepHeap hb_26 P_25
  have G_26 := keepHeap hb_26 G_25
  have H_26 := keepHeap hb_26 H_25
  have sz_26 := hb_26.size
  clear q0_25 qS_25 qM_25 qTd_25 qTe_25 qH_25 A_25 P_25 G_25 H_25 cG_25
  clear hb_26
  go_wp2_with (fail)
  go_ret
  exact ⟨rfl, q0_26⟩
theorem lawAddInputsR {w : World} (v : Value) (xs : List Int) (h : RdI w v xs) (hs : xs.length ≤ 9223372036854775807) (f : Int) (wf : (Lit.int .i64 f).wf = true) (a : Option Addr) (len cap : Nat) (zs : List Int) (hr : IsRow .i64 w a len cap zs) :
    Calls Try.prog 3 #[.agg #[v], .int .i64 f, .slice a len cap] w fun e w' => e = .returned (.bool true) ∧ Below w.heap.size w w' := by
  obtain ⟨hrd, hl, -⟩ := RdI.of_row hr
  have hm : len ≤ maxLen := by
    rcases hr with ⟨_, rfl, _⟩ | ⟨x, _, h1, h2, _⟩
    · exact Nat.zero_le _
    · exact Nat.le_trans h1 h2
  unfold maxLen at hm
  exact lawAddInputs v xs h hs f wf _ _ hrd (by omega)
end Go.Proofs.Ytnjjpeblbfomoaa
