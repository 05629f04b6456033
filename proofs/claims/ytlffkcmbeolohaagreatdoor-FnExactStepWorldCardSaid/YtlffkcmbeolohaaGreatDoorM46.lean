/-
  Texts of this proof: TkWL.
-/
import Derived.Test.YtlffkcmbeolohaaGreatDoorM45
import Derived.Test.YtlffkcmbeolohaaGreatDoorM35
namespace Go.Proofs.YtlffkcmbeolohaaGreatDoor
open Go.RowKit
set_option linter.all false
theorem worldB_few {x : Wd} (h : worldB x = true) : x.few := by
  have hf := fineX_of h
  obtain ⟨-, h12, -⟩ := levelB_facts hf.1
  exact ⟨by omega, by have := hf.2.1; omega, by have := hf.2.2.2.2.1; omega⟩
theorem stepW_few {x : Wd} {row : List Int} (h : x.few) : (stepW x row).few := by
  cases hq : worldB x with
  | false => rw [step_no (sok_w hq)]; exact h
  | true => exact worldB_few (stepW_ok hq)
set_option maxRecDepth 100000 in
set_option maxHeartbeats 8000000 in
theorem lawStepWorld {w : World} (x : Wd) (vl vs vb : Value) (h : RdW w x vl vs vb) (hs : x.sane) (u : Value) (ys : List Int) (h' : RdI w u ys) (hs' : ys.length ≤ 9223372036854775807) :
    Calls Tryz.prog 3 #[.agg (wdC x vl vs vb), u] w fun e w' => e = .returned (.bool true) ∧ Below w.heap.size w w' := by
  have h0 := h
  obtain ⟨alA, clA, rfl, -⟩ := id h.1
  obtain ⟨aqA, cqA, rfl, -⟩ := id h.2.1
  obtain ⟨abA, cbA, rfl, -⟩ := id h.2.2
  obtain ⟨au, cu, rfl, -⟩ := id h'
  obtain ⟨w_1, hW, A_1, q0_1, -⟩ := rows1 w #[Value.slice alA x.rows.length clA, .int .i64 x.tick, .int .i64 x.seed, .slice aqA x.scores.length cqA, .slice abA x.bods.length cbA] 28
  have sz_1 := q0_1.size
  have ltA : w.heap.size < w_1.heap.size := blockLt A_1
  have hly : (ys.length : Int) ≤ 9223372036854775807 := by omega
  unfold wdC
  by_cases hbig : (1048576 : Int) < (ys.length : Int)
  · have z0 : decide ((1048576 : Int) < (ys.length : Int)) = true := by simpa using hbig
    go_enter Tryz.func3, Tryz.ntmps3
    go_wp2_with (fail)
    go_ret
    exact ⟨rfl, q0_1⟩
  have z0 : decide ((1048576 : Int) < (ys.length : Int)) = false := by simpa using hbig
  have hyl : ys.length ≤ 1048576 := by omega
  go_enter Tryz.func3, Tryz.ntmps3
  have cA_1 := rowCells A_1
  go_wp2_with (fail)
  try rw [hW]
  clear hW
  refine (szWorld_any (h0.keep q0_1) hs 1048576 (by omega) (by omega)).mono ?_
  rintro e w_2 ⟨r, rfl, hr, hb_2⟩
  have q0_2 := q0_1.trans (hb_2.mono q0_1.size)
  have A_2 := keepHeap hb_2 A_1
  have sz_2 := hb_2.size
  clear q0_1 A_1 cA_1
  clear hb_2
  rcases hr with rfl | ⟨hr0, hr1⟩
  · go_wp2_with (fail)
    go_ret
    exact ⟨rfl, q0_2⟩
  have zr : decide (r < 0) = false := by simpa using hr0
  have hn : x.few := ⟨by omega, by omega, by omega⟩
  have hX : x.marksN ≤ 100000000 := by unfold Wd.marksN; omega
  clear hr1 hbig
  have hto := fun {W : World} {vl vs vb : Value} (h1 : RdW W x vl vs vb) => toWorld_any h1 hn
  have hspec := fun {W : World} {vl vs vb u : Value} (h1 : RdW W x vl vs vb) (h2 : RdI W u ys) => stepWorld_spec h1 hs hn h2 hs'
  have himpl := fun {W : World} {vl vs vb u : Value} (h1 : RdW W x vl vs vb) (h2 : RdI W u ys) => stepWorld_impl h1 hs hn h2 hs'
  have hfy : (stepW x ys).few := stepW_few hn
  generalize stepW x ys = y at hspec himpl hfy
  have heqx := fun {W : World} {vl vs vb vl' vs' vb' : Value} (h1 : RdW W x vl vs vb) (h2 : RdW W x vl' vs' vb') => eqWorld_same h1 h2 hn
  have heq := fun {W : World} {vl vs vb vl' vs' vb' : Value} (h1 : RdW W y vl vs vb) (h2 : RdW W y vl' vs' vb') => eqWorld_same h1 h2 hfy
  have hmx := fun {W : World} {lo hi : Nat} {vl vs vb : Value} (h1 : OwnWIn W lo hi x vl vs vb) (h2 : hi ≤ W.heap.size) => markWorld_far h1 h2 hn 1 (by omega) (by omega)
  have hmk := fun {W : World} {lo hi : Nat} {vl vs vb : Value} (h1 : OwnWIn W lo hi y vl vs vb) (h2 : hi ≤ W.heap.size) => markWorld_far h1 h2 hfy 1 (by omega) (by omega)
  have hhd := fun {W : World} {vl vs vb : Value} (h1 : RdW W (y.marked 1) vl vs vb) => heldWorld_any y 1 h1 hfy (by omega) (by omega) y.tick y.seed
  rw [show ((1 : Nat) : Int) = 1 from rfl] at hmx hmk hhd
  unfold RetWd at hto
  unfold RetStW at hspec himpl
  unfold wdC at hto hspec himpl heqx heq hmx hmk
  obtain ⟨mX, hmX⟩ : ∃ m, m = 1 + x.marksN := ⟨_, rfl⟩
  obtain ⟨mN, hmN⟩ : ∃ m, m = 1 + y.marksN := ⟨_, rfl⟩
  rw [← hmX] at hmx
  rw [← hmN] at hmk hhd
  have hmx24 : (mX : Int) ≤ 1000000000 := by omega
  have zN : decide ((mN : Int) < 0) = false := by simp
  clear hmX hmN hX
  have cA_2 := rowCells A_2
  go_wp2_with (fail)
  refine (hto (h0.keep q0_2)).mono ?_
  rintro e w_3 ⟨vl1, vs1, vb1, rfl, o1, k1, hb_3⟩
  have q0_3 := q0_2.trans (hb_3.mono q0_2.size)
  have A_3 := keepHeap hb_3 A_2
  have sz_3 := hb_3.size
  clear q0_2 A_2 cA_2
  clear hb_3
  have qT1_3 : Below w_3.heap.size w_3 w_3 := Below.refl _ _
  have rd1 := o1.rd
  obtain ⟨al1, cl1, rfl, -⟩ := id rd1.1
  obtain ⟨aq1, cq1, rfl, -⟩ := id rd1.2.1
  obtain ⟨ab1, cb1, rfl, -⟩ := id rd1.2.2
  clear rd1
  have cA_3 := rowCells A_3
  go_wp2_with (fail)
  refine (toIntS_cap (h'.keep q0_3) (by omega)).mono ?_
  rintro e w_4 ⟨vb, rfl, ob, kb, hb_4⟩
  have q0_4 := q0_3.trans (hb_4.mono q0_3.size)
  have qT1_4 := qT1_3.trans (hb_4.mono qT1_3.size)
  have A_4 := keepHeap hb_4 A_3
  have sz_4 := hb_4.size
  clear q0_3 qT1_3 A_3 cA_3
  clear hb_4
  have qTb_4 : Below w_4.heap.size w_4 w_4 := Below.refl _ _
  obtain ⟨ab, cb, rfl, -⟩ := id ob.rd
  have cA_4 := rowCells A_4
  go_wp2_with (fail)
  refine (hspec (o1.rd.keep qT1_4) (ob.rd.keep qTb_4)).mono ?_
  rintro e w_5 ⟨vlP, vsP, vbP, rfl, oP, -, hb_5⟩
  have q0_5 := q0_4.trans (hb_5.mono q0_4.size)
  have qT1_5 := qT1_4.trans (hb_5.mono qT1_4.size)
  have qTb_5 := qTb_4.trans (hb_5.mono qTb_4.size)
  have A_5 := keepHeap hb_5 A_4
  have sz_5 := hb_5.size
  clear q0_4 qT1_4 qTb_4 A_4 cA_4
  clear hb_5
  have qSP_5 : Below w_5.heap.size w_5 w_5 := Below.refl _ _
  have rdP := oP.rd
  obtain ⟨alP, clP, rfl, -⟩ := id rdP.1
  obtain ⟨aqP, cqP, rfl, -⟩ := id rdP.2.1
  obtain ⟨abP, cbP, rfl, -⟩ := id rdP.2.2
  clear rdP
  clear o1 k1 ob kb qT1_5 qTb_5
  obtain ⟨w_6, hw_6, P_6, hb_6⟩ : ∃ W, w_5.alloc (.cells #[Value.slice alP y.rows.length clP, .int .i64 y.tick, .int .i64 y.seed, .slice aqP y.scores.length cqP, .slice abP y.bods.length cbP] 33) = W ∧ W.heap[w_5.heap.size]? = some (.cells #[Value.slice alP y.rows.length clP, .int .i64 y.tick, .int .i64 y.seed, .slice aqP y.scores.length cqP, .slice abP y.bods.length cbP] 33 (0, 0)) ∧ Below w_5.heap.size w_5 W := ⟨_, rfl, heap_alloc_new _ _, below1 _ _⟩
  have q0_6 := q0_5.trans (hb_6.mono q0_5.size)
  have qSP_6 := qSP_5.trans (hb_6.mono qSP_5.size)
  have A_6 := keepHeap hb_6 A_5
  have sz_6 := hb_6.size
  clear q0_5 qSP_5 A_5
  clear hb_6
  have ltP : w_5.heap.size < w_6.heap.size := blockLt P_6
  have cA_6 := rowCells A_6
  have cP_6 := rowCells P_6
  go_wp2_with (fail)
  try rw [hw_6]
  clear hw_6
  refine (hto (h0.keep q0_6)).mono ?_
  rintro e w_7 ⟨vlX, vsX, vbX, rfl, oX, kX, hb_7⟩
  have q0_7 := q0_6.trans (hb_7.mono q0_6.size)
  have qSP_7 := qSP_6.trans (hb_7.mono qSP_6.size)
  have A_7 := keepHeap hb_7 A_6
  have P_7 := keepHeap hb_7 P_6
  have sz_7 := hb_7.size
  clear q0_6 qSP_6 A_6 P_6 cA_6 cP_6
  clear hb_7
  have qTX_7 : Below w_7.heap.size w_7 w_7 := Below.refl _ _
  have rdX := oX.rd
  obtain ⟨alX, clX, rfl, -⟩ := id rdX.1
  obtain ⟨aqX, cqX, rfl, -⟩ := id rdX.2.1
  obtain ⟨abX, cbX, rfl, -⟩ := id rdX.2.2
  clear rdX
  obtain ⟨w_8, hw_8, X_8, hb_8⟩ : ∃ W, w_7.alloc (.cells #[Value.slice alX x.rows.length clX, .int .i64 x.tick, .int .i64 x.seed, .slice aqX x.scores.length cqX, .slice abX x.bods.length cbX] 33) = W ∧ W.heap[w_7.heap.size]? = some (.cells #[Value.slice alX x.rows.length clX, .int .i64 x.tick, .int .i64 x.seed, .slice aqX x.scores.length cqX, .slice abX x.bods.length cbX] 33 (0, 0)) ∧ Below w_7.heap.size w_7 W := ⟨_, rfl, heap_alloc_new _ _, below1 _ _⟩
  have q0_8 := q0_7.trans (hb_8.mono q0_7.size)
  have qSP_8 := qSP_7.trans (hb_8.mono qSP_7.size)
  have qTX_8 := qTX_7.trans (hb_8.mono qTX_7.size)
  have A_8 := keepHeap hb_8 A_7
  have P_8 := keepHeap hb_8 P_7
  have sz_8 := hb_8.size
  clear q0_7 qSP_7 qTX_7 A_7 P_7
  clear hb_8
  have ltX : w_7.heap.size < w_8.heap.size := blockLt X_8
  have cA_8 := rowCells A_8
  have cP_8 := rowCells P_8
  have cX_8 := rowCells X_8
  go_wp2_with (fail)
  try rw [hw_8]
  clear hw_8
  refine (toIntS_cap (h'.keep q0_8) (by omega)).mono ?_
  rintro e w_9 ⟨vy, rfl, oy, ky, hb_9⟩
  have q0_9 := q0_8.trans (hb_9.mono q0_8.size)
  have qSP_9 := qSP_8.trans (hb_9.mono qSP_8.size)
  have qTX_9 := qTX_8.trans (hb_9.mono qTX_8.size)
  have A_9 := keepHeap hb_9 A_8
  have P_9 := keepHeap hb_9 P_8
  have X_9 := keepHeap hb_9 X_8
  have sz_9 := hb_9.size
  clear q0_8 qSP_8 qTX_8 A_8 P_8 X_8 cA_8 cP_8 cX_8
  clear hb_9
  have qTy_9 : Below w_9.heap.size w_9 w_9 := Below.refl _ _
  obtain ⟨ay, cy, rfl, -⟩ := id oy.rd
  have cA_9 := rowCells A_9
  have cP_9 := rowCells P_9
  have cX_9 := rowCells X_9
  go_wp2_with (fail)
  refine (himpl (oX.rd.keep qTX_9) (oy.rd.keep qTy_9)).mono ?_
  rintro e w_10 ⟨vlG, vsG, vbG, rfl, oG, -, hb_10⟩
  have q0_10 := q0_9.trans (hb_10.mono q0_9.size)
  have qSP_10 := qSP_9.trans (hb_10.mono qSP_9.size)
  have qTX_10 := qTX_9.trans (hb_10.mono qTX_9.size)
  have qTy_10 := qTy_9.trans (hb_10.mono qTy_9.size)
  have A_10 := keepHeap hb_10 A_9
  have P_10 := keepHeap hb_10 P_9
  have X_10 := keepHeap hb_10 X_9
  have sz_10 := hb_10.size
  clear q0_9 qSP_9 qTX_9 qTy_9 A_9 P_9 X_9 cA_9 cP_9 cX_9
  clear hb_10
  have qSG_10 : Below w_10.heap.size w_10 w_10 := Below.refl _ _
  have rdG := oG.rd
  obtain ⟨alG, clG, rfl, -⟩ := id rdG.1
  obtain ⟨aqG, cqG, rfl, -⟩ := id rdG.2.1
  obtain ⟨abG, cbG, rfl, -⟩ := id rdG.2.2
  clear rdG
  obtain ⟨w_11, hw_11, G_11, hb_11⟩ : ∃ W, w_10.alloc (.cells #[Value.slice alG y.rows.length clG, .int .i64 y.tick, .int .i64 y.seed, .slice aqG y.scores.length cqG, .slice abG y.bods.length cbG] 33) = W ∧ W.heap[w_10.heap.size]? = some (.cells #[Value.slice alG y.rows.length clG, .int .i64 y.tick, .int .i64 y.seed, .slice aqG y.scores.length cqG, .slice abG y.bods.length cbG] 33 (0, 0)) ∧ Below w_10.heap.size w_10 W := ⟨_, rfl, heap_alloc_new _ _, below1 _ _⟩
  have q0_11 := q0_10.trans (hb_11.mono q0_10.size)
  have qSP_11 := qSP_10.trans (hb_11.mono qSP_10.size)
  have qTX_11 := qTX_10.trans (hb_11.mono qTX_10.size)
  have qTy_11 := qTy_10.trans (hb_11.mono qTy_10.size)
  have qSG_11 := qSG_10.trans (hb_11.mono qSG_10.size)
  have A_11 := keepHeap hb_11 A_10
  have P_11 := keepHeap hb_11 P_10
  have X_11 := keepHeap hb_11 X_10
  have sz_11 := hb_11.size
  clear q0_10 qSP_10 qTX_10 qTy_10 qSG_10 A_10 P_10 X_10
  clear hb_11
  have ltG : w_10.heap.size < w_11.heap.size := blockLt G_11
  have cA_11 := rowCells A_11
  have cP_11 := rowCells P_11
  have cX_11 := rowCells X_11
  have cG_11 := rowCells G_11
  go_wp2_with (fail)
  try rw [hw_11]
  clear hw_11
  refine (heq (oG.rd.keep qSG_11) (oP.rd.keep qSP_11)).mono ?_
  rintro e w_12 ⟨rfl, hb_12⟩
  have q0_12 := q0_11.trans (hb_12.mono q0_11.size)
  have qSP_12 := qSP_11.trans (hb_12.mono qSP_11.size)
  have qTX_12 := qTX_11.trans (hb_12.mono qTX_11.size)
  have qTy_12 := qTy_11.trans (hb_12.mono qTy_11.size)
  have qSG_12 := qSG_11.trans (hb_12.mono qSG_11.size)
  have A_12 := keepHeap hb_12 A_11
  have P_12 := keepHeap hb_12 P_11
  have X_12 := keepHeap hb_12 X_11
  have G_12 := keepHeap hb_12 G_11
  have sz_12 := hb_12.size
  clear q0_11 qSP_11 qTX_11 qTy_11 qSG_11 A_11 P_11 X_11 G_11 cA_11 cP_11 cX_11 cG_11
  clear hb_12
  have cA_12 := rowCells A_12
  have cX_12 := rowCells X_12
  go_wp2_with (fail)
  have ra := (h0.keep q0_12)
  have rx := (oX.rd.keep qTX_12)
  go_region_held3 (fun w' => (∀ j, w'.cell? ⟨w.heap.size, j, none⟩ = #[Value.slice alA x.rows.length clA, .int .i64 x.tick, .int .i64 x.seed, .slice aqA x.scores.length cqA, .slice abA x.bods.length cbA][j]?) ∧ (∀ j, w'.cell? ⟨w_7.heap.size, j, none⟩ = #[Value.slice alX x.rows.length clX, .int .i64 x.tick, .int .i64 x.seed, .slice aqX x.scores.length cqX, .slice abX x.bods.length cbX][j]?)) (first | go_keep | (exact ⟨cA8, cX8⟩) | exact ⟨cA9, cX9⟩)
    (first
    | (go_at_call 10; refine (hto (RdW.keep ra (belowDrew _ 1))).mono ?_; rintro e w8 ⟨vl8, vs8, vb8, rfl, o8, -, hb8⟩; have hA8 := keepHeap hb8 (keepHeap (belowDrew _ 1) A_12); have hX8 := keepHeap hb8 (keepHeap (belowDrew _ 1) X_12); have cA8 := rowCells hA8; have cX8 := rowCells hX8; have rd8 := o8.rd; obtain ⟨al8, cl8, rfl, -⟩ := id rd8.1; obtain ⟨aq8, cq8, rfl, -⟩ := id rd8.2.1; obtain ⟨ab8, cb8, rfl, -⟩ := id rd8.2.2; have rdx8 := (RdW.keep rx (belowDrew _ 1)).keep hb8; have hb18 := (belowDrew w_12 1).trans (hb8.mono (by simp)))
    | (go_at_call 13; refine (heqx rdx8 rd8).mono ?_; rintro e w9 ⟨rfl, hb9⟩; have cA9 := rowCells (keepHeap hb9 hA8); have cX9 := rowCells (keepHeap hb9 hX8); have hb19 := hb18.trans (hb9.mono hb18.size)))
  clear ra rx cA8 cX8 cA9 cX9 hA8 hX8 hb9 hb18 rdx8 rd8 o8 hb8
  have q0_13 := q0_12.trans (hb19.mono q0_12.size)
  have qSP_13 := qSP_12.trans (hb19.mono qSP_12.size)
  have qTX_13 := qTX_12.trans (hb19.mono qTX_12.size)
  have qTy_13 := qTy_12.trans (hb19.mono qTy_12.size)
  have qSG_13 := qSG_12.trans (hb19.mono qSG_12.size)
  have A_13 := keepHeap hb19 A_12
  have P_13 := keepHeap hb19 P_12
  have X_13 := keepHeap hb19 X_12
  have G_13 := keepHeap hb19 G_12
  have sz_13 := hb19.size
  clear q0_12 qSP_12 qTX_12 qTy_12 qSG_12 A_12 P_12 X_12 G_12 cA_12 cX_12
  clear hb19
  go_wp2_with (fail)
  refine (toIntS_cap (h'.keep q0_13) (by omega)).mono ?_
  rintro e w_14 ⟨vz, rfl, oz, kz, hb_14⟩
  have q0_14 := q0_13.trans (hb_14.mono q0_13.size)
  have qSP_14 := qSP_13.trans (hb_14.mono qSP_13.size)
  have qTX_14 := qTX_13.trans (hb_14.mono qTX_13.size)
  have qTy_14 := qTy_13.trans (hb_14.mono qTy_13.size)
  have qSG_14 := qSG_13.trans (hb_14.mono qSG_13.size)
  have A_14 := keepHeap hb_14 A_13
  have P_14 := keepHeap hb_14 P_13
  have X_14 := keepHeap hb_14 X_13
  have G_14 := keepHeap hb_14 G_13
  have sz_14 := hb_14.size
  clear q0_13 qSP_13 qTX_13 qTy_13 qSG_13 A_13 P_13 X_13 G_13
  clear hb_14
  have qZ_14 : Below w_14.heap.size w_14 w_14 := Below.refl _ _
  obtain ⟨az, cz, rfl, -⟩ := id oz.rd
  go_wp2_with (fail)
  refine (eqIntS_same (oy.rd.keep qTy_14) (oz.rd.keep qZ_14) (by omega)).mono ?_
  rintro e w_15 ⟨rfl, m_15, hw_15⟩
  have hb_15 : Below w_14.heap.size w_14 w_15 := by rw [hw_15]; exact belowDrew _ _
  clear hw_15
  have q0_15 := q0_14.trans (hb_15.mono q0_14.size)
  have qSP_15 := qSP_14.trans (hb_15.mono qSP_14.size)
  have qTX_15 := qTX_14.trans (hb_15.mono qTX_14.size)
  have qTy_15 := qTy_14.trans (hb_15.mono qTy_14.size)
  have qSG_15 := qSG_14.trans (hb_15.mono qSG_14.size)
  have qZ_15 := qZ_14.trans (hb_15.mono qZ_14.size)
  have A_15 := keepHeap hb_15 A_14
  have P_15 := keepHeap hb_15 P_14
  have X_15 := keepHeap hb_15 X_14
  have G_15 := keepHeap hb_15 G_14
  have sz_15 := hb_15.size
  clear q0_14 qSP_14 qTX_14 qTy_14 qSG_14 qZ_14 A_14 P_14 X_14 G_14
  clear hb_15
  clear oz kz qZ_15
  have mx := (OwnWIn.of oX).keep qTX_15
  have my : OwnIn w_15 w_8.heap.size w_9.heap.size (.slice ay ys.length cy) ys := (OwnIn.of oy).keep qTy_15
  have mg := oG.keep qSG_15
  clear oX kX oy ky oG qTX_15 qTy_15 qSG_15
  have cX_15 := rowCells X_15
  go_wp2_with (fail)
  refine (hmx mx (by omega)).mono ?_
  rintro e w_16 ⟨rfl, -, far_16⟩
  have q0_16 := q0_15.trans (far_16.1.mono (by omega))
  have qSP_16 := qSP_15.trans (far_16.1.mono (by omega))
  have A_16 := keepHeapFar far_16 A_15 (by omega)
  have P_16 := keepHeapFar far_16 P_15 (by omega)
  have G_16 := keepHeapFar far_16 G_15 (by omega)
  have my := my.afar far_16 (by omega)
  have mg := mg.afar far_16 (by omega)
  have sz_16 := far_16.1.size
  clear q0_15 qSP_15 A_15 P_15 X_15 G_15 cX_15 far_16
  have zk : decide ((mX : Int) + (ys.length : Int) < 0) = false := by simp; omega
  clear mx
  go_wp2_with (fail)
  refine (markIntS_far my hyl (mX : Int) (by omega) (by omega)).mono ?_
  rintro e w_17 ⟨rfl, -, far_17⟩
  have q0_17 := q0_16.trans (far_17.1.mono (by omega))
  have qSP_17 := qSP_16.trans (far_17.1.mono (by omega))
  have A_17 := keepHeapFar far_17 A_16 (by omega)
  have P_17 := keepHeapFar far_17 P_16 (by omega)
  have G_17 := keepHeapFar far_17 G_16 (by omega)
  have mg := mg.afar far_17 (by omega)
  have sz_17 := far_17.1.size
  clear q0_16 qSP_16 A_16 P_16 G_16 far_17
  clear my
  have cP_17 := rowCells P_17
  have cG_17 := rowCells G_17
  go_wp2_with (fail)
  refine (heq mg.rd (oP.rd.keep qSP_17)).mono ?_
  rintro e w_18 ⟨rfl, hb_18⟩
  have q0_18 := q0_17.trans (hb_18.mono q0_17.size)
  have qSP_18 := qSP_17.trans (hb_18.mono qSP_17.size)
  have A_18 := keepHeap hb_18 A_17
  have P_18 := keepHeap hb_18 P_17
  have G_18 := keepHeap hb_18 G_17
  have sz_18 := hb_18.size
  clear q0_17 qSP_17 A_17 P_17 G_17 cP_17 cG_17
  have mg := mg.keep hb_18
  clear hb_18
  have cG_18 := rowCells G_18
  go_wp2_with (fail)
  refine (hmk mg (by omega)).mono ?_
  rintro e w_19 ⟨rfl, mg, far_19⟩
  have q0_19 := q0_18.trans (far_19.1.mono (by omega))
  have qSP_19 := qSP_18.trans (far_19.1.mono (by omega))
  have A_19 := keepHeapFar far_19 A_18 (by omega)
  have P_19 := keepHeapFar far_19 P_18 (by omega)
  have G_19 := keepHeapFar far_19 G_18 (by omega)
  have sz_19 := far_19.1.size
  clear q0_18 qSP_18 A_18 P_18 G_18 cG_18 far_19
  have cG_19 := rowCells G_19
  go_wp2_with (fail)
  refine (hhd mg.rd).mono ?_
  rintro e w_20 ⟨rfl, hb_20⟩
  have q0_20 := q0_19.trans (hb_20.mono q0_19.size)
  have qSP_20 := qSP_19.trans (hb_20.mono qSP_19.size)
  have A_20 := keepHeap hb_20 A_19
  have P_20 := keepHeap hb_20 P_19
  have G_20 := keepHeap hb_20 G_19
  have sz_20 := hb_20.size
  clear q0_19 qSP_19 A_19 P_19 G_19 cG_19
  have mg := mg.keep hb_20
  clear hb_20
  have qM_20 : Below w_20.heap.size w_20 w_20 := Below.refl _ _
  have cA_20 := rowCells A_20
  go_wp2_with (fail)
  refine (hto (h0.keep q0_20)).mono ?_
  rintro e w_21 ⟨vld, vsd, vbd, rfl, od, kd, hb_21⟩
  have q0_21 := q0_20.trans (hb_21.mono q0_20.size)
  have qSP_21 := qSP_20.trans (hb_21.mono qSP_20.size)
  have qM_21 := qM_20.trans (hb_21.mono qM_20.size)
  have A_21 := keepHeap hb_21 A_20
  have P_21 := keepHeap hb_21 P_20
  have G_21 := keepHeap hb_21 G_20
  have sz_21 := hb_21.size
  clear q0_20 qSP_20 qM_20 A_20 P_20 G_20 cA_20
  clear hb_21
  have qTd_21 : Below w_21.heap.size w_21 w_21 := Below.refl _ _
  have rdd := od.rd
  obtain ⟨ald, cld, rfl, -⟩ := id rdd.1
  obtain ⟨aqd, cqd, rfl, -⟩ := id rdd.2.1
  obtain ⟨abd, cbd, rfl, -⟩ := id rdd.2.2
  clear rdd
  go_wp2_with (fail)
  refine (toIntS_cap (h'.keep q0_21) (by omega)).mono ?_
  rintro e w_22 ⟨ve, rfl, oe, ke, hb_22⟩
  have q0_22 := q0_21.trans (hb_22.mono q0_21.size)
  have qSP_22 := qSP_21.trans (hb_22.mono qSP_21.size)
  have qM_22 := qM_21.trans (hb_22.mono qM_21.size)
  have qTd_22 := qTd_21.trans (hb_22.mono qTd_21.size)
  have A_22 := keepHeap hb_22 A_21
  have P_22 := keepHeap hb_22 P_21
  have G_22 := keepHeap hb_22 G_21
  have sz_22 := hb_22.size
  clear q0_21 qSP_21 qM_21 qTd_21 A_21 P_21 G_21
  clear hb_22
  have qTe_22 : Below w_22.heap.size w_22 w_22 := Below.refl _ _
  obtain ⟨ae, ce, rfl, -⟩ := id oe.rd
  go_wp2_with (fail)
  refine (himpl (od.rd.keep qTd_22) (oe.rd.keep qTe_22)).mono ?_
  rintro e w_23 ⟨vlH, vsH, vbH, rfl, oH, -, hb_23⟩
  have q0_23 := q0_22.trans (hb_23.mono q0_22.size)
  have qSP_23 := qSP_22.trans (hb_23.mono qSP_22.size)
  have qM_23 := qM_22.trans (hb_23.mono qM_22.size)
  have qTd_23 := qTd_22.trans (hb_23.mono qTd_22.size)
  have qTe_23 := qTe_22.trans (hb_23.mono qTe_22.size)
  have A_23 := keepHeap hb_23 A_22
  have P_23 := keepHeap hb_23 P_22
  have G_23 := keepHeap hb_23 G_22
  have sz_23 := hb_23.size
  clear q0_22 qSP_22 qM_22 qTd_22 qTe_22 A_22 P_22 G_22
  clear hb_23
  have qSH_23 : Below w_23.heap.size w_23 w_23 := Below.refl _ _
  have rdH := oH.rd
  obtain ⟨alH, clH, rfl, -⟩ := id rdH.1
  obtain ⟨aqH, cqH, rfl, -⟩ := id rdH.2.1
  obtain ⟨abH, cbH, rfl, -⟩ := id rdH.2.2
  clear rdH
  obtain ⟨w_24, hw_24, H_24, hb_24⟩ : ∃ W, w_23.alloc (.cells #[Value.slice alH y.rows.length clH, .int .i64 y.tick, .int .i64 y.seed, .slice aqH y.scores.length cqH, .slice abH y.bods.length cbH] 33) = W ∧ W.heap[w_23.heap.size]? = some (.cells #[Value.slice alH y.rows.length clH, .int .i64 y.tick, .int .i64 y.seed, .slice aqH y.scores.length cqH, .slice abH y.bods.length cbH] 33 (0, 0)) ∧ Below w_23.heap.size w_23 W := ⟨_, rfl, heap_alloc_new _ _, below1 _ _⟩
  have q0_24 := q0_23.trans (hb_24.mono q0_23.size)
  have qSP_24 := qSP_23.trans (hb_24.mono qSP_23.size)
  have qM_24 := qM_23.trans (hb_24.mono qM_23.size)
  have qTd_24 := qTd_23.trans (hb_24.mono qTd_23.size)
  have qTe_24 := qTe_23.trans (hb_24.mono qTe_23.size)
  have qSH_24 := qSH_23.trans (hb_24.mono qSH_23.size)
  have A_24 := keepHeap hb_24 A_23
  have P_24 := keepHeap hb_24 P_23
  have G_24 := keepHeap hb_24 G_23
  have sz_24 := hb_24.size
  clear q0_23 qSP_23 qM_23 qTd_23 qTe_23 qSH_23 A_23 P_23 G_23
  clear hb_24
  have cP_24 := rowCells P_24
  have cH_24 := rowCells H_24
  go_wp2_with (fail)
  try rw [hw_24]
  clear hw_24
  refine (heq (oH.rd.keep qSH_24) (oP.rd.keep qSP_24)).mono ?_
  rintro e w_25 ⟨rfl, hb_25⟩
  have q0_25 := q0_24.trans (hb_25.mono q0_24.size)
  have qSP_25 := qSP_24.trans (hb_25.mono qSP_24.size)
  have qM_25 := qM_24.trans (hb_25.mono qM_24.size)
  have qTd_25 := qTd_24.trans (hb_25.mono qTd_24.size)
  have qTe_25 := qTe_24.trans (hb_25.mono qTe_24.size)
  have qSH_25 := qSH_24.trans (hb_25.mono qSH_24.size)
  have A_25 := keepHeap hb_25 A_24
  have P_25 := keepHeap hb_25 P_24
  have G_25 := keepHeap hb_25 G_24
  have H_25 := keepHeap hb_25 H_24
  have sz_25 := hb_25.size
  clear q0_24 qSP_24 qM_24 qTd_24 qTe_24 qSH_24 A_24 P_24 G_24 H_24 cP_24 cH_24
  clear hb_25
  have cG_25 := rowCells G_25
  go_wp2_with (fail)
  refine (hhd (mg.rd.keep qM_25)).mono ?_
  rintro e w_26 ⟨rfl, hb_26⟩
  have q0_26 := q0_25.trans (hb_26.mono q0_25.size)
  have qSP_26 := qSP_25.trans (hb_26.mono qSP_25.size)
  have qM_26 := qM_25.trans (hb_26.mono qM_25.size)
  have qTd_26 := qTd_25.trans (hb_26.mono qTd_25.size)
  have qTe_26 := qTe_25.trans (hb_26.mono qTe_25.size)
  have qSH_26 := qSH_25.trans (hb_26.mono qSH_25.size)
  have A_26 := keepHeap hb_26 A_25
  have P_26 := keepHeap hb_26 P_25
  have G_26 := keepHeap hb_26 G_25
  have H_26 := keepHeap hb_26 H_25
  have sz_26 := hb_26.size
  clear q0_25 qSP_25 qM_25 qTd_25 qTe_25 qSH_25 A_25 P_25 G_25 H_25 cG_25
  clear hb_26
  go_wp2_with (fail)
  go_ret
  exact ⟨rfl, q0_26⟩
theorem lawStepWorldR {w : World} (x : Wd) (vl vs vb : Value) (h : RdW w x vl vs vb) (hs : x.sane) (a : Option Addr) (len cap : Nat) (zs : List Int) (hr : IsRow .i64 w a len cap zs) :
    Calls Tryz.prog 3 #[.agg (wdC x vl vs vb), .slice a len cap] w fun e w' => e = .returned (.bool true) ∧ Below w.heap.size w w' := by
  obtain ⟨hrd, hl, -⟩ := RdI.of_row hr
  have hm : len ≤ maxLen := by
    rcases hr with ⟨_, rfl, _⟩ | ⟨x, _, h1, h2, _⟩
    · exact Nat.zero_le _
    · exact Nat.le_trans h1 h2
  unfold maxLen at hm
  exact lawStepWorld x vl vs vb h hs _ _ hrd (by omega)
end Go.Proofs.YtlffkcmbeolohaaGreatDoor
