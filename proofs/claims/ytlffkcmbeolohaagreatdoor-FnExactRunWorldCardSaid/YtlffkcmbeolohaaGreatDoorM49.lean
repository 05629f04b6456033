/-
  Texts of this proof: RunWL.
-/
import Derived.Test.YtlffkcmbeolohaaGreatDoorM47
import Derived.Test.YtlffkcmbeolohaaGreatDoorM48
import Derived.Test.YtlffkcmbeolohaaGreatDoorM35
namespace Go.Proofs.YtlffkcmbeolohaaGreatDoor
open Go.RowKit
set_option linter.all false
theorem markIntSS_F {w : World} {B T : Nat} {v : Value} {X : Rowi} (h : MkR w B T v X) (hn : X.length ≤ 1048576) (hi : totalR X ≤ 1048576) (k0 : Int) (h0 : 0 ≤ k0) (h1 : k0 ≤ 1073741824) :
    Calls Tryz.prog 23 #[v, .int .i64 k0] w fun e w' => e = .returned (.int .i64 (k0 + (totalR X : Nat))) ∧ FarB B T w w' :=
  (markIntSS_ch h hn hi k0 h0 h1).mono fun e w' h => ⟨h.1, h.2.farB⟩
set_option maxRecDepth 100000 in
set_option maxHeartbeats 8000000 in
theorem lawRunWorld {w : World} (x : Wd) (vl vs vb : Value) (h : RdW w x vl vs vb) (hs : x.sane) (u : Value) (ys : Rowi) (h' : RdR w u ys) (hs' : SaneR ys) :
    Calls Tryz.prog 4 #[.agg (wdC x vl vs vb), u] w fun e w' => e = .returned (.bool true) ∧ Below w.heap.size w w' := by
  have h0 := h
  obtain ⟨alA, clA, rfl, -⟩ := id h.1
  obtain ⟨aqA, cqA, rfl, -⟩ := id h.2.1
  obtain ⟨abA, cbA, rfl, -⟩ := id h.2.2
  obtain ⟨au, cu, rfl, -⟩ := id h'
  obtain ⟨w_1, hW, A_1, q0_1, -⟩ := rows1 w #[Value.slice alA x.rows.length clA, .int .i64 x.tick, .int .i64 x.seed, .slice aqA x.scores.length cqA, .slice abA x.bods.length cbA] 28
  have sz_1 := q0_1.size
  have ltA : w.heap.size < w_1.heap.size := blockLt A_1
  unfold wdC
  go_enter Tryz.func4, Tryz.ntmps4
  have cA_1 := rowCells A_1
  go_wp2_with (fail)
  try rw [hW]
  clear hW
  refine (szWorld_any (h0.keep q0_1) hs 1048576 (by omega) (by omega)).mono ?_
  rintro e w_2 ⟨r, rfl, hr, hb_2⟩
  have q0_2 := q0_1.trans (hb_2.mono q0_1.size)
  have A_2 := keepHeap hb_2 A_1
  have sz_2 := hb_2.size
  clear q0_1 A_1 cA_1
  clear hb_2
  rcases hr with rfl | ⟨hr0, hr1⟩
  · go_wp2_with (fail)
    go_ret
    exact ⟨rfl, q0_2⟩
  have zr : decide (r < 0) = false := by simpa using hr0
  have hn : x.few := ⟨by omega, by omega, by omega⟩
  have hX : x.marksN ≤ 100000000 := by unfold Wd.marksN; omega
  have hr2 : r ≤ 1048576 := by omega
  clear hr1
  have cA_2 := rowCells A_2
  go_wp2_with (fail)
  refine (szIntSS_any (h'.keep q0_2) hs' r hr0 hr2).mono ?_
  rintro e w_3 ⟨p, rfl, hp, hb_3⟩
  have q0_3 := q0_2.trans (hb_3.mono q0_2.size)
  have A_3 := keepHeap hb_3 A_2
  have sz_3 := hb_3.size
  clear q0_2 A_2 cA_2
  clear hb_3
  rcases hp with rfl | ⟨hp0, hp1⟩
  · go_wp2_with (fail)
    go_ret
    exact ⟨rfl, q0_3⟩
  have zp : decide (p < 0) = false := by simpa using hp0
  obtain ⟨hf, htot⟩ : (ys.length ≤ 1048576 ∧ ∀ x ∈ ys, x.length ≤ 1048576) ∧ totalR ys ≤ 1048576 := ⟨⟨by omega, fun x hx => by have := totalR_mem hx; omega⟩, by omega⟩
  clear hp1
  have hto := fun {W : World} {vl vs vb : Value} (h1 : RdW W x vl vs vb) => toWorld_any h1 hn
  have hspec := fun {W : World} {vl vs vb u : Value} (h1 : RdW W x vl vs vb) (h2 : RdR W u ys) => runWorld_spec h1 hs hn h2 hf.1 hf.2
  have himpl := fun {W : World} {vl vs vb u : Value} (h1 : RdW W x vl vs vb) (h2 : RdR W u ys) => runWorld_impl h1 hs hn h2 hf.1 hf.2
  have hfy : (runW x ys).few := runW_few hn ys
  generalize runW x ys = y at hspec himpl hfy
  have heqx := fun {W : World} {vl vs vb vl' vs' vb' : Value} (h1 : RdW W x vl vs vb) (h2 : RdW W x vl' vs' vb') => eqWorld_same h1 h2 hn
  have heq := fun {W : World} {vl vs vb vl' vs' vb' : Value} (h1 : RdW W y vl vs vb) (h2 : RdW W y vl' vs' vb') => eqWorld_same h1 h2 hfy
  have hmx := fun {W : World} {lo hi : Nat} {vl vs vb : Value} (h1 : OwnWIn W lo hi x vl vs vb) (h2 : hi ≤ W.heap.size) => markWorld_far h1 h2 hn 1 (by omega) (by omega)
  have hmk := fun {W : World} {lo hi : Nat} {vl vs vb : Value} (h1 : OwnWIn W lo hi y vl vs vb) (h2 : hi ≤ W.heap.size) => markWorld_far h1 h2 hfy 1 (by omega) (by omega)
  have hhd := fun {W : World} {vl vs vb : Value} (h1 : RdW W (y.marked 1) vl vs vb) => heldWorld_any y 1 h1 hfy (by omega) (by omega) y.tick y.seed
  rw [show ((1 : Nat) : Int) = 1 from rfl] at hmx hmk hhd
  unfold RetWd at hto
  unfold RetStW at hspec himpl
  unfold wdC at hto hspec himpl heqx heq hmx hmk
  obtain ⟨mX, hmX⟩ : ∃ m, m = 1 + x.marksN := ⟨_, rfl⟩
  obtain ⟨mN, hmN⟩ : ∃ m, m = 1 + y.marksN := ⟨_, rfl⟩
  rw [← hmX] at hmx
  rw [← hmN] at hmk hhd
  have hmx24 : (mX : Int) ≤ 1000000000 := by omega
  have zN : decide ((mN : Int) < 0) = false := by simp
  clear hmX hmN hX
  have cA_3 := rowCells A_3
  go_wp2_with (fail)
  refine (hto (h0.keep q0_3)).mono ?_
  rintro e w_4 ⟨vl1, vs1, vb1, rfl, o1, k1, hb_4⟩
  have q0_4 := q0_3.trans (hb_4.mono q0_3.size)
  have A_4 := keepHeap hb_4 A_3
  have sz_4 := hb_4.size
  clear q0_3 A_3 cA_3
  clear hb_4
  have qT1_4 : Below w_4.heap.size w_4 w_4 := Below.refl _ _
  have rd1 := o1.rd
  obtain ⟨al1, cl1, rfl, -⟩ := id rd1.1
  obtain ⟨aq1, cq1, rfl, -⟩ := id rd1.2.1
  obtain ⟨ab1, cb1, rfl, -⟩ := id rd1.2.2
  clear rd1
  have cA_4 := rowCells A_4
  go_wp2_with (fail)
  refine (toIntSS_any (h'.keep q0_4) hf.1 hf.2).mono ?_
  rintro e w_5 ⟨vb, rfl, ob, hb_5⟩
  have q0_5 := q0_4.trans (hb_5.mono q0_4.size)
  have qT1_5 := qT1_4.trans (hb_5.mono qT1_4.size)
  have A_5 := keepHeap hb_5 A_4
  have sz_5 := hb_5.size
  clear q0_4 qT1_4 A_4 cA_4
  clear hb_5
  have qTb_5 : Below w_5.heap.size w_5 w_5 := Below.refl _ _
  obtain ⟨ab, cb, rfl, -⟩ := id ob.rd
  have cA_5 := rowCells A_5
  go_wp2_with (fail)
  refine (hspec (o1.rd.keep qT1_5) (ob.rd.keep qTb_5)).mono ?_
  rintro e w_6 ⟨vlP, vsP, vbP, rfl, oP, -, hb_6⟩
  have q0_6 := q0_5.trans (hb_6.mono q0_5.size)
  have qT1_6 := qT1_5.trans (hb_6.mono qT1_5.size)
  have qTb_6 := qTb_5.trans (hb_6.mono qTb_5.size)
  have A_6 := keepHeap hb_6 A_5
  have sz_6 := hb_6.size
  clear q0_5 qT1_5 qTb_5 A_5 cA_5
  clear hb_6
  have qSP_6 : Below w_6.heap.size w_6 w_6 := Below.refl _ _
  have rdP := oP.rd
  obtain ⟨alP, clP, rfl, -⟩ := id rdP.1
  obtain ⟨aqP, cqP, rfl, -⟩ := id rdP.2.1
  obtain ⟨abP, cbP, rfl, -⟩ := id rdP.2.2
  clear rdP
  clear o1 k1 ob qT1_6 qTb_6
  obtain ⟨w_7, hw_7, P_7, hb_7⟩ : ∃ W, w_6.alloc (.cells #[Value.slice alP y.rows.length clP, .int .i64 y.tick, .int .i64 y.seed, .slice aqP y.scores.length cqP, .slice abP y.bods.length cbP] 33) = W ∧ W.heap[w_6.heap.size]? = some (.cells #[Value.slice alP y.rows.length clP, .int .i64 y.tick, .int .i64 y.seed, .slice aqP y.scores.length cqP, .slice abP y.bods.length cbP] 33 (0, 0)) ∧ Below w_6.heap.size w_6 W := ⟨_, rfl, heap_alloc_new _ _, below1 _ _⟩
  have q0_7 := q0_6.trans (hb_7.mono q0_6.size)
  have qSP_7 := qSP_6.trans (hb_7.mono qSP_6.size)
  have A_7 := keepHeap hb_7 A_6
  have sz_7 := hb_7.size
  clear q0_6 qSP_6 A_6
  clear hb_7
  have ltP : w_6.heap.size < w_7.heap.size := blockLt P_7
  have cA_7 := rowCells A_7
  have cP_7 := rowCells P_7
  go_wp2_with (fail)
  try rw [hw_7]
  clear hw_7
  refine (hto (h0.keep q0_7)).mono ?_
  rintro e w_8 ⟨vlX, vsX, vbX, rfl, oX, kX, hb_8⟩
  have q0_8 := q0_7.trans (hb_8.mono q0_7.size)
  have qSP_8 := qSP_7.trans (hb_8.mono qSP_7.size)
  have A_8 := keepHeap hb_8 A_7
  have P_8 := keepHeap hb_8 P_7
  have sz_8 := hb_8.size
  clear q0_7 qSP_7 A_7 P_7 cA_7 cP_7
  clear hb_8
  have qTX_8 : Below w_8.heap.size w_8 w_8 := Below.refl _ _
  have rdX := oX.rd
  obtain ⟨alX, clX, rfl, -⟩ := id rdX.1
  obtain ⟨aqX, cqX, rfl, -⟩ := id rdX.2.1
  obtain ⟨abX, cbX, rfl, -⟩ := id rdX.2.2
  clear rdX
  obtain ⟨w_9, hw_9, X_9, hb_9⟩ : ∃ W, w_8.alloc (.cells #[Value.slice alX x.rows.length clX, .int .i64 x.tick, .int .i64 x.seed, .slice aqX x.scores.length cqX, .slice abX x.bods.length cbX] 33) = W ∧ W.heap[w_8.heap.size]? = some (.cells #[Value.slice alX x.rows.length clX, .int .i64 x.tick, .int .i64 x.seed, .slice aqX x.scores.length cqX, .slice abX x.bods.length cbX] 33 (0, 0)) ∧ Below w_8.heap.size w_8 W := ⟨_, rfl, heap_alloc_new _ _, below1 _ _⟩
  have q0_9 := q0_8.trans (hb_9.mono q0_8.size)
  have qSP_9 := qSP_8.trans (hb_9.mono qSP_8.size)
  have qTX_9 := qTX_8.trans (hb_9.mono qTX_8.size)
  have A_9 := keepHeap hb_9 A_8
  have P_9 := keepHeap hb_9 P_8
  have sz_9 := hb_9.size
  clear q0_8 qSP_8 qTX_8 A_8 P_8
  clear hb_9
  have ltX : w_8.heap.size < w_9.heap.size := blockLt X_9
  have cA_9 := rowCells A_9
  have cP_9 := rowCells P_9
  have cX_9 := rowCells X_9
  go_wp2_with (fail)
  try rw [hw_9]
  clear hw_9
  refine (toIntSS_any (h'.keep q0_9) hf.1 hf.2).mono ?_
  rintro e w_10 ⟨vy, rfl, oy, hb_10⟩
  have q0_10 := q0_9.trans (hb_10.mono q0_9.size)
  have qSP_10 := qSP_9.trans (hb_10.mono qSP_9.size)
  have qTX_10 := qTX_9.trans (hb_10.mono qTX_9.size)
  have A_10 := keepHeap hb_10 A_9
  have P_10 := keepHeap hb_10 P_9
  have X_10 := keepHeap hb_10 X_9
  have sz_10 := hb_10.size
  clear q0_9 qSP_9 qTX_9 A_9 P_9 X_9 cA_9 cP_9 cX_9
  clear hb_10
  have qTy_10 : Below w_10.heap.size w_10 w_10 := Below.refl _ _
  obtain ⟨ay, cy, rfl, -⟩ := id oy.rd
  have cA_10 := rowCells A_10
  have cP_10 := rowCells P_10
  have cX_10 := rowCells X_10
  go_wp2_with (fail)
  refine (himpl (oX.rd.keep qTX_10) (oy.rd.keep qTy_10)).mono ?_
  rintro e w_11 ⟨vlG, vsG, vbG, rfl, oG, -, hb_11⟩
  have q0_11 := q0_10.trans (hb_11.mono q0_10.size)
  have qSP_11 := qSP_10.trans (hb_11.mono qSP_10.size)
  have qTX_11 := qTX_10.trans (hb_11.mono qTX_10.size)
  have qTy_11 := qTy_10.trans (hb_11.mono qTy_10.size)
  have A_11 := keepHeap hb_11 A_10
  have P_11 := keepHeap hb_11 P_10
  have X_11 := keepHeap hb_11 X_10
  have sz_11 := hb_11.size
  clear q0_10 qSP_10 qTX_10 qTy_10 A_10 P_10 X_10 cA_10 cP_10 cX_10
  clear hb_11
  have qSG_11 : Below w_11.heap.size w_11 w_11 := Below.refl _ _
  have rdG := oG.rd
  obtain ⟨alG, clG, rfl, -⟩ := id rdG.1
  obtain ⟨aqG, cqG, rfl, -⟩ := id rdG.2.1
  obtain ⟨abG, cbG, rfl, -⟩ := id rdG.2.2
  clear rdG
  obtain ⟨w_12, hw_12, G_12, hb_12⟩ : ∃ W, w_11.alloc (.cells #[Value.slice alG y.rows.length clG, .int .i64 y.tick, .int .i64 y.seed, .slice aqG y.scores.length cqG, .slice abG y.bods.length cbG] 33) = W ∧ W.heap[w_11.heap.size]? = some (.cells #[Value.slice alG y.rows.length clG, .int .i64 y.tick, .int .i64 y.seed, .slice aqG y.scores.length cqG, .slice abG y.bods.length cbG] 33 (0, 0)) ∧ Below w_11.heap.size w_11 W := ⟨_, rfl, heap_alloc_new _ _, below1 _ _⟩
  have q0_12 := q0_11.trans (hb_12.mono q0_11.size)
  have qSP_12 := qSP_11.trans (hb_12.mono qSP_11.size)
  have qTX_12 := qTX_11.trans (hb_12.mono qTX_11.size)
  have qTy_12 := qTy_11.trans (hb_12.mono qTy_11.size)
  have qSG_12 := qSG_11.trans (hb_12.mono qSG_11.size)
  have A_12 := keepHeap hb_12 A_11
  have P_12 := keepHeap hb_12 P_11
  have X_12 := keepHeap hb_12 X_11
  have sz_12 := hb_12.size
  clear q0_11 qSP_11 qTX_11 qTy_11 qSG_11 A_11 P_11 X_11
  clear hb_12
  have ltG : w_11.heap.size < w_12.heap.size := blockLt G_12
  have cA_12 := rowCells A_12
  have cP_12 := rowCells P_12
  have cX_12 := rowCells X_12
  have cG_12 := rowCells G_12
  go_wp2_with (fail)
  try rw [hw_12]
  clear hw_12
  refine (heq (oG.rd.keep qSG_12) (oP.rd.keep qSP_12)).mono ?_
  rintro e w_13 ⟨rfl, hb_13⟩
  have q0_13 := q0_12.trans (hb_13.mono q0_12.size)
  have qSP_13 := qSP_12.trans (hb_13.mono qSP_12.size)
  have qTX_13 := qTX_12.trans (hb_13.mono qTX_12.size)
  have qTy_13 := qTy_12.trans (hb_13.mono qTy_12.size)
  have qSG_13 := qSG_12.trans (hb_13.mono qSG_12.size)
  have A_13 := keepHeap hb_13 A_12
  have P_13 := keepHeap hb_13 P_12
  have X_13 := keepHeap hb_13 X_12
  have G_13 := keepHeap hb_13 G_12
  have sz_13 := hb_13.size
  clear q0_12 qSP_12 qTX_12 qTy_12 qSG_12 A_12 P_12 X_12 G_12 cA_12 cP_12 cX_12 cG_12
  clear hb_13
  have cA_13 := rowCells A_13
  have cX_13 := rowCells X_13
  go_wp2_with (fail)
  have ra := (h0.keep q0_13)
  have rx := (oX.rd.keep qTX_13)
  go_region_held3 (fun w' => (∀ j, w'.cell? ⟨w.heap.size, j, none⟩ = #[Value.slice alA x.rows.length clA, .int .i64 x.tick, .int .i64 x.seed, .slice aqA x.scores.length cqA, .slice abA x.bods.length cbA][j]?) ∧ (∀ j, w'.cell? ⟨w_8.heap.size, j, none⟩ = #[Value.slice alX x.rows.length clX, .int .i64 x.tick, .int .i64 x.seed, .slice aqX x.scores.length cqX, .slice abX x.bods.length cbX][j]?)) (first | go_keep | (exact ⟨cA8, cX8⟩) | exact ⟨cA9, cX9⟩)
    (first
    | (go_at_call 10; refine (hto (RdW.keep ra (belowDrew _ 1))).mono ?_; rintro e w8 ⟨vl8, vs8, vb8, rfl, o8, -, hb8⟩; have hA8 := keepHeap hb8 (keepHeap (belowDrew _ 1) A_13); have hX8 := keepHeap hb8 (keepHeap (belowDrew _ 1) X_13); have cA8 := rowCells hA8; have cX8 := rowCells hX8; have rd8 := o8.rd; obtain ⟨al8, cl8, rfl, -⟩ := id rd8.1; obtain ⟨aq8, cq8, rfl, -⟩ := id rd8.2.1; obtain ⟨ab8, cb8, rfl, -⟩ := id rd8.2.2; have rdx8 := (RdW.keep rx (belowDrew _ 1)).keep hb8; have hb18 := (belowDrew w_13 1).trans (hb8.mono (by simp)))
    | (go_at_call 13; refine (heqx rdx8 rd8).mono ?_; rintro e w9 ⟨rfl, hb9⟩; have cA9 := rowCells (keepHeap hb9 hA8); have cX9 := rowCells (keepHeap hb9 hX8); have hb19 := hb18.trans (hb9.mono hb18.size)))
  clear ra rx cA8 cX8 cA9 cX9 hA8 hX8 hb9 hb18 rdx8 rd8 o8 hb8
  have q0_14 := q0_13.trans (hb19.mono q0_13.size)
  have qSP_14 := qSP_13.trans (hb19.mono qSP_13.size)
  have qTX_14 := qTX_13.trans (hb19.mono qTX_13.size)
  have qTy_14 := qTy_13.trans (hb19.mono qTy_13.size)
  have qSG_14 := qSG_13.trans (hb19.mono qSG_13.size)
  have A_14 := keepHeap hb19 A_13
  have P_14 := keepHeap hb19 P_13
  have X_14 := keepHeap hb19 X_13
  have G_14 := keepHeap hb19 G_13
  have sz_14 := hb19.size
  clear q0_13 qSP_13 qTX_13 qTy_13 qSG_13 A_13 P_13 X_13 G_13 cA_13 cX_13
  clear hb19
  go_wp2_with (fail)
  refine (toIntSS_any (h'.keep q0_14) hf.1 hf.2).mono ?_
  rintro e w_15 ⟨vz, rfl, oz, hb_15⟩
  have q0_15 := q0_14.trans (hb_15.mono q0_14.size)
  have qSP_15 := qSP_14.trans (hb_15.mono qSP_14.size)
  have qTX_15 := qTX_14.trans (hb_15.mono qTX_14.size)
  have qTy_15 := qTy_14.trans (hb_15.mono qTy_14.size)
  have qSG_15 := qSG_14.trans (hb_15.mono qSG_14.size)
  have A_15 := keepHeap hb_15 A_14
  have P_15 := keepHeap hb_15 P_14
  have X_15 := keepHeap hb_15 X_14
  have G_15 := keepHeap hb_15 G_14
  have sz_15 := hb_15.size
  clear q0_14 qSP_14 qTX_14 qTy_14 qSG_14 A_14 P_14 X_14 G_14
  clear hb_15
  have qZ_15 : Below w_15.heap.size w_15 w_15 := Below.refl _ _
  obtain ⟨az, cz, rfl, -⟩ := id oz.rd
  go_wp2_with (fail)
  refine (eqIntSS_rows (oy.rd.keep qTy_15) (oz.rd.keep qZ_15) hf.1 hf.2).mono ?_
  rintro e w_16 ⟨rfl, hb_16⟩
  have q0_16 := q0_15.trans (hb_16.mono q0_15.size)
  have qSP_16 := qSP_15.trans (hb_16.mono qSP_15.size)
  have qTX_16 := qTX_15.trans (hb_16.mono qTX_15.size)
  have qTy_16 := qTy_15.trans (hb_16.mono qTy_15.size)
  have qSG_16 := qSG_15.trans (hb_16.mono qSG_15.size)
  have qZ_16 := qZ_15.trans (hb_16.mono qZ_15.size)
  have A_16 := keepHeap hb_16 A_15
  have P_16 := keepHeap hb_16 P_15
  have X_16 := keepHeap hb_16 X_15
  have G_16 := keepHeap hb_16 G_15
  have sz_16 := hb_16.size
  clear q0_15 qSP_15 qTX_15 qTy_15 qSG_15 qZ_15 A_15 P_15 X_15 G_15
  clear hb_16
  clear oz qZ_16
  have mx := (OwnWIn.of oX).keep qTX_16
  have my : MkQ w_16 w_9.heap.size w_10.heap.size (.slice ay ys.length cy) ys := (MkQ.of_wr oy).same (fun b _ hl => qTy_16.block b hl) qTy_16.size
  have mg := oG.keep qSG_16
  clear oX kX oy oG qTX_16 qTy_16 qSG_16
  have cX_16 := rowCells X_16
  go_wp2_with (fail)
  refine (hmx mx (by omega)).mono ?_
  rintro e w_17 ⟨rfl, -, far_17⟩
  have q0_17 := q0_16.trans (far_17.1.mono (by omega))
  have qSP_17 := qSP_16.trans (far_17.1.mono (by omega))
  have A_17 := keepHeapFar far_17 A_16 (by omega)
  have P_17 := keepHeapFar far_17 P_16 (by omega)
  have G_17 := keepHeapFar far_17 G_16 (by omega)
  have my := my.same (fun b hb hl => far_17.2 b (by omega) hl) far_17.1.size
  have mg := mg.afar far_17 (by omega)
  have sz_17 := far_17.1.size
  clear q0_16 qSP_16 A_16 P_16 X_16 G_16 cX_16 far_17
  have zk : decide ((mX : Int) + (totalR ys : Int) < 0) = false := by simp; omega
  clear mx
  go_wp2_with (fail)
  refine (markIntSS_F my.mk hf.1 htot (mX : Int) (by omega) (by omega)).mono ?_
  rintro e w_18 ⟨rfl, far_18⟩
  have q0_18 := q0_17.trans (far_18.1.mono (by omega))
  have qSP_18 := qSP_17.trans (far_18.1.mono (by omega))
  have A_18 := keepHeapFar far_18 A_17 (by omega)
  have P_18 := keepHeapFar far_18 P_17 (by omega)
  have G_18 := keepHeapFar far_18 G_17 (by omega)
  have mg := mg.afar far_18 (by omega)
  have sz_18 := far_18.1.size
  clear q0_17 qSP_17 A_17 P_17 G_17 far_18
  clear my
  have cP_18 := rowCells P_18
  have cG_18 := rowCells G_18
  go_wp2_with (fail)
  refine (heq mg.rd (oP.rd.keep qSP_18)).mono ?_
  rintro e w_19 ⟨rfl, hb_19⟩
  have q0_19 := q0_18.trans (hb_19.mono q0_18.size)
  have qSP_19 := qSP_18.trans (hb_19.mono qSP_18.size)
  have A_19 := keepHeap hb_19 A_18
  have P_19 := keepHeap hb_19 P_18
  have G_19 := keepHeap hb_19 G_18
  have sz_19 := hb_19.size
  clear q0_18 qSP_18 A_18 P_18 G_18 cP_18 cG_18
  have mg := mg.keep hb_19
  clear hb_19
  have cG_19 := rowCells G_19
  go_wp2_with (fail)
  refine (hmk mg (by omega)).mono ?_
  rintro e w_20 ⟨rfl, mg, far_20⟩
  have q0_20 := q0_19.trans (far_20.1.mono (by omega))
  have qSP_20 := qSP_19.trans (far_20.1.mono (by omega))
  have A_20 := keepHeapFar far_20 A_19 (by omega)
  have P_20 := keepHeapFar far_20 P_19 (by omega)
  have G_20 := keepHeapFar far_20 G_19 (by omega)
  have sz_20 := far_20.1.size
  clear q0_19 qSP_19 A_19 P_19 G_19 cG_19 far_20
  have cG_20 := rowCells G_20
  go_wp2_with (fail)
  refine (hhd mg.rd).mono ?_
  rintro e w_21 ⟨rfl, hb_21⟩
  have q0_21 := q0_20.trans (hb_21.mono q0_20.size)
  have qSP_21 := qSP_20.trans (hb_21.mono qSP_20.size)
  have A_21 := keepHeap hb_21 A_20
  have P_21 := keepHeap hb_21 P_20
  have G_21 := keepHeap hb_21 G_20
  have sz_21 := hb_21.size
  clear q0_20 qSP_20 A_20 P_20 G_20 cG_20
  have mg := mg.keep hb_21
  clear hb_21
  have qM_21 : Below w_21.heap.size w_21 w_21 := Below.refl _ _
  have cA_21 := rowCells A_21
  go_wp2_with (fail)
  refine (hto (h0.keep q0_21)).mono ?_
  rintro e w_22 ⟨vld, vsd, vbd, rfl, od, kd, hb_22⟩
  have q0_22 := q0_21.trans (hb_22.mono q0_21.size)
  have qSP_22 := qSP_21.trans (hb_22.mono qSP_21.size)
  have qM_22 := qM_21.trans (hb_22.mono qM_21.size)
  have A_22 := keepHeap hb_22 A_21
  have P_22 := keepHeap hb_22 P_21
  have G_22 := keepHeap hb_22 G_21
  have sz_22 := hb_22.size
  clear q0_21 qSP_21 qM_21 A_21 P_21 G_21 cA_21
  clear hb_22
  have qTd_22 : Below w_22.heap.size w_22 w_22 := Below.refl _ _
  have rdd := od.rd
  obtain ⟨ald, cld, rfl, -⟩ := id rdd.1
  obtain ⟨aqd, cqd, rfl, -⟩ := id rdd.2.1
  obtain ⟨abd, cbd, rfl, -⟩ := id rdd.2.2
  clear rdd
  go_wp2_with (fail)
  refine (toIntSS_any (h'.keep q0_22) hf.1 hf.2).mono ?_
  rintro e w_23 ⟨ve, rfl, oe, hb_23⟩
  have q0_23 := q0_22.trans (hb_23.mono q0_22.size)
  have qSP_23 := qSP_22.trans (hb_23.mono qSP_22.size)
  have qM_23 := qM_22.trans (hb_23.mono qM_22.size)
  have qTd_23 := qTd_22.trans (hb_23.mono qTd_22.size)
  have A_23 := keepHeap hb_23 A_22
  have P_23 := keepHeap hb_23 P_22
  have G_23 := keepHeap hb_23 G_22
  have sz_23 := hb_23.size
  clear q0_22 qSP_22 qM_22 qTd_22 A_22 P_22 G_22
  clear hb_23
  have qTe_23 : Below w_23.heap.size w_23 w_23 := Below.refl _ _
  obtain ⟨ae, ce, rfl, -⟩ := id oe.rd
  go_wp2_with (fail)
  refine (himpl (od.rd.keep qTd_23) (oe.rd.keep qTe_23)).mono ?_
  rintro e w_24 ⟨vlH, vsH, vbH, rfl, oH, -, hb_24⟩
  have q0_24 := q0_23.trans (hb_24.mono q0_23.size)
  have qSP_24 := qSP_23.trans (hb_24.mono qSP_23.size)
  have qM_24 := qM_23.trans (hb_24.mono qM_23.size)
  have qTd_24 := qTd_23.trans (hb_24.mono qTd_23.size)
  have qTe_24 := qTe_23.trans (hb_24.mono qTe_23.size)
  have A_24 := keepHeap hb_24 A_23
  have P_24 := keepHeap hb_24 P_23
  have G_24 := keepHeap hb_24 G_23
  have sz_24 := hb_24.size
  clear q0_23 qSP_23 qM_23 qTd_23 qTe_23 A_23 P_23 G_23
  clear hb_24
  have qSH_24 : Below w_24.heap.size w_24 w_24 := Below.refl _ _
  have rdH := oH.rd
  obtain ⟨alH, clH, rfl, -⟩ := id rdH.1
  obtain ⟨aqH, cqH, rfl, -⟩ := id rdH.2.1
  obtain ⟨abH, cbH, rfl, -⟩ := id rdH.2.2
  clear rdH
  obtain ⟨w_25, hw_25, H_25, hb_25⟩ : ∃ W, w_24.alloc (.cells #[Value.slice alH y.rows.length clH, .int .i64 y.tick, .int .i64 y.seed, .slice aqH y.scores.length cqH, .slice abH y.bods.length cbH] 33) = W ∧ W.heap[w_24.heap.size]? = some (.cells #[Value.slice alH y.rows.length clH, .int .i64 y.tick, .int .i64 y.seed, .slice aqH y.scores.length cqH, .slice abH y.bods.length cbH] 33 (0, 0)) ∧ Below w_24.heap.size w_24 W := ⟨_, rfl, heap_alloc_new _ _, below1 _ _⟩
  have q0_25 := q0_24.trans (hb_25.mono q0_24.size)
  have qSP_25 := qSP_24.trans (hb_25.mono qSP_24.size)
  have qM_25 := qM_24.trans (hb_25.mono qM_24.size)
  have qTd_25 := qTd_24.trans (hb_25.mono qTd_24.size)
  have qTe_25 := qTe_24.trans (hb_25.mono qTe_24.size)
  have qSH_25 := qSH_24.trans (hb_25.mono qSH_24.size)
  have A_25 := keepHeap hb_25 A_24
  have P_25 := keepHeap hb_25 P_24
  have G_25 := keepHeap hb_25 G_24
  have sz_25 := hb_25.size
  clear q0_24 qSP_24 qM_24 qTd_24 qTe_24 qSH_24 A_24 P_24 G_24
  clear hb_25
  have cP_25 := rowCells P_25
  have cH_25 := rowCells H_25
  go_wp2_with (fail)
  try rw [hw_25]
  clear hw_25
  refine (heq (oH.rd.keep qSH_25) (oP.rd.keep qSP_25)).mono ?_
  rintro e w_26 ⟨rfl, hb_26⟩
  have q0_26 := q0_25.trans (hb_26.mono q0_25.size)
  have qSP_26 := qSP_25.trans (hb_26.mono qSP_25.size)
  have qM_26 := qM_25.trans (hb_26.mono qM_25.size)
  have qTd_26 := qTd_25.trans (hb_26.mono qTd_25.size)
  have qTe_26 := qTe_25.trans (hb_26.mono qTe_25.size)
  have qSH_26 := qSH_25.trans (hb_26.mono qSH_25.size)
  have A_26 := keepHeap hb_26 A_25
  have P_26 := keepHeap hb_26 P_25
  have G_26 := keepHeap hb_26 G_25
  have H_26 := keepHeap hb_26 H_25
  have sz_26 := hb_26.size
  clear q0_25 qSP_25 qM_25 qTd_25 qTe_25 qSH_25 A_25 P_25 G_25 H_25 cP_25 cH_25
  clear hb_26
  have cG_26 := rowCells G_26
  go_wp2_with (fail)
  refine (hhd (mg.rd.keep qM_26)).mono ?_
  rintro e w_27 ⟨rfl, hb_27⟩
  have q0_27 := q0_26.trans (hb_27.mono q0_26.size)
  have qSP_27 := qSP_26.trans (hb_27.mono qSP_26.size)
  have qM_27 := qM_26.trans (hb_27.mono qM_26.size)
  have qTd_27 := qTd_26.trans (hb_27.mono qTd_26.size)
  have qTe_27 := qTe_26.trans (hb_27.mono qTe_26.size)
  have qSH_27 := qSH_26.trans (hb_27.mono qSH_26.size)
  have A_27 := keepHeap hb_27 A_26
  have P_27 := keepHeap hb_27 P_26
  have G_27 := keepHeap hb_27 G_26
  have H_27 := keepHeap hb_27 H_26
  have sz_27 := hb_27.size
  clear q0_26 qSP_26 qM_26 qTd_26 qTe_26 qSH_26 A_26 P_26 G_26 H_26 cG_26
  clear hb_27
  go_wp2_with (fail)
  go_ret
  exact ⟨rfl, q0_27⟩
end Go.Proofs.YtlffkcmbeolohaaGreatDoor
