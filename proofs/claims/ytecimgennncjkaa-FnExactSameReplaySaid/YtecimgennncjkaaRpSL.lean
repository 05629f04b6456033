/-
  The law on SameReplay. No condition.
-/
import Derived.Test.YtecimgennncjkaaRpS
namespace Go.Proofs.Ytecimgennncjkaa
open Go.RowKit
set_option linter.all false
set_option maxRecDepth 100000 in
set_option maxHeartbeats 4000000 in
theorem lawSameReplay {w : World} (x : Rp) (vl vs vb : Value) (h : RdRp w x vl vs vb) (hs : x.sane) (y : Rp) (vl' vs' vb' : Value) (h' : RdRp w y vl' vs' vb') (hs' : y.sane) :
    Calls Try.prog 5 #[.agg (rpC x vl vs vb), .agg (rpC y vl' vs' vb')] w fun e w' => e = .returned (.bool true) ∧ Below w.heap.size w w' := by
  have h0 := h
  have h0' := h'
  obtain ⟨alA, clA, rfl, -⟩ := id h.1
  obtain ⟨aqA, cqA, rfl, -⟩ := id h.2.1
  obtain ⟨abA, cbA, rfl, -⟩ := id h.2.2
  obtain ⟨alB, clB, rfl, -⟩ := id h'.1
  obtain ⟨aqB, cqB, rfl, -⟩ := id h'.2.1
  obtain ⟨abB, cbB, rfl, -⟩ := id h'.2.2
  obtain ⟨w_1, hW, A_1, B_1, q0_1, -⟩ := rows2 w #[Value.slice alA x.lv.length clA, .int .i64 x.players, .int .i64 x.seed, .int .i64 x.every, .slice aqA x.rows.length cqA, .slice abA x.keys.length cbA] #[Value.slice alB y.lv.length clB, .int .i64 y.players, .int .i64 y.seed, .int .i64 y.every, .slice aqB y.rows.length cqB, .slice abB y.keys.length cbB] 35 35
  have sz_1 := q0_1.size
  unfold rpC
  go_enter Try.func5, Try.ntmps5
  have cA_1 := rowCells A_1
  have cB_1 := rowCells B_1
  go_wp2_with (fail)
  try rw [hW]
  clear hW
  refine (szReplay_any (h0.keep q0_1) hs 1048576 (by omega) (by omega)).mono ?_
  rintro e w_2 ⟨r, rfl, hr, hb_2⟩
  have q0_2 := q0_1.trans (hb_2.mono q0_1.size)
  have A_2 := keepHeap hb_2 A_1
  have B_2 := keepHeap hb_2 B_1
  have sz_2 := hb_2.size
  clear q0_1 A_1 B_1 cA_1 cB_1
  clear hb_2
  rcases hr with rfl | ⟨hr0, hr1⟩
  · go_wp2_with (fail)
    go_ret
    exact ⟨rfl, q0_2⟩
  have zr : decide (r < 0) = false := by simpa using hr0
  have hn : x.few := (SzRp.few hr0 hr1).1
  have hr2 : r ≤ 1048576 := by omega
  clear hr1
  have cA_2 := rowCells A_2
  have cB_2 := rowCells B_2
  go_wp2_with (fail)
  refine (szReplay_any (h0'.keep q0_2) hs' r hr0 hr2).mono ?_
  rintro e w_3 ⟨p, rfl, hp, hb_3⟩
  have q0_3 := q0_2.trans (hb_3.mono q0_2.size)
  have A_3 := keepHeap hb_3 A_2
  have B_3 := keepHeap hb_3 B_2
  have sz_3 := hb_3.size
  clear q0_2 A_2 B_2 cA_2 cB_2
  clear hb_3
  rcases hp with rfl | ⟨hp0, hp1⟩
  · go_wp2_with (fail)
    go_ret
    exact ⟨rfl, q0_3⟩
  have zp : decide (p < 0) = false := by simpa using hp0
  have hn' : y.few := SzRp.few' hp0 hr2 hp1
  clear hp1
  have hspec := fun {W : World} {vl vs vb vl' vs' vb' : Value} (h1 : RdRp W x vl vs vb) (h2 : RdRp W y vl' vs' vb') => sameReplay_spec h1 h2 hs hs'
  have himpl := fun {W : World} {vl vs vb vl' vs' vb' : Value} (h1 : RdRp W x vl vs vb) (h2 : RdRp W y vl' vs' vb') => sameReplay_impl h1 h2 hs hs'
  unfold rpC at hspec himpl
  generalize sameRp x y = t at hspec himpl
  have cA_3 := rowCells A_3
  have cB_3 := rowCells B_3
  go_wp2_with (fail)
  have ra := (h0.keep q0_3)
  have rb := (h0'.keep q0_3)
  have tok : True := trivial
  go_region_held3 (fun w' => (∀ j, w'.cell? ⟨w.heap.size, j, none⟩ = #[Value.slice alA x.lv.length clA, .int .i64 x.players, .int .i64 x.seed, .int .i64 x.every, .slice aqA x.rows.length cqA, .slice abA x.keys.length cbA][j]?) ∧ (∀ j, w'.cell? ⟨w.heap.size + 1, j, none⟩ = #[Value.slice alB y.lv.length clB, .int .i64 y.players, .int .i64 y.seed, .int .i64 y.every, .slice aqB y.rows.length cqB, .slice abB y.keys.length cbB][j]?)) (first | go_keep | (exact ⟨cA6, cB6⟩) | (exact ⟨cA7, cB7⟩) | exact ⟨cA8, cB8⟩)
    (first
    | (go_at_call 17; have tok2 := tok; refine (toReplay_any (RdRp.keep ra (belowDrew _ 1)) hn).mono ?_; rintro e w6 ⟨vl6, vs6, vb6, rfl, o6, -, hb6⟩; clear tok tok2; have hA6 := keepHeap hb6 (keepHeap (belowDrew _ 1) A_3); have hB6 := keepHeap hb6 (keepHeap (belowDrew _ 1) B_3); have cA6 := rowCells hA6; have cB6 := rowCells hB6; have rd6 := o6.rd; obtain ⟨al6, cl6, rfl, -⟩ := id rd6.1; obtain ⟨aq6, cq6, rfl, -⟩ := id rd6.2.1; obtain ⟨ab6, cb6, rfl, -⟩ := id rd6.2.2; have hb16 := (belowDrew w_3 1).trans (hb6.mono (by simp)); have rb6 := RdRp.keep rb hb16; unfold rpC)
    | (go_at_call 17; refine (toReplay_any rb6 hn').mono ?_; rintro e w7 ⟨vl7, vs7, vb7, rfl, o7, -, hb7⟩; have hA7 := keepHeap hb7 hA6; have hB7 := keepHeap hb7 hB6; have cA7 := rowCells hA7; have cB7 := rowCells hB7; have rd7 := o7.rd; obtain ⟨al7, cl7, rfl, -⟩ := id rd7.1; obtain ⟨aq7, cq7, rfl, -⟩ := id rd7.2.1; obtain ⟨ab7, cb7, rfl, -⟩ := id rd7.2.2; have rd67 := rd6.keep hb7; have hb17 := hb16.trans (hb7.mono hb16.size); unfold rpC)
    | (go_at_call 16; refine (hspec rd67 rd7).mono ?_; rintro e w8 ⟨rfl, hb8⟩; have hA8 := keepHeap hb8 hA7; have hB8 := keepHeap hb8 hB7; have cA8 := rowCells hA8; have cB8 := rowCells hB8; have hb18 := hb17.trans (hb8.mono hb17.size)))
  clear ra rb cA6 cB6 cA7 cB7 cA8 cB8 hA6 hB6 hA7 hB7 hA8 hB8 hb6 hb7 hb8 hb16 hb17 rd6 rd7 rd67 o6 o7 rb6
  have q0_4 := q0_3.trans (hb18.mono q0_3.size)
  have A_4 := keepHeap hb18 A_3
  have B_4 := keepHeap hb18 B_3
  have sz_4 := hb18.size
  clear q0_3 A_3 B_3 cA_3 cB_3
  clear hb18
  have cA_4 := rowCells A_4
  have cB_4 := rowCells B_4
  go_wp2_with (fail)
  refine (toReplay_any (h0.keep q0_4) hn).mono ?_
  rintro e w_5 ⟨vlX, vsX, vbX, rfl, oX, kX, hb_5⟩
  have q0_5 := q0_4.trans (hb_5.mono q0_4.size)
  have A_5 := keepHeap hb_5 A_4
  have B_5 := keepHeap hb_5 B_4
  have sz_5 := hb_5.size
  clear q0_4 A_4 B_4 cA_4 cB_4
  clear hb_5
  have qTX_5 : Below w_5.heap.size w_5 w_5 := Below.refl _ _
  have rdX := oX.rd
  obtain ⟨alX, clX, rfl, -⟩ := id rdX.1
  obtain ⟨aqX, cqX, rfl, -⟩ := id rdX.2.1
  obtain ⟨abX, cbX, rfl, -⟩ := id rdX.2.2
  clear rdX
  unfold rpC
  obtain ⟨w_6, hw_6, X_6, hb_6⟩ : ∃ W, w_5.alloc (.cells #[Value.slice alX x.lv.length clX, .int .i64 x.players, .int .i64 x.seed, .int .i64 x.every, .slice aqX x.rows.length cqX, .slice abX x.keys.length cbX] 40) = W ∧ W.heap[w_5.heap.size]? = some (.cells #[Value.slice alX x.lv.length clX, .int .i64 x.players, .int .i64 x.seed, .int .i64 x.every, .slice aqX x.rows.length cqX, .slice abX x.keys.length cbX] 40 (0, 0)) ∧ Below w_5.heap.size w_5 W := ⟨_, rfl, heap_alloc_new _ _, below1 _ _⟩
  have q0_6 := q0_5.trans (hb_6.mono q0_5.size)
  have qTX_6 := qTX_5.trans (hb_6.mono qTX_5.size)
  have A_6 := keepHeap hb_6 A_5
  have B_6 := keepHeap hb_6 B_5
  have sz_6 := hb_6.size
  clear q0_5 qTX_5 A_5 B_5
  clear hb_6
  have cA_6 := rowCells A_6
  have cB_6 := rowCells B_6
  have cX_6 := rowCells X_6
  go_wp2_with (fail)
  try rw [hw_6]
  clear hw_6
  refine (toReplay_any (h0'.keep q0_6) hn').mono ?_
  rintro e w_7 ⟨vlY, vsY, vbY, rfl, oY, kY, hb_7⟩
  have q0_7 := q0_6.trans (hb_7.mono q0_6.size)
  have qTX_7 := qTX_6.trans (hb_7.mono qTX_6.size)
  have A_7 := keepHeap hb_7 A_6
  have B_7 := keepHeap hb_7 B_6
  have X_7 := keepHeap hb_7 X_6
  have sz_7 := hb_7.size
  clear q0_6 qTX_6 A_6 B_6 X_6 cA_6 cB_6 cX_6
  clear hb_7
  have qTY_7 : Below w_7.heap.size w_7 w_7 := Below.refl _ _
  have rdY := oY.rd
  obtain ⟨alY, clY, rfl, -⟩ := id rdY.1
  obtain ⟨aqY, cqY, rfl, -⟩ := id rdY.2.1
  obtain ⟨abY, cbY, rfl, -⟩ := id rdY.2.2
  clear rdY
  unfold rpC
  obtain ⟨w_8, hw_8, Y_8, hb_8⟩ : ∃ W, w_7.alloc (.cells #[Value.slice alY y.lv.length clY, .int .i64 y.players, .int .i64 y.seed, .int .i64 y.every, .slice aqY y.rows.length cqY, .slice abY y.keys.length cbY] 40) = W ∧ W.heap[w_7.heap.size]? = some (.cells #[Value.slice alY y.lv.length clY, .int .i64 y.players, .int .i64 y.seed, .int .i64 y.every, .slice aqY y.rows.length cqY, .slice abY y.keys.length cbY] 40 (0, 0)) ∧ Below w_7.heap.size w_7 W := ⟨_, rfl, heap_alloc_new _ _, below1 _ _⟩
  have q0_8 := q0_7.trans (hb_8.mono q0_7.size)
  have qTX_8 := qTX_7.trans (hb_8.mono qTX_7.size)
  have qTY_8 := qTY_7.trans (hb_8.mono qTY_7.size)
  have A_8 := keepHeap hb_8 A_7
  have B_8 := keepHeap hb_8 B_7
  have X_8 := keepHeap hb_8 X_7
  have sz_8 := hb_8.size
  clear q0_7 qTX_7 qTY_7 A_7 B_7 X_7
  clear hb_8
  have cA_8 := rowCells A_8
  have cB_8 := rowCells B_8
  have cX_8 := rowCells X_8
  have cY_8 := rowCells Y_8
  go_wp2_with (fail)
  try rw [hw_8]
  clear hw_8
  refine (himpl (oX.rd.keep qTX_8) (oY.rd.keep qTY_8)).mono ?_
  rintro e w_9 ⟨rfl, hb_9⟩
  have q0_9 := q0_8.trans (hb_9.mono q0_8.size)
  have qTX_9 := qTX_8.trans (hb_9.mono qTX_8.size)
  have qTY_9 := qTY_8.trans (hb_9.mono qTY_8.size)
  have A_9 := keepHeap hb_9 A_8
  have B_9 := keepHeap hb_9 B_8
  have X_9 := keepHeap hb_9 X_8
  have Y_9 := keepHeap hb_9 Y_8
  have sz_9 := hb_9.size
  clear q0_8 qTX_8 qTY_8 A_8 B_8 X_8 Y_8 cA_8 cB_8 cX_8 cY_8
  clear hb_9
  have cA_9 := rowCells A_9
  have cB_9 := rowCells B_9
  have cX_9 := rowCells X_9
  have cY_9 := rowCells Y_9
  go_wp2_with (fail)
  have ra := (h0.keep q0_9)
  have rx := (oX.rd.keep qTX_9)
  go_region_held3 (fun w' => (∀ j, w'.cell? ⟨w.heap.size, j, none⟩ = #[Value.slice alA x.lv.length clA, .int .i64 x.players, .int .i64 x.seed, .int .i64 x.every, .slice aqA x.rows.length cqA, .slice abA x.keys.length cbA][j]?) ∧ (∀ j, w'.cell? ⟨w_5.heap.size, j, none⟩ = #[Value.slice alX x.lv.length clX, .int .i64 x.players, .int .i64 x.seed, .int .i64 x.every, .slice aqX x.rows.length cqX, .slice abX x.keys.length cbX][j]?)) (first | go_keep | (exact ⟨cA8, cX8⟩) | exact ⟨cA9, cX9⟩)
    (first
    | (go_at_call 17; refine (toReplay_any (RdRp.keep ra (belowDrew _ 1)) hn).mono ?_; rintro e w8 ⟨vl8, vs8, vb8, rfl, o8, -, hb8⟩; have hA8 := keepHeap hb8 (keepHeap (belowDrew _ 1) A_9); have hX8 := keepHeap hb8 (keepHeap (belowDrew _ 1) X_9); have cA8 := rowCells hA8; have cX8 := rowCells hX8; have rd8 := o8.rd; obtain ⟨al8, cl8, rfl, -⟩ := id rd8.1; obtain ⟨aq8, cq8, rfl, -⟩ := id rd8.2.1; obtain ⟨ab8, cb8, rfl, -⟩ := id rd8.2.2; have rdx8 := (RdRp.keep rx (belowDrew _ 1)).keep hb8; have hb18 := (belowDrew w_9 1).trans (hb8.mono (by simp)); unfold rpC)
    | (go_at_call 19; refine (eqReplay_same rdx8 rd8 hn).mono ?_; rintro e we1 ⟨rfl, hb9⟩; have cA9 := rowCells (keepHeap hb9 hA8); have cX9 := rowCells (keepHeap hb9 hX8); have hb19 := hb18.trans (hb9.mono hb18.size)))
  clear ra rx cA8 cX8 cA9 cX9 hA8 hX8 hb9 hb18 rdx8 rd8 o8 hb8
  have q0_10 := q0_9.trans (hb19.mono q0_9.size)
  have qTX_10 := qTX_9.trans (hb19.mono qTX_9.size)
  have qTY_10 := qTY_9.trans (hb19.mono qTY_9.size)
  have A_10 := keepHeap hb19 A_9
  have B_10 := keepHeap hb19 B_9
  have X_10 := keepHeap hb19 X_9
  have Y_10 := keepHeap hb19 Y_9
  have sz_10 := hb19.size
  clear q0_9 qTX_9 qTY_9 A_9 B_9 X_9 Y_9 cA_9 cB_9 cX_9 cY_9
  clear hb19
  have cB_10 := rowCells B_10
  have cY_10 := rowCells Y_10
  go_wp2_with (fail)
  have ra := (h0'.keep q0_10)
  have rx := (oY.rd.keep qTY_10)
  go_region_held3 (fun w' => (∀ j, w'.cell? ⟨w.heap.size + 1, j, none⟩ = #[Value.slice alB y.lv.length clB, .int .i64 y.players, .int .i64 y.seed, .int .i64 y.every, .slice aqB y.rows.length cqB, .slice abB y.keys.length cbB][j]?) ∧ (∀ j, w'.cell? ⟨w_7.heap.size, j, none⟩ = #[Value.slice alY y.lv.length clY, .int .i64 y.players, .int .i64 y.seed, .int .i64 y.every, .slice aqY y.rows.length cqY, .slice abY y.keys.length cbY][j]?)) (first | go_keep | (exact ⟨cA8, cX8⟩) | exact ⟨cA9, cX9⟩)
    (first
    | (go_at_call 17; refine (toReplay_any (RdRp.keep ra (belowDrew _ 1)) hn').mono ?_; rintro e w8 ⟨vl8, vs8, vb8, rfl, o8, -, hb8⟩; have hA8 := keepHeap hb8 (keepHeap (belowDrew _ 1) B_10); have hX8 := keepHeap hb8 (keepHeap (belowDrew _ 1) Y_10); have cA8 := rowCells hA8; have cX8 := rowCells hX8; have rd8 := o8.rd; obtain ⟨al8, cl8, rfl, -⟩ := id rd8.1; obtain ⟨aq8, cq8, rfl, -⟩ := id rd8.2.1; obtain ⟨ab8, cb8, rfl, -⟩ := id rd8.2.2; have rdx8 := (RdRp.keep rx (belowDrew _ 1)).keep hb8; have hb18 := (belowDrew we1 1).trans (hb8.mono (by simp)); unfold rpC)
    | (go_at_call 19; refine (eqReplay_same rdx8 rd8 hn').mono ?_; rintro e we2 ⟨rfl, hb9⟩; have cA9 := rowCells (keepHeap hb9 hA8); have cX9 := rowCells (keepHeap hb9 hX8); have hb19 := hb18.trans (hb9.mono hb18.size)))
  clear ra rx cA8 cX8 cA9 cX9 hA8 hX8 hb9 hb18 rdx8 rd8 o8 hb8
  have q0_11 := q0_10.trans (hb19.mono q0_10.size)
  have qTX_11 := qTX_10.trans (hb19.mono qTX_10.size)
  have qTY_11 := qTY_10.trans (hb19.mono qTY_10.size)
  have A_11 := keepHeap hb19 A_10
  have B_11 := keepHeap hb19 B_10
  have X_11 := keepHeap hb19 X_10
  have Y_11 := keepHeap hb19 Y_10
  have sz_11 := hb19.size
  clear q0_10 qTX_10 qTY_10 A_10 B_10 X_10 Y_10 cB_10 cY_10
  clear hb19
  go_wp2_with (fail)
  go_ret
  exact ⟨rfl, q0_11⟩
end Go.Proofs.Ytecimgennncjkaa
