/-
  The law on EncodeReplay. No condition.
-/
import Derived.Test.YtecimgennncjkaaDoorRpE
namespace Go.Proofs.YtecimgennncjkaaDoor
open Go.RowKit
set_option linter.all false
set_option maxRecDepth 100000 in
set_option maxHeartbeats 4000000 in
theorem lawEncodeReplay {w : World} (x : Rp) (vl vs vb : Value) (h : RdRp w x vl vs vb) (hs : x.sane) :
    Calls Tryd.prog 7 #[.agg (rpC x vl vs vb)] w fun e w' => e = .returned (.bool true) ∧ Below w.heap.size w w' := by
  have h0 := h
  obtain ⟨al, cl, rfl, -⟩ := id h.1
  obtain ⟨aq, cq, rfl, -⟩ := id h.2.1
  obtain ⟨ab, cb, rfl, -⟩ := id h.2.2
  obtain ⟨w_1, hW, A_1, q0_1, -⟩ := rows1 w #[Value.slice al x.lv.length cl, .int .i64 x.players, .int .i64 x.seed, .int .i64 x.every, .slice aq x.rows.length cq, .slice ab x.keys.length cb] 39
  have sz_1 := q0_1.size
  unfold rpC
  go_enter Tryd.func7, Tryd.ntmps7
  have cA_1 := rowCells A_1
  go_wp2_with (fail)
  try rw [hW]
  clear hW
  refine (szReplay_any (h0.keep q0_1) hs 1048576 (by omega) (by omega)).mono ?_
  rintro e w_2 ⟨r, rfl, hr, hb_2⟩
  have q0_2 := q0_1.trans (hb_2.mono q0_1.size)
  have A_2 := keepHeap hb_2 A_1
  have sz_2 := hb_2.size
  clear q0_1 A_1 cA_1
  clear hb_2
  rcases hr with rfl | ⟨hr0, hr1⟩
  · go_wp2_with (fail)
    go_ret
    exact ⟨rfl, q0_2⟩
  have zr : decide (r < 0) = false := by simpa using hr0
  have hn : x.few := (SzRp.few hr0 hr1).1
  have hkt : totalS x.keys ≤ 1048576 := by omega
  clear hr1
  have hspec := fun {W : World} {vl vs vb : Value} (h1 : RdRp W x vl vs vb) => encodeReplay_spec h1 hs hn hkt
  have himpl := fun {W : World} {vl vs vb : Value} (h1 : RdRp W x vl vs vb) (h2 : CapOk vl) => encodeReplay_impl h1 hs hn hkt h2
  unfold rpC at hspec himpl
  generalize encRp x = t at hspec himpl
  have cA_2 := rowCells A_2
  go_wp2_with (fail)
  refine (toReplay_any (h0.keep q0_2) hn).mono ?_
  rintro e w_3 ⟨vl1, vs1, vb1, rfl, o1, k1, hb_3⟩
  have q0_3 := q0_2.trans (hb_3.mono q0_2.size)
  have A_3 := keepHeap hb_3 A_2
  have sz_3 := hb_3.size
  clear q0_2 A_2 cA_2
  clear hb_3
  have qT1_3 : Below w_3.heap.size w_3 w_3 := Below.refl _ _
  have rd1 := o1.rd
  obtain ⟨al1, cl1, rfl, -⟩ := id rd1.1
  obtain ⟨aq1, cq1, rfl, -⟩ := id rd1.2.1
  obtain ⟨ab1, cb1, rfl, -⟩ := id rd1.2.2
  clear rd1
  unfold rpC
  have cA_3 := rowCells A_3
  go_wp2_with (fail)
  refine (hspec (o1.rd.keep qT1_3)).mono ?_
  rintro e w_4 ⟨rfl, hb_4⟩
  have q0_4 := q0_3.trans (hb_4.mono q0_3.size)
  have qT1_4 := qT1_3.trans (hb_4.mono qT1_3.size)
  have A_4 := keepHeap hb_4 A_3
  have sz_4 := hb_4.size
  clear q0_3 qT1_3 A_3 cA_3
  clear hb_4
  clear o1 k1 qT1_4
  have cA_4 := rowCells A_4
  go_wp2_with (fail)
  refine (toReplay_any (h0.keep q0_4) hn).mono ?_
  rintro e w_5 ⟨vl2, vs2, vb2, rfl, o2, k2, hb_5⟩
  have q0_5 := q0_4.trans (hb_5.mono q0_4.size)
  have A_5 := keepHeap hb_5 A_4
  have sz_5 := hb_5.size
  clear q0_4 A_4 cA_4
  clear hb_5
  have qT2_5 : Below w_5.heap.size w_5 w_5 := Below.refl _ _
  have rd2 := o2.rd
  obtain ⟨al2, cl2, rfl, -⟩ := id rd2.1
  obtain ⟨aq2, cq2, rfl, -⟩ := id rd2.2.1
  obtain ⟨ab2, cb2, rfl, -⟩ := id rd2.2.2
  clear rd2
  unfold rpC
  obtain ⟨w_6, hw_6, X_6, hb_6⟩ : ∃ W, w_5.alloc (.cells #[Value.slice al2 x.lv.length cl2, .int .i64 x.players, .int .i64 x.seed, .int .i64 x.every, .slice aq2 x.rows.length cq2, .slice ab2 x.keys.length cb2] 44) = W ∧ W.heap[w_5.heap.size]? = some (.cells #[Value.slice al2 x.lv.length cl2, .int .i64 x.players, .int .i64 x.seed, .int .i64 x.every, .slice aq2 x.rows.length cq2, .slice ab2 x.keys.length cb2] 44 (0, 0)) ∧ Below w_5.heap.size w_5 W := ⟨_, rfl, heap_alloc_new _ _, below1 _ _⟩
  have q0_6 := q0_5.trans (hb_6.mono q0_5.size)
  have qT2_6 := qT2_5.trans (hb_6.mono qT2_5.size)
  have A_6 := keepHeap hb_6 A_5
  have sz_6 := hb_6.size
  clear q0_5 qT2_5 A_5
  clear hb_6
  have cA_6 := rowCells A_6
  have cX_6 := rowCells X_6
  go_wp2_with (fail)
  try rw [hw_6]
  clear hw_6
  refine (himpl (o2.rd.keep qT2_6) k2.1).mono ?_
  rintro e w_7 ⟨rfl, hb_7⟩
  have q0_7 := q0_6.trans (hb_7.mono q0_6.size)
  have qT2_7 := qT2_6.trans (hb_7.mono qT2_6.size)
  have A_7 := keepHeap hb_7 A_6
  have X_7 := keepHeap hb_7 X_6
  have sz_7 := hb_7.size
  clear q0_6 qT2_6 A_6 X_6 cA_6 cX_6
  clear hb_7
  have cA_7 := rowCells A_7
  have cX_7 := rowCells X_7
  go_wp2_with (fail)
  have ra := (h0.keep q0_7)
  have rx := (o2.rd.keep qT2_7)
  go_region_held3 (fun w' => (∀ j, w'.cell? ⟨w.heap.size, j, none⟩ = #[Value.slice al x.lv.length cl, .int .i64 x.players, .int .i64 x.seed, .int .i64 x.every, .slice aq x.rows.length cq, .slice ab x.keys.length cb][j]?) ∧ (∀ j, w'.cell? ⟨w_5.heap.size, j, none⟩ = #[Value.slice al2 x.lv.length cl2, .int .i64 x.players, .int .i64 x.seed, .int .i64 x.every, .slice aq2 x.rows.length cq2, .slice ab2 x.keys.length cb2][j]?)) (first | go_keep | (exact ⟨cA8, cX8⟩) | exact ⟨cA9, cX9⟩)
    (first
    | (go_at_call 17; refine (toReplay_any (RdRp.keep ra (belowDrew _ 1)) hn).mono ?_; rintro e w8 ⟨vl8, vs8, vb8, rfl, o8, -, hb8⟩; have hA8 := keepHeap hb8 (keepHeap (belowDrew _ 1) A_7); have hX8 := keepHeap hb8 (keepHeap (belowDrew _ 1) X_7); have cA8 := rowCells hA8; have cX8 := rowCells hX8; have rd8 := o8.rd; obtain ⟨al8, cl8, rfl, -⟩ := id rd8.1; obtain ⟨aq8, cq8, rfl, -⟩ := id rd8.2.1; obtain ⟨ab8, cb8, rfl, -⟩ := id rd8.2.2; have rdx8 := (RdRp.keep rx (belowDrew _ 1)).keep hb8; have hb18 := (belowDrew w_7 1).trans (hb8.mono (by simp)); unfold rpC)
    | (go_at_call 19; refine (eqReplay_same rdx8 rd8 hn).mono ?_; rintro e w9 ⟨rfl, hb9⟩; have cA9 := rowCells (keepHeap hb9 hA8); have cX9 := rowCells (keepHeap hb9 hX8); have hb19 := hb18.trans (hb9.mono hb18.size)))
  have hend := q0_7.trans (hb19.mono q0_7.size)
  go_wp2_with (fail)
  go_ret
  exact ⟨rfl, hend⟩
end Go.Proofs.YtecimgennncjkaaDoor
