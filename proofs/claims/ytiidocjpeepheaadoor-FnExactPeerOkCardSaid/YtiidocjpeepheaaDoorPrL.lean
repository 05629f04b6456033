/-
  The law on PeerOk. No condition.
-/
import Derived.Test.YtiidocjpeepheaaDoorPrO
import Derived.Deep.RegionHeld3
import Derived.Deep.WholeRow
import Derived.Great.Walk
namespace Go.Proofs.YtiidocjpeepheaaDoor
open Go.RowKit Go.Great
set_option linter.all false
theorem exec_load_row {P : Program} {o : Oper} {a : Act} {w : World} (ty : TypeId) (x : Operand) (ho : o.op = .load ty x)
    (g : Nat) (hx : a.eval x = .pointer (some ⟨g, 0, none⟩)) (t : TypeId) (cs : Array Value) (fr : Nat × Nat) (d : TypeDesc) (hg : w.heap[g]? = some (.cells cs t fr))
    (hu : P.underlying ty = some d) (hd : (match d with | .struct _ | .array _ _ => true | _ => false) = true) (hi : (P.info? ty).map (·.size) = some cs.size) :
    (execOp a.eval o).run P w = .ok (.value (.agg cs)) w := by
  unfold execOp
  simp only [ho, hx, Instr.loadAt, Instr.sureAddr, Sem.run_bind, Sem.run_pure, Result.andThen_ok, run_loadVar_row w g t ty cs fr d hg hu hd hi]
set_option maxRecDepth 100000 in
set_option maxHeartbeats 8000000 in
theorem lawPeerOk {w : World} (p : Pr) (vt bl bs bb nl ns nb vu vv vs : Value) (h : RdPr w p vt bl bs bb nl ns nb vu vv vs) (hs : p.sane) :
    Calls Tryd.prog 3 #[.agg (prC p vt bl bs bb nl ns nb vu vv vs)] w fun e w' => e = .returned (.bool true) ∧ Below w.heap.size w w' := by
  have h0 := h
  obtain ⟨a0, c0, rfl, -⟩ := id h.1
  obtain ⟨a1, c1, rfl, -⟩ := id h.2.1.1
  obtain ⟨a2, c2, rfl, -⟩ := id h.2.1.2.1
  obtain ⟨a3, c3, rfl, -⟩ := id h.2.1.2.2
  obtain ⟨a4, c4, rfl, -⟩ := id h.2.2.1.1
  obtain ⟨a5, c5, rfl, -⟩ := id h.2.2.1.2.1
  obtain ⟨a6, c6, rfl, -⟩ := id h.2.2.1.2.2
  obtain ⟨a7, c7, rfl, -⟩ := id h.2.2.2.1
  obtain ⟨a8, c8, rfl, -⟩ := id h.2.2.2.2.1
  obtain ⟨a9, c9, rfl, -⟩ := id h.2.2.2.2.2
  obtain ⟨w_1, hW, A_1, q0_1, -⟩ := rows1 w #[Value.int .i64 p.me, .int .i64 p.delay, .int .i64 p.ahead, .int .i64 p.seed, (.slice a0 p.tracks.length c0), (.slice a1 p.base.rows.length c1), .int .i64 p.base.tick, .int .i64 p.base.seed, (.slice a2 p.base.scores.length c2), (.slice a3 p.base.bods.length c3), (.slice a4 p.now.rows.length c4), .int .i64 p.now.tick, .int .i64 p.now.seed, (.slice a5 p.now.scores.length c5), (.slice a6 p.now.bods.length c6), (.slice a7 p.used.length c7), (.slice a8 p.saves.length c8), (.slice a9 p.sums.length c9), .int .i64 p.fault.tick, .int .i64 p.fault.player, .int .i64 p.fault.add, .int .i64 p.rolls, .int .i64 p.again] 35
  unfold prC
  go_enter Tryd.func3, Tryd.ntmps3
  go_upto_region 2 with (fail)
  try rw [hW]
  clear hW
  refine wp_region_lit ?_
  refine wpList_load_row rfl 35 _ rfl (w.heap.size) rfl 35 _ (0, 0) _ A_1 Tryd.underlying35 rfl (by kernel_rfl) ?_
  go_wp2_with (fail)
  refine (szPeer_any (h0.keep q0_1) hs 1048576 (by omega) (by omega)).mono ?_
  rintro e w_2 ⟨r, rfl, hr, hb_2⟩
  have q0_2 := q0_1.trans (hb_2.mono q0_1.size)
  have A_2 := keepHeap hb_2 A_1
  clear q0_1 A_1 hb_2
  rcases hr with rfl | ⟨hr0, -, hn⟩
  · go_wp2_with (fail)
    go_ret
    exact ⟨rfl, q0_2⟩
  have zr : decide (r < 0) = false := by simpa using hr0
  have hspec := fun {W : World} {vt bl bs bb nl ns nb vu vv vs : Value} (h1 : RdPr W p vt bl bs bb nl ns nb vu vv vs) => peerOk_spec h1 hs hn
  have himpl := fun {W : World} {vt bl bs bb nl ns nb vu vv vs : Value} (h1 : RdPr W p vt bl bs bb nl ns nb vu vv vs) => peerOk_impl h1 hs hn
  have heq := fun {W : World} {vt bl bs bb nl ns nb vu vv vs vt' bl' bs' bb' nl' ns' nb' vu' vv' vs' : Value} (h1 : RdPr W p vt bl bs bb nl ns nb vu vv vs) (h2 : RdPr W p vt' bl' bs' bb' nl' ns' nb' vu' vv' vs') => eqPeer_same h1 h2 hn
  have hto := fun {W : World} (h1 : RdPr W p (.slice a0 p.tracks.length c0) (.slice a1 p.base.rows.length c1) (.slice a2 p.base.scores.length c2) (.slice a3 p.base.bods.length c3) (.slice a4 p.now.rows.length c4) (.slice a5 p.now.scores.length c5) (.slice a6 p.now.bods.length c6) (.slice a7 p.used.length c7) (.slice a8 p.saves.length c8) (.slice a9 p.sums.length c9)) => toPeer_any h1 hn
  unfold prC at hspec himpl heq hto
  generalize peerB p = t at hspec himpl
  go_upto_region 5 with (fail)
  refine wp_region_lit ?_
  refine wpList_load_row rfl 35 _ rfl (w.heap.size) rfl 35 _ (0, 0) _ A_2 Tryd.underlying35 rfl (by kernel_rfl) ?_
  go_wp2_with (fail)
  refine (hto (h0.keep q0_2)).mono ?_
  rintro e w_3 ⟨u0, u1, u2, u3, u4, u5, u6, u7, u8, u9, rfl, o1, hb_3⟩
  have q0_3 := q0_2.trans (hb_3.mono q0_2.size)
  have A_3 := keepHeap hb_3 A_2
  clear q0_2 A_2 hb_3
  have rd1 := o1
  obtain ⟨a01, c01, rfl, -⟩ := id rd1.1
  obtain ⟨a11, c11, rfl, -⟩ := id rd1.2.1.1
  obtain ⟨a21, c21, rfl, -⟩ := id rd1.2.1.2.1
  obtain ⟨a31, c31, rfl, -⟩ := id rd1.2.1.2.2
  obtain ⟨a41, c41, rfl, -⟩ := id rd1.2.2.1.1
  obtain ⟨a51, c51, rfl, -⟩ := id rd1.2.2.1.2.1
  obtain ⟨a61, c61, rfl, -⟩ := id rd1.2.2.1.2.2
  obtain ⟨a71, c71, rfl, -⟩ := id rd1.2.2.2.1
  obtain ⟨a81, c81, rfl, -⟩ := id rd1.2.2.2.2.1
  obtain ⟨a91, c91, rfl, -⟩ := id rd1.2.2.2.2.2
  clear rd1
  unfold prC
  go_wp2_with (fail)
  refine (hspec o1).mono ?_
  rintro e w_4 ⟨rfl, hb_4⟩
  have q0_4 := q0_3.trans (hb_4.mono q0_3.size)
  have A_4 := keepHeap hb_4 A_3
  clear q0_3 A_3 hb_4 o1
  go_upto_region 6 with (fail)
  refine wp_region_lit ?_
  refine wpList_load_row rfl 35 _ rfl (w.heap.size) rfl 35 _ (0, 0) _ A_4 Tryd.underlying35 rfl (by kernel_rfl) ?_
  go_wp2_with (fail)
  rename_i hK6
  refine (hto (h0.keep q0_4)).mono ?_
  rintro e w_5 ⟨u0, u1, u2, u3, u4, u5, u6, u7, u8, u9, rfl, o2, hb_5⟩
  have q0_5 := q0_4.trans (hb_5.mono q0_4.size)
  have A_5 := keepHeap hb_5 A_4
  clear q0_4 A_4 hb_5
  have rd2 := o2
  obtain ⟨a02, c02, rfl, -⟩ := id rd2.1
  obtain ⟨a12, c12, rfl, -⟩ := id rd2.2.1.1
  obtain ⟨a22, c22, rfl, -⟩ := id rd2.2.1.2.1
  obtain ⟨a32, c32, rfl, -⟩ := id rd2.2.1.2.2
  obtain ⟨a42, c42, rfl, -⟩ := id rd2.2.2.1.1
  obtain ⟨a52, c52, rfl, -⟩ := id rd2.2.2.1.2.1
  obtain ⟨a62, c62, rfl, -⟩ := id rd2.2.2.1.2.2
  obtain ⟨a72, c72, rfl, -⟩ := id rd2.2.2.2.1
  obtain ⟨a82, c82, rfl, -⟩ := id rd2.2.2.2.2.1
  obtain ⟨a92, c92, rfl, -⟩ := id rd2.2.2.2.2.2
  clear rd2
  unfold prC
  obtain ⟨w_6, hw_6, X_6, hb_6⟩ : ∃ W, w_5.alloc (.cells #[Value.int .i64 p.me, .int .i64 p.delay, .int .i64 p.ahead, .int .i64 p.seed, (.slice a02 p.tracks.length c02), (.slice a12 p.base.rows.length c12), .int .i64 p.base.tick, .int .i64 p.base.seed, (.slice a22 p.base.scores.length c22), (.slice a32 p.base.bods.length c32), (.slice a42 p.now.rows.length c42), .int .i64 p.now.tick, .int .i64 p.now.seed, (.slice a52 p.now.scores.length c52), (.slice a62 p.now.bods.length c62), (.slice a72 p.used.length c72), (.slice a82 p.saves.length c82), (.slice a92 p.sums.length c92), .int .i64 p.fault.tick, .int .i64 p.fault.player, .int .i64 p.fault.add, .int .i64 p.rolls, .int .i64 p.again] 46) = W ∧ W.heap[w_5.heap.size]? = some (.cells #[Value.int .i64 p.me, .int .i64 p.delay, .int .i64 p.ahead, .int .i64 p.seed, (.slice a02 p.tracks.length c02), (.slice a12 p.base.rows.length c12), .int .i64 p.base.tick, .int .i64 p.base.seed, (.slice a22 p.base.scores.length c22), (.slice a32 p.base.bods.length c32), (.slice a42 p.now.rows.length c42), .int .i64 p.now.tick, .int .i64 p.now.seed, (.slice a52 p.now.scores.length c52), (.slice a62 p.now.bods.length c62), (.slice a72 p.used.length c72), (.slice a82 p.saves.length c82), (.slice a92 p.sums.length c92), .int .i64 p.fault.tick, .int .i64 p.fault.player, .int .i64 p.fault.add, .int .i64 p.rolls, .int .i64 p.again] 46 (0, 0)) ∧ Below w_5.heap.size w_5 W := ⟨_, rfl, heap_alloc_new _ _, below1 _ _⟩
  have q0_6 := q0_5.trans (hb_6.mono q0_5.size)
  have o2 := o2.keep hb_6
  have A_6 := keepHeap hb_6 A_5
  clear q0_5 A_5 hb_6
  refine hK6 _ _ ?_
  clear hK6
  refine wpList_runTo rfl _ rfl (.pointer (some ⟨w_5.heap.size, 0, none⟩)) (w_5.alloc (.cells #[Value.int .i64 0, .int .i64 0, .int .i64 0, .int .i64 0, (.slice none 0 0), (.slice none 0 0), .int .i64 0, .int .i64 0, (.slice none 0 0), (.slice none 0 0), (.slice none 0 0), .int .i64 0, .int .i64 0, (.slice none 0 0), (.slice none 0 0), (.slice none 0 0), (.slice none 0 0), (.slice none 0 0), .int .i64 0, .int .i64 0, .int .i64 0, .int .i64 0, .int .i64 0] 46)) (by kernel_rfl) ?_
  refine wpList_store_row rfl 46 _ _ rfl w_5.heap.size #[Value.int .i64 p.me, .int .i64 p.delay, .int .i64 p.ahead, .int .i64 p.seed, (.slice a02 p.tracks.length c02), (.slice a12 p.base.rows.length c12), .int .i64 p.base.tick, .int .i64 p.base.seed, (.slice a22 p.base.scores.length c22), (.slice a32 p.base.bods.length c32), (.slice a42 p.now.rows.length c42), .int .i64 p.now.tick, .int .i64 p.now.seed, (.slice a52 p.now.scores.length c52), (.slice a62 p.now.bods.length c62), (.slice a72 p.used.length c72), (.slice a82 p.saves.length c82), (.slice a92 p.sums.length c92), .int .i64 p.fault.tick, .int .i64 p.fault.player, .int .i64 p.fault.add, .int .i64 p.rolls, .int .i64 p.again] rfl rfl 46 _ (heap_alloc_new _ _) (by kernel_rfl) rfl (by simp [Value.oneCell']) ?_
  rw [World.setRow_alloc_new, hw_6]
  clear hw_6
  go_upto_region 7 with (fail)
  refine wp_region_lit ?_
  refine wpList_load_row rfl 46 _ rfl (w_5.heap.size) rfl 46 _ (0, 0) _ X_6 Tryd.underlying46 rfl (by kernel_rfl) ?_
  go_wp2_with (fail)
  refine (himpl o2).mono ?_
  rintro e w_7 ⟨rfl, hb_7⟩
  have q0_7 := q0_6.trans (hb_7.mono q0_6.size)
  have o2 := o2.keep hb_7
  have A_7 := keepHeap hb_7 A_6
  have X_7 := keepHeap hb_7 X_6
  clear q0_6 A_6 X_6 hb_7
  go_upto_region 10 with (fail)
  have ra := h0.keep q0_7
  have bs_0 : Below w_7.heap.size w_7 w_7.drew := belowDrew w_7 1
  refine wp_region_held_drew (S := fun w' => w'.heap[w.heap.size]? = some (.cells #[Value.int .i64 p.me, .int .i64 p.delay, .int .i64 p.ahead, .int .i64 p.seed, (.slice a0 p.tracks.length c0), (.slice a1 p.base.rows.length c1), .int .i64 p.base.tick, .int .i64 p.base.seed, (.slice a2 p.base.scores.length c2), (.slice a3 p.base.bods.length c3), (.slice a4 p.now.rows.length c4), .int .i64 p.now.tick, .int .i64 p.now.seed, (.slice a5 p.now.scores.length c5), (.slice a6 p.now.bods.length c6), (.slice a7 p.used.length c7), (.slice a8 p.saves.length c8), (.slice a9 p.sums.length c9), .int .i64 p.fault.tick, .int .i64 p.fault.player, .int .i64 p.fault.add, .int .i64 p.rolls, .int .i64 p.again] 35 (0, 0)) ∧ w'.heap[w_5.heap.size]? = some (.cells #[Value.int .i64 p.me, .int .i64 p.delay, .int .i64 p.ahead, .int .i64 p.seed, (.slice a02 p.tracks.length c02), (.slice a12 p.base.rows.length c12), .int .i64 p.base.tick, .int .i64 p.base.seed, (.slice a22 p.base.scores.length c22), (.slice a32 p.base.bods.length c32), (.slice a42 p.now.rows.length c42), .int .i64 p.now.tick, .int .i64 p.now.seed, (.slice a52 p.now.scores.length c52), (.slice a62 p.now.bods.length c62), (.slice a72 p.used.length c72), (.slice a82 p.saves.length c82), (.slice a92 p.sums.length c92), .int .i64 p.fault.tick, .int .i64 p.fault.player, .int .i64 p.fault.add, .int .i64 p.rolls, .int .i64 p.again] 46 (0, 0))) (by kernel_rfl) ?_ (fun hHeld => ?_)
  · exact ⟨keepHeap bs_0 A_7, keepHeap bs_0 X_7⟩
  refine take_on (i := 0) (v := .agg #[Value.int .i64 p.me, .int .i64 p.delay, .int .i64 p.ahead, .int .i64 p.seed, (.slice a02 p.tracks.length c02), (.slice a12 p.base.rows.length c12), .int .i64 p.base.tick, .int .i64 p.base.seed, (.slice a22 p.base.scores.length c22), (.slice a32 p.base.bods.length c32), (.slice a42 p.now.rows.length c42), .int .i64 p.now.tick, .int .i64 p.now.seed, (.slice a52 p.now.scores.length c52), (.slice a62 p.now.bods.length c62), (.slice a72 p.used.length c72), (.slice a82 p.saves.length c82), (.slice a92 p.sums.length c92), .int .i64 p.fault.tick, .int .i64 p.fault.player, .int .i64 p.fault.add, .int .i64 p.rolls, .int .i64 p.again]) (some 22) rfl (by kernel_rfl) (by kernel_rfl) (by kernel_rfl) rfl (fun _ _ _ h => h) (by rfl) (fun W hW => exec_load_row 46 _ rfl (w_5.heap.size) rfl 46 _ (0, 0) _ hW.2 Tryd.underlying46 rfl (by kernel_rfl)) (by assumption) ?_
  (try simp only [Act.put, List.setIfInBounds_toArray, List.set_cons_zero, List.set_cons_succ])
  refine take_on (i := 1) (v := .agg #[Value.int .i64 p.me, .int .i64 p.delay, .int .i64 p.ahead, .int .i64 p.seed, (.slice a0 p.tracks.length c0), (.slice a1 p.base.rows.length c1), .int .i64 p.base.tick, .int .i64 p.base.seed, (.slice a2 p.base.scores.length c2), (.slice a3 p.base.bods.length c3), (.slice a4 p.now.rows.length c4), .int .i64 p.now.tick, .int .i64 p.now.seed, (.slice a5 p.now.scores.length c5), (.slice a6 p.now.bods.length c6), (.slice a7 p.used.length c7), (.slice a8 p.saves.length c8), (.slice a9 p.sums.length c9), .int .i64 p.fault.tick, .int .i64 p.fault.player, .int .i64 p.fault.add, .int .i64 p.rolls, .int .i64 p.again]) (some 23) rfl (by kernel_rfl) (by kernel_rfl) (by kernel_rfl) rfl (fun _ _ _ h => h) (by rfl) (fun W hW => exec_load_row 35 _ rfl (w.heap.size) rfl 35 _ (0, 0) _ hW.1 Tryd.underlying35 rfl (by kernel_rfl)) (by assumption) ?_
  (try simp only [Act.put, List.setIfInBounds_toArray, List.set_cons_zero, List.set_cons_succ])
  refine wpAnyH_ready (rs := [2]) (by kernel_rfl) (by simp) ?_
  refine AllReadyH.cons rfl (fun K hK => ?_) AllReadyH.nil
  go_simp
  refine (hto (ra.keep bs_0)).mono ?_
  rintro e w_8 ⟨u0, u1, u2, u3, u4, u5, u6, u7, u8, u9, rfl, o8, hb_8⟩
  have bs_1 := bs_0.trans (hb_8.mono bs_0.size)
  have rd8 := o8
  obtain ⟨a08, c08, rfl, -⟩ := id rd8.1
  obtain ⟨a18, c18, rfl, -⟩ := id rd8.2.1.1
  obtain ⟨a28, c28, rfl, -⟩ := id rd8.2.1.2.1
  obtain ⟨a38, c38, rfl, -⟩ := id rd8.2.1.2.2
  obtain ⟨a48, c48, rfl, -⟩ := id rd8.2.2.1.1
  obtain ⟨a58, c58, rfl, -⟩ := id rd8.2.2.1.2.1
  obtain ⟨a68, c68, rfl, -⟩ := id rd8.2.2.1.2.2
  obtain ⟨a78, c78, rfl, -⟩ := id rd8.2.2.2.1
  obtain ⟨a88, c88, rfl, -⟩ := id rd8.2.2.2.2.1
  obtain ⟨a98, c98, rfl, -⟩ := id rd8.2.2.2.2.2
  clear rd8
  unfold prC
  (try go_wp2_with (fail))
  refine hK.out _ _ ?_ (fun hHeld => ?_)
  · exact ⟨keepHeap bs_1 A_7, keepHeap bs_1 X_7⟩
  clear hK K
  (try simp only [Act.put, List.setIfInBounds_toArray, List.set_cons_zero, List.set_cons_succ])
  refine wpAnyH_ready (rs := [3]) (by kernel_rfl) (by simp) ?_
  refine AllReadyH.cons rfl (fun K hK => ?_) AllReadyH.nil
  go_simp
  refine (heq (o2.keep bs_1) o8).mono ?_
  rintro e w_9 ⟨rfl, hb_9⟩
  have bs_2 := bs_1.trans (hb_9.mono bs_1.size)
  (try go_wp2_with (fail))
  refine hK.out _ _ ?_ (fun hHeld => ?_)
  · exact ⟨keepHeap bs_2 A_7, keepHeap bs_2 X_7⟩
  clear hK K
  (try simp only [Act.put, List.setIfInBounds_toArray, List.set_cons_zero, List.set_cons_succ])
  refine take_on (i := 4) (v := ?_) (some 26) rfl (by kernel_rfl) (by kernel_rfl) (by kernel_rfl) rfl (fun _ _ _ h => h) (by rfl) ?_ (by assumption) ?_
  rotate_left
  · intro w hSw; (try dsimp only at hSw); go_simp; (try with_reducible rfl)
  (try simp only [Act.put, List.setIfInBounds_toArray, List.set_cons_zero, List.set_cons_succ])
  refine wpAnyH_done (by kernel_rfl) ?_ _
  have hend := q0_7.trans (bs_2.mono q0_7.size)
  go_wp2_with (fail)
  go_ret
  exact ⟨rfl, hend⟩
end Go.Proofs.YtiidocjpeepheaaDoor
