/-
  What asks PeerOk and then reads some fields: the model, the program, the laws. No condition.
-/
import Derived.Test.YtiidocjpeepheaaGreatDoorPrO
import Derived.Deep.RegionHeld3
import Derived.Deep.WholeRow
import Derived.Great.Walk
namespace Go.Proofs.YtiidocjpeepheaaGreatDoor
open Go.RowKit Go.Great
set_option linter.all false
theorem exec_load_row {P : Program} {o : Oper} {a : Act} {w : World} (ty : TypeId) (x : Operand) (ho : o.op = .load ty x)
    (g : Nat) (hx : a.eval x = .pointer (some ⟨g, 0, none⟩)) (t : TypeId) (cs : Array Value) (fr : Nat × Nat) (d : TypeDesc) (hg : w.heap[g]? = some (.cells cs t fr))
    (hu : P.underlying ty = some d) (hd : (match d with | .struct _ | .array _ _ => true | _ => false) = true) (hi : (P.info? ty).map (·.size) = some cs.size) :
    (execOp a.eval o).run P w = .ok (.value (.agg cs)) w := by
  unfold execOp
  simp only [ho, hx, Instr.loadAt, Instr.sureAddr, Sem.run_bind, Sem.run_pure, Result.andThen_ok, run_loadVar_row w g t ty cs fr d hg hu hd hi]
/-- What LeadOf answers. -/
def leadI (p : Pr) : Int := if peerB p then wrap64 (p.now.tick - p.base.tick) else -1
/-- There is room for one more row, and the peer's own input is there. -/
def mayB (p : Pr) : Bool := decide ((p.used.length : Int) < p.ahead) && decide (p.now.tick < ((p.tracks.getD p.me.toNat []).length : Int))
def canB (p : Pr) : Bool := peerB p && mayB p
theorem may_no {p : Pr} (h : ¬ (p.used.length : Int) < p.ahead) : mayB p = false := by unfold mayB; rw [decide_eq_false h]; rfl
theorem may_ok {p : Pr} {m : Nat} (hm : m < p.tracks.length) (h0 : p.me = (m : Int)) (h : (p.used.length : Int) < p.ahead) : mayB p = decide (p.now.tick < (p.tracks[m].length : Int)) := by
  have e : p.tracks.getD p.me.toNat [] = p.tracks[m] := by rw [h0, Int.toNat_natCast, List.getD_eq_getElem?_getD, List.getElem?_eq_getElem hm, Option.getD_some]
  unfold mayB; rw [decide_eq_true h, e]; rfl
theorem peer_me {p : Pr} (h : peerB p = true) : 0 ≤ p.me ∧ p.me < (p.tracks.length : Int) := by
  unfold peerB numbersB at h
  simp only [Bool.and_eq_true] at h
  have := (inR_iff _ _ _).1 h.2.2.1.2.1
  omega
set_option maxRecDepth 100000 in
set_option maxHeartbeats 2000000 in
theorem leadOf_spec {w : World} {p : Pr} {vt bl bs bb nl ns nb vu vv vs : Value} (h : RdPr w p vt bl bs bb nl ns nb vu vv vs) (hs : p.sane) (hn : p.few) :
    Calls Tryz.prog 13 #[.agg (prC p vt bl bs bb nl ns nb vu vv vs)] w fun e w' => e = .returned (.int .i64 (leadI p)) ∧ Below w.heap.size w w' := by
  have h0 := h
  obtain ⟨W0, hW, A_0, q_0, -⟩ := rows1 w #[Value.int .i64 p.me, .int .i64 p.delay, .int .i64 p.ahead, .int .i64 p.seed, vt, bl, .int .i64 p.base.tick, .int .i64 p.base.seed, bs, bb, nl, .int .i64 p.now.tick, .int .i64 p.now.seed, ns, nb, vu, vv, vs, .int .i64 p.fault.tick, .int .i64 p.fault.player, .int .i64 p.fault.add, .int .i64 p.rolls, .int .i64 p.again] 46
  have hp := fun {W : World} (h1 : RdPr W p vt bl bs bb nl ns nb vu vv vs) => peerOk_spec h1 hs hn
  unfold prC at hp ⊢
  go_enter Tryz.func13, Tryz.ntmps13
  go_upto_region 1 with (fail)
  try rw [hW]
  clear hW
  refine wp_region_lit ?_
  refine wpList_load_row rfl 46 _ rfl (w.heap.size) rfl 46 _ (0, 0) _ A_0 Tryz.underlying46 rfl (by kernel_rfl) ?_
  go_wp2_with (fail)
  refine (hp (h0.keep q_0)).mono ?_
  rintro e w_1 ⟨rfl, hb⟩
  have q_1 := q_0.trans (hb.mono q_0.size)
  have A_1 := keepHeap hb A_0
  clear A_0 q_0 hb hp
  cases hq : peerB p with
  | false =>
    have HF := Lib.hid (show leadI p = -1 by unfold leadI; rw [hq]; rfl)
    clear hq
    go_wp2_with (fail)
    go_ret
    exact ⟨by rw [HF.out]; rfl, q_1⟩
  | true =>
    have HF := Lib.hid (show leadI p = wrap64 (p.now.tick - p.base.tick) by unfold leadI; rw [hq]; rfl)
    clear hq
    have cA := rowCells A_1
    go_wp2_with (fail)
    go_ret
    exact ⟨by rw [HF.out]; rfl, q_1⟩
set_option maxRecDepth 100000 in
set_option maxHeartbeats 2000000 in
theorem leadOf_impl {w : World} {p : Pr} {vt bl bs bb nl ns nb vu vv vs : Value} (h : RdPr w p vt bl bs bb nl ns nb vu vv vs) (hs : p.sane) (hn : p.few) :
    Calls Tryz.prog 14 #[.agg (prC p vt bl bs bb nl ns nb vu vv vs)] w fun e w' => e = .returned (.int .i64 (leadI p)) ∧ Below w.heap.size w w' := by
  have h0 := h
  obtain ⟨W0, hW, A_0, q_0, -⟩ := rows1 w #[Value.int .i64 p.me, .int .i64 p.delay, .int .i64 p.ahead, .int .i64 p.seed, vt, bl, .int .i64 p.base.tick, .int .i64 p.base.seed, bs, bb, nl, .int .i64 p.now.tick, .int .i64 p.now.seed, ns, nb, vu, vv, vs, .int .i64 p.fault.tick, .int .i64 p.fault.player, .int .i64 p.fault.add, .int .i64 p.rolls, .int .i64 p.again] 46
  have hp := fun {W : World} (h1 : RdPr W p vt bl bs bb nl ns nb vu vv vs) => peerOk_impl h1 hs hn
  unfold prC at hp ⊢
  go_enter Tryz.func14, Tryz.ntmps14
  go_upto_region 1 with (fail)
  try rw [hW]
  clear hW
  refine wp_region_lit ?_
  refine wpList_load_row rfl 46 _ rfl (w.heap.size) rfl 46 _ (0, 0) _ A_0 Tryz.underlying46 rfl (by kernel_rfl) ?_
  go_wp2_with (fail)
  refine (hp (h0.keep q_0)).mono ?_
  rintro e w_1 ⟨rfl, hb⟩
  have q_1 := q_0.trans (hb.mono q_0.size)
  have A_1 := keepHeap hb A_0
  clear A_0 q_0 hb hp
  cases hq : peerB p with
  | false =>
    have HF := Lib.hid (show leadI p = -1 by unfold leadI; rw [hq]; rfl)
    clear hq
    go_wp2_with (fail)
    go_ret
    exact ⟨by rw [HF.out]; rfl, q_1⟩
  | true =>
    have HF := Lib.hid (show leadI p = wrap64 (p.now.tick - p.base.tick) by unfold leadI; rw [hq]; rfl)
    clear hq
    have cA := rowCells A_1
    go_wp2_with (fail)
    go_ret
    exact ⟨by rw [HF.out]; rfl, q_1⟩
set_option maxRecDepth 100000 in
set_option maxHeartbeats 8000000 in
theorem lawLeadOf {w : World} (p : Pr) (vt bl bs bb nl ns nb vu vv vs : Value) (h : RdPr w p vt bl bs bb nl ns nb vu vv vs) (hs : p.sane) :
    Calls Tryz.prog 4 #[.agg (prC p vt bl bs bb nl ns nb vu vv vs)] w fun e w' => e = .returned (.bool true) ∧ Below w.heap.size w w' := by
  have h0 := h
  obtain ⟨a0, c0, rfl, -⟩ := id h.1
  obtain ⟨a1, c1, rfl, -⟩ := id h.2.1.1
  obtain ⟨a2, c2, rfl, -⟩ := id h.2.1.2.1
  obtain ⟨a3, c3, rfl, -⟩ := id h.2.1.2.2
  obtain ⟨a4, c4, rfl, -⟩ := id h.2.2.1.1
  obtain ⟨a5, c5, rfl, -⟩ := id h.2.2.1.2.1
  obtain ⟨a6, c6, rfl, -⟩ := id h.2.2.1.2.2
  obtain ⟨a7, c7, rfl, -⟩ := id h.2.2.2.1
  obtain ⟨a8, c8, rfl, -⟩ := id h.2.2.2.2.1
  obtain ⟨a9, c9, rfl, -⟩ := id h.2.2.2.2.2
  obtain ⟨w_1, hW, A_1, q0_1, -⟩ := rows1 w #[Value.int .i64 p.me, .int .i64 p.delay, .int .i64 p.ahead, .int .i64 p.seed, (.slice a0 p.tracks.length c0), (.slice a1 p.base.rows.length c1), .int .i64 p.base.tick, .int .i64 p.base.seed, (.slice a2 p.base.scores.length c2), (.slice a3 p.base.bods.length c3), (.slice a4 p.now.rows.length c4), .int .i64 p.now.tick, .int .i64 p.now.seed, (.slice a5 p.now.scores.length c5), (.slice a6 p.now.bods.length c6), (.slice a7 p.used.length c7), (.slice a8 p.saves.length c8), (.slice a9 p.sums.length c9), .int .i64 p.fault.tick, .int .i64 p.fault.player, .int .i64 p.fault.add, .int .i64 p.rolls, .int .i64 p.again] 35
  unfold prC
  go_enter Tryz.func4, Tryz.ntmps4
  go_upto_region 2 with (fail)
  try rw [hW]
  clear hW
  refine wp_region_lit ?_
  refine wpList_load_row rfl 35 _ rfl (w.heap.size) rfl 35 _ (0, 0) _ A_1 Tryz.underlying35 rfl (by kernel_rfl) ?_
  go_wp2_with (fail)
  refine (szPeer_any (h0.keep q0_1) hs 1048576 (by omega) (by omega)).mono ?_
  rintro e w_2 ⟨r, rfl, hr, hb_2⟩
  have q0_2 := q0_1.trans (hb_2.mono q0_1.size)
  have A_2 := keepHeap hb_2 A_1
  clear q0_1 A_1 hb_2
  rcases hr with rfl | ⟨hr0, -, hn⟩
  · go_wp2_with (fail)
    go_ret
    exact ⟨rfl, q0_2⟩
  have zr : decide (r < 0) = false := by simpa using hr0
  have hspec := fun {W : World} {vt bl bs bb nl ns nb vu vv vs : Value} (h1 : RdPr W p vt bl bs bb nl ns nb vu vv vs) => leadOf_spec h1 hs hn
  have himpl := fun {W : World} {vt bl bs bb nl ns nb vu vv vs : Value} (h1 : RdPr W p vt bl bs bb nl ns nb vu vv vs) => leadOf_impl h1 hs hn
  have heq := fun {W : World} {vt bl bs bb nl ns nb vu vv vs vt' bl' bs' bb' nl' ns' nb' vu' vv' vs' : Value} (h1 : RdPr W p vt bl bs bb nl ns nb vu vv vs) (h2 : RdPr W p vt' bl' bs' bb' nl' ns' nb' vu' vv' vs') => eqPeer_same h1 h2 hn
  have hto := fun {W : World} (h1 : RdPr W p (.slice a0 p.tracks.length c0) (.slice a1 p.base.rows.length c1) (.slice a2 p.base.scores.length c2) (.slice a3 p.base.bods.length c3) (.slice a4 p.now.rows.length c4) (.slice a5 p.now.scores.length c5) (.slice a6 p.now.bods.length c6) (.slice a7 p.used.length c7) (.slice a8 p.saves.length c8) (.slice a9 p.sums.length c9)) => toPeer_any h1 hn
  unfold prC at hspec himpl heq hto
  generalize leadI p = t at hspec himpl
  go_upto_region 5 with (fail)
  refine wp_region_lit ?_
  refine wpList_load_row rfl 35 _ rfl (w.heap.size) rfl 35 _ (0, 0) _ A_2 Tryz.underlying35 rfl (by kernel_rfl) ?_
  go_wp2_with (fail)
  refine (hto (h0.keep q0_2)).mono ?_
  rintro e w_3 ⟨u0, u1, u2, u3, u4, u5, u6, u7, u8, u9, rfl, o1, hb_3⟩
  have q0_3 := q0_2.trans (hb_3.mono q0_2.size)
  have A_3 := keepHeap hb_3 A_2
  clear q0_2 A_2 hb_3
  have rd1 := o1
  obtain ⟨a01, c01, rfl, -⟩ := id rd1.1
  obtain ⟨a11, c11, rfl, -⟩ := id rd1.2.1.1
  obtain ⟨a21, c21, rfl, -⟩ := id rd1.2.1.2.1
  obtain ⟨a31, c31, rfl, -⟩ := id rd1.2.1.2.2
  obtain ⟨a41, c41, rfl, -⟩ := id rd1.2.2.1.1
  obtain ⟨a51, c51, rfl, -⟩ := id rd1.2.2.1.2.1
  obtain ⟨a61, c61, rfl, -⟩ := id rd1.2.2.1.2.2
  obtain ⟨a71, c71, rfl, -⟩ := id rd1.2.2.2.1
  obtain ⟨a81, c81, rfl, -⟩ := id rd1.2.2.2.2.1
  obtain ⟨a91, c91, rfl, -⟩ := id rd1.2.2.2.2.2
  clear rd1
  unfold prC
  go_wp2_with (fail)
  refine (hspec o1).mono ?_
  rintro e w_4 ⟨rfl, hb_4⟩
  have q0_4 := q0_3.trans (hb_4.mono q0_3.size)
  have A_4 := keepHeap hb_4 A_3
  clear q0_3 A_3 hb_4 o1
  go_upto_region 6 with (fail)
  refine wp_region_lit ?_
  refine wpList_load_row rfl 35 _ rfl (w.heap.size) rfl 35 _ (0, 0) _ A_4 Tryz.underlying35 rfl (by kernel_rfl) ?_
  go_wp2_with (fail)
  rename_i hK6
  refine (hto (h0.keep q0_4)).mono ?_
  rintro e w_5 ⟨u0, u1, u2, u3, u4, u5, u6, u7, u8, u9, rfl, o2, hb_5⟩
  have q0_5 := q0_4.trans (hb_5.mono q0_4.size)
  have A_5 := keepHeap hb_5 A_4
  clear q0_4 A_4 hb_5
  have rd2 := o2
  obtain ⟨a02, c02, rfl, -⟩ := id rd2.1
  obtain ⟨a12, c12, rfl, -⟩ := id rd2.2.1.1
  obtain ⟨a22, c22, rfl, -⟩ := id rd2.2.1.2.1
  obtain ⟨a32, c32, rfl, -⟩ := id rd2.2.1.2.2
  obtain ⟨a42, c42, rfl, -⟩ := id rd2.2.2.1.1
  obtain ⟨a52, c52, rfl, -⟩ := id rd2.2.2.1.2.1
  obtain ⟨a62, c62, rfl, -⟩ := id rd2.2.2.1.2.2
  obtain ⟨a72, c72, rfl, -⟩ := id rd2.2.2.2.1
  obtain ⟨a82, c82, rfl, -⟩ := id rd2.2.2.2.2.1
  obtain ⟨a92, c92, rfl, -⟩ := id rd2.2.2.2.2.2
  clear rd2
  unfold prC
  obtain ⟨w_6, hw_6, X_6, hb_6⟩ : ∃ W, w_5.alloc (.cells #[Value.int .i64 p.me, .int .i64 p.delay, .int .i64 p.ahead, .int .i64 p.seed, (.slice a02 p.tracks.length c02), (.slice a12 p.base.rows.length c12), .int .i64 p.base.tick, .int .i64 p.base.seed, (.slice a22 p.base.scores.length c22), (.slice a32 p.base.bods.length c32), (.slice a42 p.now.rows.length c42), .int .i64 p.now.tick, .int .i64 p.now.seed, (.slice a52 p.now.scores.length c52), (.slice a62 p.now.bods.length c62), (.slice a72 p.used.length c72), (.slice a82 p.saves.length c82), (.slice a92 p.sums.length c92), .int .i64 p.fault.tick, .int .i64 p.fault.player, .int .i64 p.fault.add, .int .i64 p.rolls, .int .i64 p.again] 46) = W ∧ W.heap[w_5.heap.size]? = some (.cells #[Value.int .i64 p.me, .int .i64 p.delay, .int .i64 p.ahead, .int .i64 p.seed, (.slice a02 p.tracks.length c02), (.slice a12 p.base.rows.length c12), .int .i64 p.base.tick, .int .i64 p.base.seed, (.slice a22 p.base.scores.length c22), (.slice a32 p.base.bods.length c32), (.slice a42 p.now.rows.length c42), .int .i64 p.now.tick, .int .i64 p.now.seed, (.slice a52 p.now.scores.length c52), (.slice a62 p.now.bods.length c62), (.slice a72 p.used.length c72), (.slice a82 p.saves.length c82), (.slice a92 p.sums.length c92), .int .i64 p.fault.tick, .int .i64 p.fault.player, .int .i64 p.fault.add, .int .i64 p.rolls, .int .i64 p.again] 46 (0, 0)) ∧ Below w_5.heap.size w_5 W := ⟨_, rfl, heap_alloc_new _ _, below1 _ _⟩
  have q0_6 := q0_5.trans (hb_6.mono q0_5.size)
  have o2 := o2.keep hb_6
  have A_6 := keepHeap hb_6 A_5
  clear q0_5 A_5 hb_6
  refine hK6 _ _ ?_
  clear hK6
  refine wpList_runTo rfl _ rfl (.pointer (some ⟨w_5.heap.size, 0, none⟩)) (w_5.alloc (.cells #[Value.int .i64 0, .int .i64 0, .int .i64 0, .int .i64 0, (.slice none 0 0), (.slice none 0 0), .int .i64 0, .int .i64 0, (.slice none 0 0), (.slice none 0 0), (.slice none 0 0), .int .i64 0, .int .i64 0, (.slice none 0 0), (.slice none 0 0), (.slice none 0 0), (.slice none 0 0), (.slice none 0 0), .int .i64 0, .int .i64 0, .int .i64 0, .int .i64 0, .int .i64 0] 46)) (by kernel_rfl) ?_
  refine wpList_store_row rfl 46 _ _ rfl w_5.heap.size #[Value.int .i64 p.me, .int .i64 p.delay, .int .i64 p.ahead, .int .i64 p.seed, (.slice a02 p.tracks.length c02), (.slice a12 p.base.rows.length c12), .int .i64 p.base.tick, .int .i64 p.base.seed, (.slice a22 p.base.scores.length c22), (.slice a32 p.base.bods.length c32), (.slice a42 p.now.rows.length c42), .int .i64 p.now.tick, .int .i64 p.now.seed, (.slice a52 p.now.scores.length c52), (.slice a62 p.now.bods.length c62), (.slice a72 p.used.length c72), (.slice a82 p.saves.length c82), (.slice a92 p.sums.length c92), .int .i64 p.fault.tick, .int .i64 p.fault.player, .int .i64 p.fault.add, .int .i64 p.rolls, .int .i64 p.again] rfl rfl 46 _ (heap_alloc_new _ _) (by kernel_rfl) rfl (by simp [Value.oneCell']) ?_
  rw [World.setRow_alloc_new, hw_6]
  clear hw_6
  go_upto_region 7 with (fail)
  refine wp_region_lit ?_
  refine wpList_load_row rfl 46 _ rfl (w_5.heap.size) rfl 46 _ (0, 0) _ X_6 Tryz.underlying46 rfl (by kernel_rfl) ?_
  go_wp2_with (fail)
  refine (himpl o2).mono ?_
  rintro e w_7 ⟨rfl, hb_7⟩
  have q0_7 := q0_6.trans (hb_7.mono q0_6.size)
  have o2 := o2.keep hb_7
  have A_7 := keepHeap hb_7 A_6
  have X_7 := keepHeap hb_7 X_6
  clear q0_6 A_6 X_6 hb_7
  go_upto_region 10 with (fail)
  have ra := h0.keep q0_7
  have bs_0 : Below w_7.heap.size w_7 w_7.drew := belowDrew w_7 1
  refine wp_region_held_drew (S := fun w' => w'.heap[w.heap.size]? = some (.cells #[Value.int .i64 p.me, .int .i64 p.delay, .int .i64 p.ahead, .int .i64 p.seed, (.slice a0 p.tracks.length c0), (.slice a1 p.base.rows.length c1), .int .i64 p.base.tick, .int .i64 p.base.seed, (.slice a2 p.base.scores.length c2), (.slice a3 p.base.bods.length c3), (.slice a4 p.now.rows.length c4), .int .i64 p.now.tick, .int .i64 p.now.seed, (.slice a5 p.now.scores.length c5), (.slice a6 p.now.bods.length c6), (.slice a7 p.used.length c7), (.slice a8 p.saves.length c8), (.slice a9 p.sums.length c9), .int .i64 p.fault.tick, .int .i64 p.fault.player, .int .i64 p.fault.add, .int .i64 p.rolls, .int .i64 p.again] 35 (0, 0)) ∧ w'.heap[w_5.heap.size]? = some (.cells #[Value.int .i64 p.me, .int .i64 p.delay, .int .i64 p.ahead, .int .i64 p.seed, (.slice a02 p.tracks.length c02), (.slice a12 p.base.rows.length c12), .int .i64 p.base.tick, .int .i64 p.base.seed, (.slice a22 p.base.scores.length c22), (.slice a32 p.base.bods.length c32), (.slice a42 p.now.rows.length c42), .int .i64 p.now.tick, .int .i64 p.now.seed, (.slice a52 p.now.scores.length c52), (.slice a62 p.now.bods.length c62), (.slice a72 p.used.length c72), (.slice a82 p.saves.length c82), (.slice a92 p.sums.length c92), .int .i64 p.fault.tick, .int .i64 p.fault.player, .int .i64 p.fault.add, .int .i64 p.rolls, .int .i64 p.again] 46 (0, 0))) (by kernel_rfl) ?_ (fun hHeld => ?_)
  · exact ⟨keepHeap bs_0 A_7, keepHeap bs_0 X_7⟩
  refine take_on (i := 0) (v := .agg #[Value.int .i64 p.me, .int .i64 p.delay, .int .i64 p.ahead, .int .i64 p.seed, (.slice a02 p.tracks.length c02), (.slice a12 p.base.rows.length c12), .int .i64 p.base.tick, .int .i64 p.base.seed, (.slice a22 p.base.scores.length c22), (.slice a32 p.base.bods.length c32), (.slice a42 p.now.rows.length c42), .int .i64 p.now.tick, .int .i64 p.now.seed, (.slice a52 p.now.scores.length c52), (.slice a62 p.now.bods.length c62), (.slice a72 p.used.length c72), (.slice a82 p.saves.length c82), (.slice a92 p.sums.length c92), .int .i64 p.fault.tick, .int .i64 p.fault.player, .int .i64 p.fault.add, .int .i64 p.rolls, .int .i64 p.again]) (some 22) rfl (by kernel_rfl) (by kernel_rfl) (by kernel_rfl) rfl (fun _ _ _ h => h) (by rfl) (fun W hW => exec_load_row 46 _ rfl (w_5.heap.size) rfl 46 _ (0, 0) _ hW.2 Tryz.underlying46 rfl (by kernel_rfl)) (by assumption) ?_
  (try simp only [Act.put, List.setIfInBounds_toArray, List.set_cons_zero, List.set_cons_succ])
  refine take_on (i := 1) (v := .agg #[Value.int .i64 p.me, .int .i64 p.delay, .int .i64 p.ahead, .int .i64 p.seed, (.slice a0 p.tracks.length c0), (.slice a1 p.base.rows.length c1), .int .i64 p.base.tick, .int .i64 p.base.seed, (.slice a2 p.base.scores.length c2), (.slice a3 p.base.bods.length c3), (.slice a4 p.now.rows.length c4), .int .i64 p.now.tick, .int .i64 p.now.seed, (.slice a5 p.now.scores.length c5), (.slice a6 p.now.bods.length c6), (.slice a7 p.used.length c7), (.slice a8 p.saves.length c8), (.slice a9 p.sums.length c9), .int .i64 p.fault.tick, .int .i64 p.fault.player, .int .i64 p.fault.add, .int .i64 p.rolls, .int .i64 p.again]) (some 23) rfl (by kernel_rfl) (by kernel_rfl) (by kernel_rfl) rfl (fun _ _ _ h => h) (by rfl) (fun W hW => exec_load_row 35 _ rfl (w.heap.size) rfl 35 _ (0, 0) _ hW.1 Tryz.underlying35 rfl (by kernel_rfl)) (by assumption) ?_
  (try simp only [Act.put, List.setIfInBounds_toArray, List.set_cons_zero, List.set_cons_succ])
  refine wpAnyH_ready (rs := [2]) (by kernel_rfl) (by simp) ?_
  refine AllReadyH.cons rfl (fun K hK => ?_) AllReadyH.nil
  go_simp
  refine (hto (ra.keep bs_0)).mono ?_
  rintro e w_8 ⟨u0, u1, u2, u3, u4, u5, u6, u7, u8, u9, rfl, o8, hb_8⟩
  have bs_1 := bs_0.trans (hb_8.mono bs_0.size)
  have rd8 := o8
  obtain ⟨a08, c08, rfl, -⟩ := id rd8.1
  obtain ⟨a18, c18, rfl, -⟩ := id rd8.2.1.1
  obtain ⟨a28, c28, rfl, -⟩ := id rd8.2.1.2.1
  obtain ⟨a38, c38, rfl, -⟩ := id rd8.2.1.2.2
  obtain ⟨a48, c48, rfl, -⟩ := id rd8.2.2.1.1
  obtain ⟨a58, c58, rfl, -⟩ := id rd8.2.2.1.2.1
  obtain ⟨a68, c68, rfl, -⟩ := id rd8.2.2.1.2.2
  obtain ⟨a78, c78, rfl, -⟩ := id rd8.2.2.2.1
  obtain ⟨a88, c88, rfl, -⟩ := id rd8.2.2.2.2.1
  obtain ⟨a98, c98, rfl, -⟩ := id rd8.2.2.2.2.2
  clear rd8
  unfold prC
  (try go_wp2_with (fail))
  refine hK.out _ _ ?_ (fun hHeld => ?_)
  · exact ⟨keepHeap bs_1 A_7, keepHeap bs_1 X_7⟩
  clear hK K
  (try simp only [Act.put, List.setIfInBounds_toArray, List.set_cons_zero, List.set_cons_succ])
  refine wpAnyH_ready (rs := [3]) (by kernel_rfl) (by simp) ?_
  refine AllReadyH.cons rfl (fun K hK => ?_) AllReadyH.nil
  go_simp
  refine (heq (o2.keep bs_1) o8).mono ?_
  rintro e w_9 ⟨rfl, hb_9⟩
  have bs_2 := bs_1.trans (hb_9.mono bs_1.size)
  (try go_wp2_with (fail))
  refine hK.out _ _ ?_ (fun hHeld => ?_)
  · exact ⟨keepHeap bs_2 A_7, keepHeap bs_2 X_7⟩
  clear hK K
  (try simp only [Act.put, List.setIfInBounds_toArray, List.set_cons_zero, List.set_cons_succ])
  refine take_on (i := 4) (v := ?_) (some 26) rfl (by kernel_rfl) (by kernel_rfl) (by kernel_rfl) rfl (fun _ _ _ h => h) (by rfl) ?_ (by assumption) ?_
  rotate_left
  · intro w hSw; (try dsimp only at hSw); go_simp; (try with_reducible rfl)
  (try simp only [Act.put, List.setIfInBounds_toArray, List.set_cons_zero, List.set_cons_succ])
  refine wpAnyH_done (by kernel_rfl) ?_ _
  have hend := q0_7.trans (bs_2.mono q0_7.size)
  go_wp2_with (fail)
  go_ret
  exact ⟨rfl, hend⟩
set_option maxRecDepth 100000 in
set_option maxHeartbeats 4000000 in
theorem mayAdvance_impl {w : World} {p : Pr} {vt bl bs bb nl ns nb vu vv vs : Value} {B : Nat} (hAr : w.heap[B]? = some (.cells (prC p vt bl bs bb nl ns nb vu vv vs) 46 (0, 0))) (h : RdPr w p vt bl bs bb nl ns nb vu vv vs) (hn : p.few) (hme0 : 0 ≤ p.me) (hme1 : p.me < (p.tracks.length : Int)) :
    Calls Tryz.prog 37 #[.pointer (some ⟨B, 0, none⟩)] w fun e w' => e = .returned (.bool (mayB p)) ∧ Below w.heap.size w w' := by
  obtain ⟨m, hm0⟩ : ∃ m : Nat, p.me = (m : Int) := ⟨p.me.toNat, by omega⟩
  have hmt : m < p.tracks.length := by omega
  obtain ⟨x1, c0, rfl, hts⟩ := id h.1
  obtain ⟨bt, ot, rfl, hct⟩ := hts.resolve_left (by intro e; rw [e] at hmt; simp at hmt)
  obtain ⟨um, cm, rm⟩ := hct m hmt
  obtain ⟨am, xm, rfl, -⟩ := id rm
  obtain ⟨a7, c7, rfl, -⟩ := id h.2.2.2.1
  have TA := fun h => may_no (p := p) h
  have TB := fun h => may_ok (p := p) hmt hm0 h
  generalize hnm : p.tracks[m].length = nm at cm TB
  have hnm1 : (nm : Int) ≤ 9223372036854775807 := by have := hn.1.2 p.tracks[m] (List.getElem_mem _); omega
  have hmw : 0 ≤ (m : Int) := by omega
  have hml : (m : Int) < (p.tracks.length : Int) := by omega
  have hul : (p.used.length : Int) ≤ 9223372036854775807 := by have := hn.2.2.2.1.1; omega
  clear hct hts rm hnm
  unfold prC at hAr
  rw [hm0] at hAr
  have HM0 := Lib.hid hm0
  clear hm0 h
  have cAr := rowCells hAr
  by_cases e5 : (p.used.length : Int) < p.ahead
  · have z5 : decide ((p.used.length : Int) < p.ahead) = true := by simpa using e5
    have HF0 := Lib.hid (TB e5)
    clear e5 TA TB
    go_enter Tryz.func37, Tryz.ntmps37
    go_upto_region 1 with (fail)
    have bs_0 : Below w.heap.size w w.drew := belowDrew w 1
    refine wp_region_held_drew (S := (fun w' => (∀ j, w'.cell? ⟨B, j, none⟩ = #[Value.int .i64 (m : Int), .int .i64 p.delay, .int .i64 p.ahead, .int .i64 p.seed, (.slice (some ⟨bt, ot, none⟩) p.tracks.length c0), bl, .int .i64 p.base.tick, .int .i64 p.base.seed, bs, bb, nl, .int .i64 p.now.tick, .int .i64 p.now.seed, ns, nb, (.slice a7 p.used.length c7), vv, vs, .int .i64 p.fault.tick, .int .i64 p.fault.player, .int .i64 p.fault.add, .int .i64 p.rolls, .int .i64 p.again][j]?) ∧ w'.cell? ⟨bt, ot + m, none⟩ = some (.slice am nm xm))) (by kernel_rfl) ?_ (fun hHeld => ?_)
    · exact ⟨rowCells (keepHeap bs_0 hAr), (bs_0.cell (World.block_lt_of_cell? _ _ cm)).trans cm⟩
    refine take_on (i := 0) (v := ?_) (some 3) rfl (by kernel_rfl) (by kernel_rfl) (by kernel_rfl) rfl (fun _ _ _ h => h) (by rfl) ?_ (by assumption) ?_
    rotate_left
    · intro w hSw; (try dsimp only at hSw); go_simp; (try with_reducible rfl)
    (try simp only [Act.put, List.setIfInBounds_toArray, List.set_cons_zero, List.set_cons_succ])
    refine take_on (i := 1) (v := ?_) (some 4) rfl (by kernel_rfl) (by kernel_rfl) (by kernel_rfl) rfl (fun _ _ _ h => h) (by rfl) ?_ (by assumption) ?_
    rotate_left
    · intro w hSw; (try dsimp only at hSw); go_simp; (try with_reducible rfl)
    (try simp only [Act.put, List.setIfInBounds_toArray, List.set_cons_zero, List.set_cons_succ])
    refine take_on (i := 2) (v := ?_) (some 5) rfl (by kernel_rfl) (by kernel_rfl) (by kernel_rfl) rfl (fun _ _ _ h => h) (by rfl) ?_ (by assumption) ?_
    rotate_left
    · intro w hSw; (try dsimp only at hSw); go_simp; (try with_reducible rfl)
    (try simp only [Act.put, List.setIfInBounds_toArray, List.set_cons_zero, List.set_cons_succ])
    refine take_on (i := 3) (v := ?_) (some 6) rfl (by kernel_rfl) (by kernel_rfl) (by kernel_rfl) rfl (fun _ _ _ h => h) (by rfl) ?_ (by assumption) ?_
    rotate_left
    · intro w hSw; (try dsimp only at hSw); go_simp; (try with_reducible rfl)
    (try simp only [Act.put, List.setIfInBounds_toArray, List.set_cons_zero, List.set_cons_succ])
    refine take_on (i := 4) (v := ?_) (some 7) rfl (by kernel_rfl) (by kernel_rfl) (by kernel_rfl) rfl (fun _ _ _ h => h) (by rfl) ?_ (by assumption) ?_
    rotate_left
    · intro w hSw; (try dsimp only at hSw); go_simp; (try with_reducible rfl)
    (try simp only [Act.put, List.setIfInBounds_toArray, List.set_cons_zero, List.set_cons_succ])
    refine take_on (i := 5) (v := ?_) (some 8) rfl (by kernel_rfl) (by kernel_rfl) (by kernel_rfl) rfl (fun _ _ _ h => h) (by rfl) ?_ (by assumption) ?_
    rotate_left
    · intro w hSw; (try dsimp only at hSw); go_simp; (try with_reducible rfl)
    (try simp only [Act.put, List.setIfInBounds_toArray, List.set_cons_zero, List.set_cons_succ])
    refine take_on (i := 6) (v := ?_) (some 9) rfl (by kernel_rfl) (by kernel_rfl) (by kernel_rfl) rfl (fun _ _ _ h => h) (by rfl) ?_ (by assumption) ?_
    rotate_left
    · intro w hSw; (try dsimp only at hSw); go_simp; (try with_reducible rfl)
    (try simp only [Act.put, List.setIfInBounds_toArray, List.set_cons_zero, List.set_cons_succ])
    refine take_on (i := 7) (v := ?_) (some 10) rfl (by kernel_rfl) (by kernel_rfl) (by kernel_rfl) rfl (fun _ _ _ h => h) (by rfl) ?_ (by assumption) ?_
    rotate_left
    · intro w hSw; (try dsimp only at hSw); go_simp; (try with_reducible rfl)
    (try simp only [Act.put, List.setIfInBounds_toArray, List.set_cons_zero, List.set_cons_succ])
    refine take_on (i := 8) (v := ?_) (some 11) rfl (by kernel_rfl) (by kernel_rfl) (by kernel_rfl) rfl (fun _ _ _ h => h) (by rfl) ?_ (by assumption) ?_
    rotate_left
    · intro w hSw; (try dsimp only at hSw); go_simp; (try with_reducible rfl)
    (try simp only [Act.put, List.setIfInBounds_toArray, List.set_cons_zero, List.set_cons_succ])
    refine take_on (i := 9) (v := ?_) (some 12) rfl (by kernel_rfl) (by kernel_rfl) (by kernel_rfl) rfl (fun _ _ _ h => h) (by rfl) ?_ (by assumption) ?_
    rotate_left
    · intro w hSw; (try dsimp only at hSw); go_simp; (try with_reducible rfl)
    (try simp only [Act.put, List.setIfInBounds_toArray, List.set_cons_zero, List.set_cons_succ])
    refine take_on (i := 10) (v := ?_) (some 13) rfl (by kernel_rfl) (by kernel_rfl) (by kernel_rfl) rfl (fun _ _ _ h => h) (by rfl) ?_ (by assumption) ?_
    rotate_left
    · intro w hSw; (try dsimp only at hSw); go_simp; (try with_reducible rfl)
    (try simp only [Act.put, List.setIfInBounds_toArray, List.set_cons_zero, List.set_cons_succ])
    refine take_on (i := 11) (v := ?_) (some 14) rfl (by kernel_rfl) (by kernel_rfl) (by kernel_rfl) rfl (fun _ _ _ h => h) (wanted_on (k := 10) (d := 13) (b := true) rfl rfl rfl) ?_ (by assumption) ?_
    rotate_left
    · intro w hSw; (try dsimp only at hSw); go_simp; (try with_reducible rfl)
    (try simp only [Act.put, List.setIfInBounds_toArray, List.set_cons_zero, List.set_cons_succ])
    refine take_on (i := 12) (v := ?_) (some 15) rfl (by kernel_rfl) (by kernel_rfl) (by kernel_rfl) rfl (fun _ _ _ h => h) (wanted_on (k := 10) (d := 13) (b := true) rfl rfl rfl) ?_ (by assumption) ?_
    rotate_left
    · intro w hSw; (try dsimp only at hSw); go_simp; (try with_reducible rfl)
    (try simp only [Act.put, List.setIfInBounds_toArray, List.set_cons_zero, List.set_cons_succ])
    refine take_on (i := 13) (v := ?_) (some 16) rfl (by kernel_rfl) (by kernel_rfl) (by kernel_rfl) rfl (fun _ _ _ h => h) (wanted_on (k := 10) (d := 13) (b := true) rfl rfl rfl) ?_ (by assumption) ?_
    rotate_left
    · intro w hSw; (try dsimp only at hSw); go_simp; (try with_reducible rfl)
    (try simp only [Act.put, List.setIfInBounds_toArray, List.set_cons_zero, List.set_cons_succ])
    refine take_on (i := 14) (v := ?_) (some 17) rfl (by kernel_rfl) (by kernel_rfl) (by kernel_rfl) rfl (fun _ _ _ h => h) (wanted_on (k := 10) (d := 13) (b := true) rfl rfl rfl) ?_ (by assumption) ?_
    rotate_left
    · intro w hSw; (try dsimp only at hSw); go_simp; (try with_reducible rfl)
    (try simp only [Act.put, List.setIfInBounds_toArray, List.set_cons_zero, List.set_cons_succ])
    refine take_on (i := 15) (v := ?_) (some 18) rfl (by kernel_rfl) (by kernel_rfl) (by kernel_rfl) rfl (fun _ _ _ h => h) (wanted_on (k := 10) (d := 13) (b := true) rfl rfl rfl) ?_ (by assumption) ?_
    rotate_left
    · intro w hSw; (try dsimp only at hSw); go_simp; (try with_reducible rfl)
    (try simp only [Act.put, List.setIfInBounds_toArray, List.set_cons_zero, List.set_cons_succ])
    refine take_on (i := 16) (v := ?_) (some 19) rfl (by kernel_rfl) (by kernel_rfl) (by kernel_rfl) rfl (fun _ _ _ h => h) (wanted_on (k := 10) (d := 13) (b := true) rfl rfl rfl) ?_ (by assumption) ?_
    rotate_left
    · intro w hSw; (try dsimp only at hSw); go_simp; (try with_reducible rfl)
    (try simp only [Act.put, List.setIfInBounds_toArray, List.set_cons_zero, List.set_cons_succ])
    refine take_on (i := 17) (v := ?_) (some 20) rfl (by kernel_rfl) (by kernel_rfl) (by kernel_rfl) rfl (fun _ _ _ h => h) (wanted_on (k := 10) (d := 13) (b := true) rfl rfl rfl) ?_ (by assumption) ?_
    rotate_left
    · intro w hSw; (try dsimp only at hSw); go_simp; (try with_reducible rfl)
    (try simp only [Act.put, List.setIfInBounds_toArray, List.set_cons_zero, List.set_cons_succ])
    refine take_on (i := 18) (v := ?_) (some 21) rfl (by kernel_rfl) (by kernel_rfl) (by kernel_rfl) rfl (fun _ _ _ h => h) (wanted_on (k := 10) (d := 13) (b := true) rfl rfl rfl) ?_ (by assumption) ?_
    rotate_left
    · intro w hSw; (try dsimp only at hSw); go_simp; (try with_reducible rfl)
    (try simp only [Act.put, List.setIfInBounds_toArray, List.set_cons_zero, List.set_cons_succ])
    refine take_on (i := 19) (v := ?_) (some 22) rfl (by kernel_rfl) (by kernel_rfl) (by kernel_rfl) rfl (fun _ _ _ h => h) (wanted_on (k := 10) (d := 13) (b := true) rfl rfl rfl) ?_ (by assumption) ?_
    rotate_left
    · intro w hSw; (try dsimp only at hSw); go_simp; (try with_reducible rfl)
    (try simp only [Act.put, List.setIfInBounds_toArray, List.set_cons_zero, List.set_cons_succ])
    refine take_on (i := 20) (v := ?_) (some 23) rfl (by kernel_rfl) (by kernel_rfl) (by kernel_rfl) rfl (fun _ _ _ h => h) (wanted_on (k := 10) (d := 13) (b := true) rfl rfl rfl) ?_ (by assumption) ?_
    rotate_left
    · intro w hSw; (try dsimp only at hSw); go_simp; (try with_reducible rfl)
    (try simp only [Act.put, List.setIfInBounds_toArray, List.set_cons_zero, List.set_cons_succ])
    refine take_on (i := 21) (v := ?_) (some 24) rfl (by kernel_rfl) (by kernel_rfl) (by kernel_rfl) rfl (fun _ _ _ h => h) (wanted_on (k := 10) (d := 13) (b := true) rfl rfl rfl) ?_ (by assumption) ?_
    rotate_left
    · intro w hSw; (try dsimp only at hSw); go_simp; (try with_reducible rfl)
    (try simp only [Act.put, List.setIfInBounds_toArray, List.set_cons_zero, List.set_cons_succ])
    refine take_on (i := 22) (v := ?_) (some 25) rfl (by kernel_rfl) (by kernel_rfl) (by kernel_rfl) rfl (fun _ _ _ h => h) (wanted_on (k := 10) (d := 13) (b := true) rfl rfl rfl) ?_ (by assumption) ?_
    rotate_left
    · intro w hSw; (try dsimp only at hSw); go_simp; (try with_reducible rfl)
    (try simp only [Act.put, List.setIfInBounds_toArray, List.set_cons_zero, List.set_cons_succ])
    refine take_on (i := 23) (v := ?_) (some 26) rfl (by kernel_rfl) (by kernel_rfl) (by kernel_rfl) rfl (fun _ _ _ h => h) (wanted_on (k := 10) (d := 13) (b := true) rfl rfl rfl) ?_ (by assumption) ?_
    rotate_left
    · intro w hSw; (try dsimp only at hSw); go_simp; (try with_reducible rfl)
    (try simp only [Act.put, List.setIfInBounds_toArray, List.set_cons_zero, List.set_cons_succ])
    refine take_on (i := 24) (v := ?_) (some 27) rfl (by kernel_rfl) (by kernel_rfl) (by kernel_rfl) rfl (fun _ _ _ h => h) (wanted_on (k := 10) (d := 13) (b := true) rfl rfl rfl) ?_ (by assumption) ?_
    rotate_left
    · intro w hSw; (try dsimp only at hSw); go_simp; (try with_reducible rfl)
    (try simp only [Act.put, List.setIfInBounds_toArray, List.set_cons_zero, List.set_cons_succ])
    refine take_on (i := 25) (v := ?_) (some 28) rfl (by kernel_rfl) (by kernel_rfl) (by kernel_rfl) rfl (fun _ _ _ h => h) (wanted_on (k := 10) (d := 13) (b := true) rfl rfl rfl) ?_ (by assumption) ?_
    rotate_left
    · intro w hSw; (try dsimp only at hSw); go_simp; (try with_reducible rfl)
    (try simp only [Act.put, List.setIfInBounds_toArray, List.set_cons_zero, List.set_cons_succ])
    refine take_on (i := 26) (v := ?_) (some 29) rfl (by kernel_rfl) (by kernel_rfl) (by kernel_rfl) rfl (fun _ _ _ h => h) (wanted_on (k := 10) (d := 13) (b := true) rfl rfl rfl) ?_ (by assumption) ?_
    rotate_left
    · intro w hSw; (try dsimp only at hSw); go_simp; (try with_reducible rfl)
    (try simp only [Act.put, List.setIfInBounds_toArray, List.set_cons_zero, List.set_cons_succ])
    refine take_on (i := 27) (v := ?_) (some 30) rfl (by kernel_rfl) (by kernel_rfl) (by kernel_rfl) rfl (fun _ _ _ h => h) (wanted_on (k := 10) (d := 13) (b := true) rfl rfl rfl) ?_ (by assumption) ?_
    rotate_left
    · intro w hSw; (try dsimp only at hSw); go_simp; (try with_reducible rfl)
    (try simp only [Act.put, List.setIfInBounds_toArray, List.set_cons_zero, List.set_cons_succ])
    refine take_on (i := 28) (v := ?_) (some 31) rfl (by kernel_rfl) (by kernel_rfl) (by kernel_rfl) rfl (fun _ _ _ h => h) (wanted_on (k := 10) (d := 13) (b := true) rfl rfl rfl) ?_ (by assumption) ?_
    rotate_left
    · intro w hSw; (try dsimp only at hSw); go_simp; (try with_reducible rfl)
    (try simp only [Act.put, List.setIfInBounds_toArray, List.set_cons_zero, List.set_cons_succ])
    refine take_on (i := 29) (v := ?_) (some 32) rfl (by kernel_rfl) (by kernel_rfl) (by kernel_rfl) rfl (fun _ _ _ h => h) (by rfl) ?_ (by assumption) ?_
    rotate_left
    · intro w hSw; (try dsimp only at hSw); go_simp; (try with_reducible rfl)
    (try simp only [Act.put, List.setIfInBounds_toArray, List.set_cons_zero, List.set_cons_succ])
    refine take_on (i := 30) (v := ?_) (some 2) rfl (by kernel_rfl) (by kernel_rfl) (by kernel_rfl) rfl (fun _ _ _ h => h) (by rfl) ?_ (by assumption) ?_
    rotate_left
    · intro w hSw; (try dsimp only at hSw); go_simp; (try with_reducible rfl)
    (try simp only [Act.put, List.setIfInBounds_toArray, List.set_cons_zero, List.set_cons_succ])
    refine wpAnyH_done (by kernel_rfl) ?_ _
    have HF := Lib.hid HF0.out
    go_wp2_with (fail)
    go_ret
    exact ⟨by rw [HF.out]; first | rfl | (simp; done), bs_0⟩
  · have z5 : decide ((p.used.length : Int) < p.ahead) = false := by simpa using e5
    have HF0 := Lib.hid (TA e5)
    clear e5 TA TB
    go_enter Tryz.func37, Tryz.ntmps37
    go_upto_region 1 with (fail)
    have bs_0 : Below w.heap.size w w.drew := belowDrew w 1
    refine wp_region_held_drew (S := (fun w' => (∀ j, w'.cell? ⟨B, j, none⟩ = #[Value.int .i64 (m : Int), .int .i64 p.delay, .int .i64 p.ahead, .int .i64 p.seed, (.slice (some ⟨bt, ot, none⟩) p.tracks.length c0), bl, .int .i64 p.base.tick, .int .i64 p.base.seed, bs, bb, nl, .int .i64 p.now.tick, .int .i64 p.now.seed, ns, nb, (.slice a7 p.used.length c7), vv, vs, .int .i64 p.fault.tick, .int .i64 p.fault.player, .int .i64 p.fault.add, .int .i64 p.rolls, .int .i64 p.again][j]?) ∧ w'.cell? ⟨bt, ot + m, none⟩ = some (.slice am nm xm))) (by kernel_rfl) ?_ (fun hHeld => ?_)
    · exact ⟨rowCells (keepHeap bs_0 hAr), (bs_0.cell (World.block_lt_of_cell? _ _ cm)).trans cm⟩
    refine take_on (i := 0) (v := ?_) (some 3) rfl (by kernel_rfl) (by kernel_rfl) (by kernel_rfl) rfl (fun _ _ _ h => h) (by rfl) ?_ (by assumption) ?_
    rotate_left
    · intro w hSw; (try dsimp only at hSw); go_simp; (try with_reducible rfl)
    (try simp only [Act.put, List.setIfInBounds_toArray, List.set_cons_zero, List.set_cons_succ])
    refine take_on (i := 1) (v := ?_) (some 4) rfl (by kernel_rfl) (by kernel_rfl) (by kernel_rfl) rfl (fun _ _ _ h => h) (by rfl) ?_ (by assumption) ?_
    rotate_left
    · intro w hSw; (try dsimp only at hSw); go_simp; (try with_reducible rfl)
    (try simp only [Act.put, List.setIfInBounds_toArray, List.set_cons_zero, List.set_cons_succ])
    refine take_on (i := 2) (v := ?_) (some 5) rfl (by kernel_rfl) (by kernel_rfl) (by kernel_rfl) rfl (fun _ _ _ h => h) (by rfl) ?_ (by assumption) ?_
    rotate_left
    · intro w hSw; (try dsimp only at hSw); go_simp; (try with_reducible rfl)
    (try simp only [Act.put, List.setIfInBounds_toArray, List.set_cons_zero, List.set_cons_succ])
    refine take_on (i := 3) (v := ?_) (some 6) rfl (by kernel_rfl) (by kernel_rfl) (by kernel_rfl) rfl (fun _ _ _ h => h) (by rfl) ?_ (by assumption) ?_
    rotate_left
    · intro w hSw; (try dsimp only at hSw); go_simp; (try with_reducible rfl)
    (try simp only [Act.put, List.setIfInBounds_toArray, List.set_cons_zero, List.set_cons_succ])
    refine take_on (i := 4) (v := ?_) (some 7) rfl (by kernel_rfl) (by kernel_rfl) (by kernel_rfl) rfl (fun _ _ _ h => h) (by rfl) ?_ (by assumption) ?_
    rotate_left
    · intro w hSw; (try dsimp only at hSw); go_simp; (try with_reducible rfl)
    (try simp only [Act.put, List.setIfInBounds_toArray, List.set_cons_zero, List.set_cons_succ])
    refine take_on (i := 5) (v := ?_) (some 8) rfl (by kernel_rfl) (by kernel_rfl) (by kernel_rfl) rfl (fun _ _ _ h => h) (by rfl) ?_ (by assumption) ?_
    rotate_left
    · intro w hSw; (try dsimp only at hSw); go_simp; (try with_reducible rfl)
    (try simp only [Act.put, List.setIfInBounds_toArray, List.set_cons_zero, List.set_cons_succ])
    refine take_on (i := 6) (v := ?_) (some 9) rfl (by kernel_rfl) (by kernel_rfl) (by kernel_rfl) rfl (fun _ _ _ h => h) (by rfl) ?_ (by assumption) ?_
    rotate_left
    · intro w hSw; (try dsimp only at hSw); go_simp; (try with_reducible rfl)
    (try simp only [Act.put, List.setIfInBounds_toArray, List.set_cons_zero, List.set_cons_succ])
    refine take_on (i := 7) (v := ?_) (some 10) rfl (by kernel_rfl) (by kernel_rfl) (by kernel_rfl) rfl (fun _ _ _ h => h) (by rfl) ?_ (by assumption) ?_
    rotate_left
    · intro w hSw; (try dsimp only at hSw); go_simp; (try with_reducible rfl)
    (try simp only [Act.put, List.setIfInBounds_toArray, List.set_cons_zero, List.set_cons_succ])
    refine take_on (i := 8) (v := ?_) (some 11) rfl (by kernel_rfl) (by kernel_rfl) (by kernel_rfl) rfl (fun _ _ _ h => h) (by rfl) ?_ (by assumption) ?_
    rotate_left
    · intro w hSw; (try dsimp only at hSw); go_simp; (try with_reducible rfl)
    (try simp only [Act.put, List.setIfInBounds_toArray, List.set_cons_zero, List.set_cons_succ])
    refine take_on (i := 9) (v := ?_) (some 12) rfl (by kernel_rfl) (by kernel_rfl) (by kernel_rfl) rfl (fun _ _ _ h => h) (by rfl) ?_ (by assumption) ?_
    rotate_left
    · intro w hSw; (try dsimp only at hSw); go_simp; (try with_reducible rfl)
    (try simp only [Act.put, List.setIfInBounds_toArray, List.set_cons_zero, List.set_cons_succ])
    refine take_on (i := 10) (v := ?_) (some 13) rfl (by kernel_rfl) (by kernel_rfl) (by kernel_rfl) rfl (fun _ _ _ h => h) (by rfl) ?_ (by assumption) ?_
    rotate_left
    · intro w hSw; (try dsimp only at hSw); go_simp; (try with_reducible rfl)
    (try simp only [Act.put, List.setIfInBounds_toArray, List.set_cons_zero, List.set_cons_succ])
    refine take_off (i := 11) (some 14) rfl (by kernel_rfl) (by kernel_rfl) (by kernel_rfl) rfl (fun _ _ _ h => h) (wanted_off (k := 10) (d := 13) (b := true) (c := false) rfl rfl rfl rfl) (by assumption) ?_
    (try simp only [Act.put, List.setIfInBounds_toArray, List.set_cons_zero, List.set_cons_succ])
    refine take_off (i := 12) (some 15) rfl (by kernel_rfl) (by kernel_rfl) (by kernel_rfl) rfl (fun _ _ _ h => h) (wanted_off (k := 10) (d := 13) (b := true) (c := false) rfl rfl rfl rfl) (by assumption) ?_
    (try simp only [Act.put, List.setIfInBounds_toArray, List.set_cons_zero, List.set_cons_succ])
    refine take_off (i := 13) (some 16) rfl (by kernel_rfl) (by kernel_rfl) (by kernel_rfl) rfl (fun _ _ _ h => h) (wanted_off (k := 10) (d := 13) (b := true) (c := false) rfl rfl rfl rfl) (by assumption) ?_
    (try simp only [Act.put, List.setIfInBounds_toArray, List.set_cons_zero, List.set_cons_succ])
    refine take_off (i := 14) (some 17) rfl (by kernel_rfl) (by kernel_rfl) (by kernel_rfl) rfl (fun _ _ _ h => h) (wanted_off (k := 10) (d := 13) (b := true) (c := false) rfl rfl rfl rfl) (by assumption) ?_
    (try simp only [Act.put, List.setIfInBounds_toArray, List.set_cons_zero, List.set_cons_succ])
    refine take_off (i := 15) (some 18) rfl (by kernel_rfl) (by kernel_rfl) (by kernel_rfl) rfl (fun _ _ _ h => h) (wanted_off (k := 10) (d := 13) (b := true) (c := false) rfl rfl rfl rfl) (by assumption) ?_
    (try simp only [Act.put, List.setIfInBounds_toArray, List.set_cons_zero, List.set_cons_succ])
    refine take_off (i := 16) (some 19) rfl (by kernel_rfl) (by kernel_rfl) (by kernel_rfl) rfl (fun _ _ _ h => h) (wanted_off (k := 10) (d := 13) (b := true) (c := false) rfl rfl rfl rfl) (by assumption) ?_
    (try simp only [Act.put, List.setIfInBounds_toArray, List.set_cons_zero, List.set_cons_succ])
    refine take_off (i := 17) (some 20) rfl (by kernel_rfl) (by kernel_rfl) (by kernel_rfl) rfl (fun _ _ _ h => h) (wanted_off (k := 10) (d := 13) (b := true) (c := false) rfl rfl rfl rfl) (by assumption) ?_
    (try simp only [Act.put, List.setIfInBounds_toArray, List.set_cons_zero, List.set_cons_succ])
    refine take_off (i := 18) (some 21) rfl (by kernel_rfl) (by kernel_rfl) (by kernel_rfl) rfl (fun _ _ _ h => h) (wanted_off (k := 10) (d := 13) (b := true) (c := false) rfl rfl rfl rfl) (by assumption) ?_
    (try simp only [Act.put, List.setIfInBounds_toArray, List.set_cons_zero, List.set_cons_succ])
    refine take_off (i := 19) (some 22) rfl (by kernel_rfl) (by kernel_rfl) (by kernel_rfl) rfl (fun _ _ _ h => h) (wanted_off (k := 10) (d := 13) (b := true) (c := false) rfl rfl rfl rfl) (by assumption) ?_
    (try simp only [Act.put, List.setIfInBounds_toArray, List.set_cons_zero, List.set_cons_succ])
    refine take_off (i := 20) (some 23) rfl (by kernel_rfl) (by kernel_rfl) (by kernel_rfl) rfl (fun _ _ _ h => h) (wanted_off (k := 10) (d := 13) (b := true) (c := false) rfl rfl rfl rfl) (by assumption) ?_
    (try simp only [Act.put, List.setIfInBounds_toArray, List.set_cons_zero, List.set_cons_succ])
    refine take_off (i := 21) (some 24) rfl (by kernel_rfl) (by kernel_rfl) (by kernel_rfl) rfl (fun _ _ _ h => h) (wanted_off (k := 10) (d := 13) (b := true) (c := false) rfl rfl rfl rfl) (by assumption) ?_
    (try simp only [Act.put, List.setIfInBounds_toArray, List.set_cons_zero, List.set_cons_succ])
    refine take_off (i := 22) (some 25) rfl (by kernel_rfl) (by kernel_rfl) (by kernel_rfl) rfl (fun _ _ _ h => h) (wanted_off (k := 10) (d := 13) (b := true) (c := false) rfl rfl rfl rfl) (by assumption) ?_
    (try simp only [Act.put, List.setIfInBounds_toArray, List.set_cons_zero, List.set_cons_succ])
    refine take_off (i := 23) (some 26) rfl (by kernel_rfl) (by kernel_rfl) (by kernel_rfl) rfl (fun _ _ _ h => h) (wanted_off (k := 10) (d := 13) (b := true) (c := false) rfl rfl rfl rfl) (by assumption) ?_
    (try simp only [Act.put, List.setIfInBounds_toArray, List.set_cons_zero, List.set_cons_succ])
    refine take_off (i := 24) (some 27) rfl (by kernel_rfl) (by kernel_rfl) (by kernel_rfl) rfl (fun _ _ _ h => h) (wanted_off (k := 10) (d := 13) (b := true) (c := false) rfl rfl rfl rfl) (by assumption) ?_
    (try simp only [Act.put, List.setIfInBounds_toArray, List.set_cons_zero, List.set_cons_succ])
    refine take_off (i := 25) (some 28) rfl (by kernel_rfl) (by kernel_rfl) (by kernel_rfl) rfl (fun _ _ _ h => h) (wanted_off (k := 10) (d := 13) (b := true) (c := false) rfl rfl rfl rfl) (by assumption) ?_
    (try simp only [Act.put, List.setIfInBounds_toArray, List.set_cons_zero, List.set_cons_succ])
    refine take_off (i := 26) (some 29) rfl (by kernel_rfl) (by kernel_rfl) (by kernel_rfl) rfl (fun _ _ _ h => h) (wanted_off (k := 10) (d := 13) (b := true) (c := false) rfl rfl rfl rfl) (by assumption) ?_
    (try simp only [Act.put, List.setIfInBounds_toArray, List.set_cons_zero, List.set_cons_succ])
    refine take_off (i := 27) (some 30) rfl (by kernel_rfl) (by kernel_rfl) (by kernel_rfl) rfl (fun _ _ _ h => h) (wanted_off (k := 10) (d := 13) (b := true) (c := false) rfl rfl rfl rfl) (by assumption) ?_
    (try simp only [Act.put, List.setIfInBounds_toArray, List.set_cons_zero, List.set_cons_succ])
    refine take_off (i := 28) (some 31) rfl (by kernel_rfl) (by kernel_rfl) (by kernel_rfl) rfl (fun _ _ _ h => h) (wanted_off (k := 10) (d := 13) (b := true) (c := false) rfl rfl rfl rfl) (by assumption) ?_
    (try simp only [Act.put, List.setIfInBounds_toArray, List.set_cons_zero, List.set_cons_succ])
    refine take_on (i := 29) (v := ?_) (some 32) rfl (by kernel_rfl) (by kernel_rfl) (by kernel_rfl) rfl (fun _ _ _ h => h) (by rfl) ?_ (by assumption) ?_
    rotate_left
    · intro w hSw; (try dsimp only at hSw); go_simp; (try with_reducible rfl)
    (try simp only [Act.put, List.setIfInBounds_toArray, List.set_cons_zero, List.set_cons_succ])
    refine take_on (i := 30) (v := ?_) (some 2) rfl (by kernel_rfl) (by kernel_rfl) (by kernel_rfl) rfl (fun _ _ _ h => h) (by rfl) ?_ (by assumption) ?_
    rotate_left
    · intro w hSw; (try dsimp only at hSw); go_simp; (try with_reducible rfl)
    (try simp only [Act.put, List.setIfInBounds_toArray, List.set_cons_zero, List.set_cons_succ])
    refine wpAnyH_done (by kernel_rfl) ?_ _
    have HF := Lib.hid HF0.out
    go_wp2_with (fail)
    go_ret
    exact ⟨by rw [HF.out]; first | rfl | (simp; done), bs_0⟩
set_option maxRecDepth 100000 in
set_option maxHeartbeats 4000000 in
theorem canAdvance_impl {w : World} {p : Pr} {vt bl bs bb nl ns nb vu vv vs : Value} (h : RdPr w p vt bl bs bb nl ns nb vu vv vs) (hs : p.sane) (hn : p.few) :
    Calls Tryz.prog 11 #[.agg (prC p vt bl bs bb nl ns nb vu vv vs)] w fun e w' => e = .returned (.bool (canB p)) ∧ Below w.heap.size w w' := by
  have h0 := h
  obtain ⟨W0, hW, A_0, q_0, -⟩ := rows1 w #[Value.int .i64 p.me, .int .i64 p.delay, .int .i64 p.ahead, .int .i64 p.seed, vt, bl, .int .i64 p.base.tick, .int .i64 p.base.seed, bs, bb, nl, .int .i64 p.now.tick, .int .i64 p.now.seed, ns, nb, vu, vv, vs, .int .i64 p.fault.tick, .int .i64 p.fault.player, .int .i64 p.fault.add, .int .i64 p.rolls, .int .i64 p.again] 46
  have hp := fun {W : World} (h1 : RdPr W p vt bl bs bb nl ns nb vu vv vs) => peerOk_impl h1 hs hn
  have hMe := peer_me (p := p)
  have hm := fun {W : World} (hA : W.heap[w.heap.size]? = some (.cells #[Value.int .i64 p.me, .int .i64 p.delay, .int .i64 p.ahead, .int .i64 p.seed, vt, bl, .int .i64 p.base.tick, .int .i64 p.base.seed, bs, bb, nl, .int .i64 p.now.tick, .int .i64 p.now.seed, ns, nb, vu, vv, vs, .int .i64 p.fault.tick, .int .i64 p.fault.player, .int .i64 p.fault.add, .int .i64 p.rolls, .int .i64 p.again] 46 (0, 0))) (h1 : RdPr W p vt bl bs bb nl ns nb vu vv vs) (h2 : peerB p = true) => mayAdvance_impl hA h1 hn (peer_me h2).1 (peer_me h2).2
  unfold prC at hp ⊢
  go_enter Tryz.func11, Tryz.ntmps11
  go_upto_region 1 with (fail)
  try rw [hW]
  clear hW
  refine wp_region_lit ?_
  refine wpList_load_row rfl 46 _ rfl (w.heap.size) rfl 46 _ (0, 0) _ A_0 Tryz.underlying46 rfl (by kernel_rfl) ?_
  go_wp2_with (fail)
  refine (hp (h0.keep q_0)).mono ?_
  rintro e w_1 ⟨rfl, hb⟩
  have q_1 := q_0.trans (hb.mono q_0.size)
  have A_1 := keepHeap hb A_0
  clear A_0 q_0 hb hp
  cases hq : peerB p with
  | false =>
    have HF := Lib.hid (show canB p = false by unfold canB; rw [hq]; rfl)
    clear hq hm
    go_wp2_with (fail)
    go_ret
    exact ⟨by rw [HF.out]; rfl, q_1⟩
  | true =>
    have HF := Lib.hid (show canB p = mayB p by unfold canB; rw [hq]; rfl)
    have hm1 := hm A_1 (h0.keep q_1) hq
    clear hq hm
    go_wp2_with (fail)
    refine hm1.mono ?_
    rintro e w_2 ⟨rfl, hb2⟩
    have q_2 := q_1.trans (hb2.mono q_1.size)
    generalize mayB p = t at HF ⊢
    go_wp2_with (fail)
    go_ret
    exact ⟨by rw [HF.out]; rfl, q_2⟩
set_option maxRecDepth 100000 in
set_option maxHeartbeats 4000000 in
theorem canAdvance_spec {w : World} {p : Pr} {vt bl bs bb nl ns nb vu vv vs : Value} (h : RdPr w p vt bl bs bb nl ns nb vu vv vs) (hs : p.sane) (hn : p.few) :
    Calls Tryz.prog 9 #[.agg (prC p vt bl bs bb nl ns nb vu vv vs)] w fun e w' => e = .returned (.bool (canB p)) ∧ Below w.heap.size w w' := by
  cases hq : peerB p with
  | false =>
    have h0 := h
    obtain ⟨W0, hW, hAr, q_0, -⟩ := rows1 w #[Value.int .i64 p.me, .int .i64 p.delay, .int .i64 p.ahead, .int .i64 p.seed, vt, bl, .int .i64 p.base.tick, .int .i64 p.base.seed, bs, bb, nl, .int .i64 p.now.tick, .int .i64 p.now.seed, ns, nb, vu, vv, vs, .int .i64 p.fault.tick, .int .i64 p.fault.player, .int .i64 p.fault.add, .int .i64 p.rolls, .int .i64 p.again] 46
    have hp := fun {W : World} (h1 : RdPr W p vt bl bs bb nl ns nb vu vv vs) => peerOk_spec h1 hs hn
    have HC := Lib.hid (show canB p = false by unfold canB; rw [hq]; rfl)
    rw [hq] at hp
    clear hq
    unfold prC at hp ⊢
    go_enter Tryz.func9, Tryz.ntmps9
    go_upto_region 1 with (fail)
    try rw [hW]
    clear hW
    have bs_0 : Below W0.heap.size W0 W0.drew := belowDrew W0 1
    refine wp_region_held_drew (S := (fun w' => w'.heap[w.heap.size]? = some (.cells #[Value.int .i64 p.me, .int .i64 p.delay, .int .i64 p.ahead, .int .i64 p.seed, vt, bl, .int .i64 p.base.tick, .int .i64 p.base.seed, bs, bb, nl, .int .i64 p.now.tick, .int .i64 p.now.seed, ns, nb, vu, vv, vs, .int .i64 p.fault.tick, .int .i64 p.fault.player, .int .i64 p.fault.add, .int .i64 p.rolls, .int .i64 p.again] 46 (0, 0)) ∧ (∀ j, w'.cell? ⟨w.heap.size, j, none⟩ = #[Value.int .i64 p.me, .int .i64 p.delay, .int .i64 p.ahead, .int .i64 p.seed, vt, bl, .int .i64 p.base.tick, .int .i64 p.base.seed, bs, bb, nl, .int .i64 p.now.tick, .int .i64 p.now.seed, ns, nb, vu, vv, vs, .int .i64 p.fault.tick, .int .i64 p.fault.player, .int .i64 p.fault.add, .int .i64 p.rolls, .int .i64 p.again][j]?))) (by kernel_rfl) ?_ (fun hHeld => ?_)
    · exact ⟨keepHeap bs_0 hAr, rowCells (keepHeap bs_0 hAr)⟩
    refine take_on (i := 0) (v := .agg #[Value.int .i64 p.me, .int .i64 p.delay, .int .i64 p.ahead, .int .i64 p.seed, vt, bl, .int .i64 p.base.tick, .int .i64 p.base.seed, bs, bb, nl, .int .i64 p.now.tick, .int .i64 p.now.seed, ns, nb, vu, vv, vs, .int .i64 p.fault.tick, .int .i64 p.fault.player, .int .i64 p.fault.add, .int .i64 p.rolls, .int .i64 p.again]) (some 3) rfl (by kernel_rfl) (by kernel_rfl) (by kernel_rfl) rfl (fun _ _ _ h => h) (by rfl) (fun W hW => exec_load_row 46 _ rfl (w.heap.size) rfl 46 _ (0, 0) _ hW.1 Tryz.underlying46 rfl (by kernel_rfl)) (by assumption) ?_
    (try simp only [Act.put, List.setIfInBounds_toArray, List.set_cons_zero, List.set_cons_succ])
    refine wpAnyH_ready (rs := [1]) (by kernel_rfl) (by simp) ?_
    refine AllReadyH.cons rfl (fun K hK => ?_) AllReadyH.nil
    go_simp
    refine (hp (h0.keep (q_0.trans (bs_0.mono q_0.size)))).mono ?_
    rintro e w_1 ⟨rfl, hb_1⟩
    have bs_1 := bs_0.trans (hb_1.mono bs_0.size)
    (try go_wp2_with (fail))
    refine hK.out _ _ ?_ (fun hHeld => ?_)
    · exact ⟨keepHeap bs_1 hAr, rowCells (keepHeap bs_1 hAr)⟩
    clear hK K
    (try simp only [Act.put, List.setIfInBounds_toArray, List.set_cons_zero, List.set_cons_succ])
    refine take_on (i := 2) (v := ?_) (some 5) rfl (by kernel_rfl) (by kernel_rfl) (by kernel_rfl) rfl (fun _ _ _ h => h) (by rfl) ?_ (by assumption) ?_
    rotate_left
    · intro w hSw; (try dsimp only at hSw); go_simp; (try with_reducible rfl)
    (try simp only [Act.put, List.setIfInBounds_toArray, List.set_cons_zero, List.set_cons_succ])
    refine take_off (i := 3) (some 6) rfl (by kernel_rfl) (by kernel_rfl) (by kernel_rfl) rfl (fun _ _ _ h => h) (wanted_off (k := 2) (d := 5) (b := true) (c := false) rfl rfl rfl rfl) (by assumption) ?_
    (try simp only [Act.put, List.setIfInBounds_toArray, List.set_cons_zero, List.set_cons_succ])
    refine take_off (i := 4) (some 7) rfl (by kernel_rfl) (by kernel_rfl) (by kernel_rfl) rfl (fun _ _ _ h => h) (wanted_off (k := 2) (d := 5) (b := true) (c := false) rfl rfl rfl rfl) (by assumption) ?_
    (try simp only [Act.put, List.setIfInBounds_toArray, List.set_cons_zero, List.set_cons_succ])
    refine take_off (i := 5) (some 8) rfl (by kernel_rfl) (by kernel_rfl) (by kernel_rfl) rfl (fun _ _ _ h => h) (wanted_off (k := 2) (d := 5) (b := true) (c := false) rfl rfl rfl rfl) (by assumption) ?_
    (try simp only [Act.put, List.setIfInBounds_toArray, List.set_cons_zero, List.set_cons_succ])
    refine take_off (i := 6) (some 9) rfl (by kernel_rfl) (by kernel_rfl) (by kernel_rfl) rfl (fun _ _ _ h => h) (wanted_off (k := 2) (d := 5) (b := true) (c := false) rfl rfl rfl rfl) (by assumption) ?_
    (try simp only [Act.put, List.setIfInBounds_toArray, List.set_cons_zero, List.set_cons_succ])
    refine take_off (i := 7) (some 10) rfl (by kernel_rfl) (by kernel_rfl) (by kernel_rfl) rfl (fun _ _ _ h => h) (wanted_off (k := 2) (d := 5) (b := true) (c := false) rfl rfl rfl rfl) (by assumption) ?_
    (try simp only [Act.put, List.setIfInBounds_toArray, List.set_cons_zero, List.set_cons_succ])
    refine take_off (i := 8) (some 11) rfl (by kernel_rfl) (by kernel_rfl) (by kernel_rfl) rfl (fun _ _ _ h => h) (wanted_off (k := 2) (d := 5) (b := true) (c := false) rfl rfl rfl rfl) (by assumption) ?_
    (try simp only [Act.put, List.setIfInBounds_toArray, List.set_cons_zero, List.set_cons_succ])
    refine take_on (i := 9) (v := ?_) (some 12) rfl (by kernel_rfl) (by kernel_rfl) (by kernel_rfl) rfl (fun _ _ _ h => h) (by rfl) ?_ (by assumption) ?_
    rotate_left
    · intro w hSw; (try dsimp only at hSw); go_simp; (try with_reducible rfl)
    (try simp only [Act.put, List.setIfInBounds_toArray, List.set_cons_zero, List.set_cons_succ])
    refine take_on (i := 10) (v := ?_) (some 13) rfl (by kernel_rfl) (by kernel_rfl) (by kernel_rfl) rfl (fun _ _ _ h => h) (by rfl) ?_ (by assumption) ?_
    rotate_left
    · intro w hSw; (try dsimp only at hSw); go_simp; (try with_reducible rfl)
    (try simp only [Act.put, List.setIfInBounds_toArray, List.set_cons_zero, List.set_cons_succ])
    refine take_off (i := 11) (some 14) rfl (by kernel_rfl) (by kernel_rfl) (by kernel_rfl) rfl (fun _ _ _ h => h) (wanted_off (k := 10) (d := 13) (b := true) (c := false) rfl rfl rfl rfl) (by assumption) ?_
    (try simp only [Act.put, List.setIfInBounds_toArray, List.set_cons_zero, List.set_cons_succ])
    refine take_off (i := 12) (some 15) rfl (by kernel_rfl) (by kernel_rfl) (by kernel_rfl) rfl (fun _ _ _ h => h) (wanted_off (k := 10) (d := 13) (b := true) (c := false) rfl rfl rfl rfl) (by assumption) ?_
    (try simp only [Act.put, List.setIfInBounds_toArray, List.set_cons_zero, List.set_cons_succ])
    refine take_off (i := 13) (some 16) rfl (by kernel_rfl) (by kernel_rfl) (by kernel_rfl) rfl (fun _ _ _ h => h) (wanted_off (k := 10) (d := 13) (b := true) (c := false) rfl rfl rfl rfl) (by assumption) ?_
    (try simp only [Act.put, List.setIfInBounds_toArray, List.set_cons_zero, List.set_cons_succ])
    refine take_off (i := 14) (some 17) rfl (by kernel_rfl) (by kernel_rfl) (by kernel_rfl) rfl (fun _ _ _ h => h) (wanted_off (k := 10) (d := 13) (b := true) (c := false) rfl rfl rfl rfl) (by assumption) ?_
    (try simp only [Act.put, List.setIfInBounds_toArray, List.set_cons_zero, List.set_cons_succ])
    refine take_off (i := 15) (some 18) rfl (by kernel_rfl) (by kernel_rfl) (by kernel_rfl) rfl (fun _ _ _ h => h) (wanted_off (k := 10) (d := 13) (b := true) (c := false) rfl rfl rfl rfl) (by assumption) ?_
    (try simp only [Act.put, List.setIfInBounds_toArray, List.set_cons_zero, List.set_cons_succ])
    refine take_off (i := 16) (some 19) rfl (by kernel_rfl) (by kernel_rfl) (by kernel_rfl) rfl (fun _ _ _ h => h) (wanted_off (k := 10) (d := 13) (b := true) (c := false) rfl rfl rfl rfl) (by assumption) ?_
    (try simp only [Act.put, List.setIfInBounds_toArray, List.set_cons_zero, List.set_cons_succ])
    refine take_off (i := 17) (some 20) rfl (by kernel_rfl) (by kernel_rfl) (by kernel_rfl) rfl (fun _ _ _ h => h) (wanted_off (k := 10) (d := 13) (b := true) (c := false) rfl rfl rfl rfl) (by assumption) ?_
    (try simp only [Act.put, List.setIfInBounds_toArray, List.set_cons_zero, List.set_cons_succ])
    refine take_off (i := 18) (some 21) rfl (by kernel_rfl) (by kernel_rfl) (by kernel_rfl) rfl (fun _ _ _ h => h) (wanted_off (k := 10) (d := 13) (b := true) (c := false) rfl rfl rfl rfl) (by assumption) ?_
    (try simp only [Act.put, List.setIfInBounds_toArray, List.set_cons_zero, List.set_cons_succ])
    refine take_off (i := 19) (some 22) rfl (by kernel_rfl) (by kernel_rfl) (by kernel_rfl) rfl (fun _ _ _ h => h) (wanted_off (k := 10) (d := 13) (b := true) (c := false) rfl rfl rfl rfl) (by assumption) ?_
    (try simp only [Act.put, List.setIfInBounds_toArray, List.set_cons_zero, List.set_cons_succ])
    refine take_off (i := 20) (some 23) rfl (by kernel_rfl) (by kernel_rfl) (by kernel_rfl) rfl (fun _ _ _ h => h) (wanted_off (k := 10) (d := 13) (b := true) (c := false) rfl rfl rfl rfl) (by assumption) ?_
    (try simp only [Act.put, List.setIfInBounds_toArray, List.set_cons_zero, List.set_cons_succ])
    refine take_off (i := 21) (some 24) rfl (by kernel_rfl) (by kernel_rfl) (by kernel_rfl) rfl (fun _ _ _ h => h) (wanted_off (k := 10) (d := 13) (b := true) (c := false) rfl rfl rfl rfl) (by assumption) ?_
    (try simp only [Act.put, List.setIfInBounds_toArray, List.set_cons_zero, List.set_cons_succ])
    refine take_off (i := 22) (some 25) rfl (by kernel_rfl) (by kernel_rfl) (by kernel_rfl) rfl (fun _ _ _ h => h) (wanted_off (k := 10) (d := 13) (b := true) (c := false) rfl rfl rfl rfl) (by assumption) ?_
    (try simp only [Act.put, List.setIfInBounds_toArray, List.set_cons_zero, List.set_cons_succ])
    refine take_on (i := 23) (v := ?_) (some 26) rfl (by kernel_rfl) (by kernel_rfl) (by kernel_rfl) rfl (fun _ _ _ h => h) (by rfl) ?_ (by assumption) ?_
    rotate_left
    · intro w hSw; (try dsimp only at hSw); go_simp; (try with_reducible rfl)
    (try simp only [Act.put, List.setIfInBounds_toArray, List.set_cons_zero, List.set_cons_succ])
    refine take_on (i := 24) (v := ?_) (some 2) rfl (by kernel_rfl) (by kernel_rfl) (by kernel_rfl) rfl (fun _ _ _ h => h) (by rfl) ?_ (by assumption) ?_
    rotate_left
    · intro w hSw; (try dsimp only at hSw); go_simp; (try with_reducible rfl)
    (try simp only [Act.put, List.setIfInBounds_toArray, List.set_cons_zero, List.set_cons_succ])
    refine wpAnyH_done (by kernel_rfl) ?_ _
    have HF := Lib.hid HC.out
    go_wp2_with (fail)
    go_ret
    exact ⟨by rw [HF.out]; first | rfl | (simp; done), q_0.trans (bs_1.mono q_0.size)⟩
  | true =>
    obtain ⟨hme0, hme1⟩ := peer_me hq
    obtain ⟨m, hm0⟩ : ∃ m : Nat, p.me = (m : Int) := ⟨p.me.toNat, by omega⟩
    have hmt : m < p.tracks.length := by omega
    obtain ⟨x1, c0, rfl, hts⟩ := id h.1
    obtain ⟨bt, ot, rfl, hct⟩ := hts.resolve_left (by intro e; rw [e] at hmt; simp at hmt)
    obtain ⟨um, cm, rm⟩ := hct m hmt
    obtain ⟨am, xm, rfl, -⟩ := id rm
    obtain ⟨a7, c7, rfl, -⟩ := id h.2.2.2.1
    have TA := fun h => may_no (p := p) h
    have TB := fun h => may_ok (p := p) hmt hm0 h
    generalize hnm : p.tracks[m].length = nm at cm TB
    have hnm1 : (nm : Int) ≤ 9223372036854775807 := by have := hn.1.2 p.tracks[m] (List.getElem_mem _); omega
    have hmw : 0 ≤ (m : Int) := by omega
    have hml : (m : Int) < (p.tracks.length : Int) := by omega
    have hul : (p.used.length : Int) ≤ 9223372036854775807 := by have := hn.2.2.2.1.1; omega
    clear hct hts rm hnm
    have h0 := h
    have hp := fun {W : World} (h1 : RdPr W p (.slice (some ⟨bt, ot, none⟩) p.tracks.length c0) bl bs bb nl ns nb (.slice a7 p.used.length c7) vv vs) => peerOk_spec h1 hs hn
    have HC := Lib.hid (show canB p = mayB p by unfold canB; rw [hq]; rfl)
    rw [hq] at hp
    clear hq
    unfold prC at hp ⊢
    rw [hm0] at hp ⊢
    obtain ⟨W0, hW, hAr, q_0, -⟩ := rows1 w #[Value.int .i64 (m : Int), .int .i64 p.delay, .int .i64 p.ahead, .int .i64 p.seed, (.slice (some ⟨bt, ot, none⟩) p.tracks.length c0), bl, .int .i64 p.base.tick, .int .i64 p.base.seed, bs, bb, nl, .int .i64 p.now.tick, .int .i64 p.now.seed, ns, nb, (.slice a7 p.used.length c7), vv, vs, .int .i64 p.fault.tick, .int .i64 p.fault.player, .int .i64 p.fault.add, .int .i64 p.rolls, .int .i64 p.again] 46
    have cm := (q_0.cell (World.block_lt_of_cell? _ _ cm)).trans cm
    have HM0 := Lib.hid hm0
    clear hm0 h
    by_cases e5 : (p.used.length : Int) < p.ahead
    · have z5 : decide ((p.used.length : Int) < p.ahead) = true := by simpa using e5
      have HF0 := Lib.hid (HC.out.trans (TB e5))
      clear e5 TA TB
      go_enter Tryz.func9, Tryz.ntmps9
      go_upto_region 1 with (fail)
      try rw [hW]
      clear hW
      have bs_0 : Below W0.heap.size W0 W0.drew := belowDrew W0 1
      refine wp_region_held_drew (S := (fun w' => w'.heap[w.heap.size]? = some (.cells #[Value.int .i64 (m : Int), .int .i64 p.delay, .int .i64 p.ahead, .int .i64 p.seed, (.slice (some ⟨bt, ot, none⟩) p.tracks.length c0), bl, .int .i64 p.base.tick, .int .i64 p.base.seed, bs, bb, nl, .int .i64 p.now.tick, .int .i64 p.now.seed, ns, nb, (.slice a7 p.used.length c7), vv, vs, .int .i64 p.fault.tick, .int .i64 p.fault.player, .int .i64 p.fault.add, .int .i64 p.rolls, .int .i64 p.again] 46 (0, 0)) ∧ (∀ j, w'.cell? ⟨w.heap.size, j, none⟩ = #[Value.int .i64 (m : Int), .int .i64 p.delay, .int .i64 p.ahead, .int .i64 p.seed, (.slice (some ⟨bt, ot, none⟩) p.tracks.length c0), bl, .int .i64 p.base.tick, .int .i64 p.base.seed, bs, bb, nl, .int .i64 p.now.tick, .int .i64 p.now.seed, ns, nb, (.slice a7 p.used.length c7), vv, vs, .int .i64 p.fault.tick, .int .i64 p.fault.player, .int .i64 p.fault.add, .int .i64 p.rolls, .int .i64 p.again][j]?) ∧ w'.cell? ⟨bt, ot + m, none⟩ = some (.slice am nm xm))) (by kernel_rfl) ?_ (fun hHeld => ?_)
      · exact ⟨keepHeap bs_0 hAr, rowCells (keepHeap bs_0 hAr), (bs_0.cell (World.block_lt_of_cell? _ _ cm)).trans cm⟩
      refine take_on (i := 0) (v := .agg #[Value.int .i64 (m : Int), .int .i64 p.delay, .int .i64 p.ahead, .int .i64 p.seed, (.slice (some ⟨bt, ot, none⟩) p.tracks.length c0), bl, .int .i64 p.base.tick, .int .i64 p.base.seed, bs, bb, nl, .int .i64 p.now.tick, .int .i64 p.now.seed, ns, nb, (.slice a7 p.used.length c7), vv, vs, .int .i64 p.fault.tick, .int .i64 p.fault.player, .int .i64 p.fault.add, .int .i64 p.rolls, .int .i64 p.again]) (some 3) rfl (by kernel_rfl) (by kernel_rfl) (by kernel_rfl) rfl (fun _ _ _ h => h) (by rfl) (fun W hW => exec_load_row 46 _ rfl (w.heap.size) rfl 46 _ (0, 0) _ hW.1 Tryz.underlying46 rfl (by kernel_rfl)) (by assumption) ?_
      (try simp only [Act.put, List.setIfInBounds_toArray, List.set_cons_zero, List.set_cons_succ])
      refine wpAnyH_ready (rs := [1]) (by kernel_rfl) (by simp) ?_
      refine AllReadyH.cons rfl (fun K hK => ?_) AllReadyH.nil
      go_simp
      refine (hp (h0.keep (q_0.trans (bs_0.mono q_0.size)))).mono ?_
      rintro e w_1 ⟨rfl, hb_1⟩
      have bs_1 := bs_0.trans (hb_1.mono bs_0.size)
      (try go_wp2_with (fail))
      refine hK.out _ _ ?_ (fun hHeld => ?_)
      · exact ⟨keepHeap bs_1 hAr, rowCells (keepHeap bs_1 hAr), (bs_1.cell (World.block_lt_of_cell? _ _ cm)).trans cm⟩
      clear hK K
      (try simp only [Act.put, List.setIfInBounds_toArray, List.set_cons_zero, List.set_cons_succ])
      refine take_on (i := 2) (v := ?_) (some 5) rfl (by kernel_rfl) (by kernel_rfl) (by kernel_rfl) rfl (fun _ _ _ h => h) (by rfl) ?_ (by assumption) ?_
      rotate_left
      · intro w hSw; (try dsimp only at hSw); go_simp; (try with_reducible rfl)
      (try simp only [Act.put, List.setIfInBounds_toArray, List.set_cons_zero, List.set_cons_succ])
      refine take_on (i := 3) (v := ?_) (some 6) rfl (by kernel_rfl) (by kernel_rfl) (by kernel_rfl) rfl (fun _ _ _ h => h) (wanted_on (k := 2) (d := 5) (b := true) rfl rfl rfl) ?_ (by assumption) ?_
      rotate_left
      · intro w hSw; (try dsimp only at hSw); go_simp; (try with_reducible rfl)
      (try simp only [Act.put, List.setIfInBounds_toArray, List.set_cons_zero, List.set_cons_succ])
      refine take_on (i := 4) (v := ?_) (some 7) rfl (by kernel_rfl) (by kernel_rfl) (by kernel_rfl) rfl (fun _ _ _ h => h) (wanted_on (k := 2) (d := 5) (b := true) rfl rfl rfl) ?_ (by assumption) ?_
      rotate_left
      · intro w hSw; (try dsimp only at hSw); go_simp; (try with_reducible rfl)
      (try simp only [Act.put, List.setIfInBounds_toArray, List.set_cons_zero, List.set_cons_succ])
      refine take_on (i := 5) (v := ?_) (some 8) rfl (by kernel_rfl) (by kernel_rfl) (by kernel_rfl) rfl (fun _ _ _ h => h) (wanted_on (k := 2) (d := 5) (b := true) rfl rfl rfl) ?_ (by assumption) ?_
      rotate_left
      · intro w hSw; (try dsimp only at hSw); go_simp; (try with_reducible rfl)
      (try simp only [Act.put, List.setIfInBounds_toArray, List.set_cons_zero, List.set_cons_succ])
      refine take_on (i := 6) (v := ?_) (some 9) rfl (by kernel_rfl) (by kernel_rfl) (by kernel_rfl) rfl (fun _ _ _ h => h) (wanted_on (k := 2) (d := 5) (b := true) rfl rfl rfl) ?_ (by assumption) ?_
      rotate_left
      · intro w hSw; (try dsimp only at hSw); go_simp; (try with_reducible rfl)
      (try simp only [Act.put, List.setIfInBounds_toArray, List.set_cons_zero, List.set_cons_succ])
      refine take_on (i := 7) (v := ?_) (some 10) rfl (by kernel_rfl) (by kernel_rfl) (by kernel_rfl) rfl (fun _ _ _ h => h) (wanted_on (k := 2) (d := 5) (b := true) rfl rfl rfl) ?_ (by assumption) ?_
      rotate_left
      · intro w hSw; (try dsimp only at hSw); go_simp; (try with_reducible rfl)
      (try simp only [Act.put, List.setIfInBounds_toArray, List.set_cons_zero, List.set_cons_succ])
      refine take_on (i := 8) (v := ?_) (some 11) rfl (by kernel_rfl) (by kernel_rfl) (by kernel_rfl) rfl (fun _ _ _ h => h) (wanted_on (k := 2) (d := 5) (b := true) rfl rfl rfl) ?_ (by assumption) ?_
      rotate_left
      · intro w hSw; (try dsimp only at hSw); go_simp; (try with_reducible rfl)
      (try simp only [Act.put, List.setIfInBounds_toArray, List.set_cons_zero, List.set_cons_succ])
      refine take_on (i := 9) (v := ?_) (some 12) rfl (by kernel_rfl) (by kernel_rfl) (by kernel_rfl) rfl (fun _ _ _ h => h) (by rfl) ?_ (by assumption) ?_
      rotate_left
      · intro w hSw; (try dsimp only at hSw); go_simp; (try with_reducible rfl)
      (try simp only [Act.put, List.setIfInBounds_toArray, List.set_cons_zero, List.set_cons_succ])
      refine take_on (i := 10) (v := ?_) (some 13) rfl (by kernel_rfl) (by kernel_rfl) (by kernel_rfl) rfl (fun _ _ _ h => h) (by rfl) ?_ (by assumption) ?_
      rotate_left
      · intro w hSw; (try dsimp only at hSw); go_simp; (try with_reducible rfl)
      (try simp only [Act.put, List.setIfInBounds_toArray, List.set_cons_zero, List.set_cons_succ])
      refine take_on (i := 11) (v := ?_) (some 14) rfl (by kernel_rfl) (by kernel_rfl) (by kernel_rfl) rfl (fun _ _ _ h => h) (wanted_on (k := 10) (d := 13) (b := true) rfl rfl rfl) ?_ (by assumption) ?_
      rotate_left
      · intro w hSw; (try dsimp only at hSw); go_simp; (try with_reducible rfl)
      (try simp only [Act.put, List.setIfInBounds_toArray, List.set_cons_zero, List.set_cons_succ])
      refine take_on (i := 12) (v := ?_) (some 15) rfl (by kernel_rfl) (by kernel_rfl) (by kernel_rfl) rfl (fun _ _ _ h => h) (wanted_on (k := 10) (d := 13) (b := true) rfl rfl rfl) ?_ (by assumption) ?_
      rotate_left
      · intro w hSw; (try dsimp only at hSw); go_simp; (try with_reducible rfl)
      (try simp only [Act.put, List.setIfInBounds_toArray, List.set_cons_zero, List.set_cons_succ])
      refine take_on (i := 13) (v := ?_) (some 16) rfl (by kernel_rfl) (by kernel_rfl) (by kernel_rfl) rfl (fun _ _ _ h => h) (wanted_on (k := 10) (d := 13) (b := true) rfl rfl rfl) ?_ (by assumption) ?_
      rotate_left
      · intro w hSw; (try dsimp only at hSw); go_simp; (try with_reducible rfl)
      (try simp only [Act.put, List.setIfInBounds_toArray, List.set_cons_zero, List.set_cons_succ])
      refine take_on (i := 14) (v := ?_) (some 17) rfl (by kernel_rfl) (by kernel_rfl) (by kernel_rfl) rfl (fun _ _ _ h => h) (wanted_on (k := 10) (d := 13) (b := true) rfl rfl rfl) ?_ (by assumption) ?_
      rotate_left
      · intro w hSw; (try dsimp only at hSw); go_simp; (try with_reducible rfl)
      (try simp only [Act.put, List.setIfInBounds_toArray, List.set_cons_zero, List.set_cons_succ])
      refine take_on (i := 15) (v := ?_) (some 18) rfl (by kernel_rfl) (by kernel_rfl) (by kernel_rfl) rfl (fun _ _ _ h => h) (wanted_on (k := 10) (d := 13) (b := true) rfl rfl rfl) ?_ (by assumption) ?_
      rotate_left
      · intro w hSw; (try dsimp only at hSw); go_simp; (try with_reducible rfl)
      (try simp only [Act.put, List.setIfInBounds_toArray, List.set_cons_zero, List.set_cons_succ])
      refine take_on (i := 16) (v := ?_) (some 19) rfl (by kernel_rfl) (by kernel_rfl) (by kernel_rfl) rfl (fun _ _ _ h => h) (wanted_on (k := 10) (d := 13) (b := true) rfl rfl rfl) ?_ (by assumption) ?_
      rotate_left
      · intro w hSw; (try dsimp only at hSw); go_simp; (try with_reducible rfl)
      (try simp only [Act.put, List.setIfInBounds_toArray, List.set_cons_zero, List.set_cons_succ])
      refine take_on (i := 17) (v := ?_) (some 20) rfl (by kernel_rfl) (by kernel_rfl) (by kernel_rfl) rfl (fun _ _ _ h => h) (wanted_on (k := 10) (d := 13) (b := true) rfl rfl rfl) ?_ (by assumption) ?_
      rotate_left
      · intro w hSw; (try dsimp only at hSw); go_simp; (try with_reducible rfl)
      (try simp only [Act.put, List.setIfInBounds_toArray, List.set_cons_zero, List.set_cons_succ])
      refine take_on (i := 18) (v := ?_) (some 21) rfl (by kernel_rfl) (by kernel_rfl) (by kernel_rfl) rfl (fun _ _ _ h => h) (wanted_on (k := 10) (d := 13) (b := true) rfl rfl rfl) ?_ (by assumption) ?_
      rotate_left
      · intro w hSw; (try dsimp only at hSw); go_simp; (try with_reducible rfl)
      (try simp only [Act.put, List.setIfInBounds_toArray, List.set_cons_zero, List.set_cons_succ])
      refine take_on (i := 19) (v := ?_) (some 22) rfl (by kernel_rfl) (by kernel_rfl) (by kernel_rfl) rfl (fun _ _ _ h => h) (wanted_on (k := 10) (d := 13) (b := true) rfl rfl rfl) ?_ (by assumption) ?_
      rotate_left
      · intro w hSw; (try dsimp only at hSw); go_simp; (try with_reducible rfl)
      (try simp only [Act.put, List.setIfInBounds_toArray, List.set_cons_zero, List.set_cons_succ])
      refine take_on (i := 20) (v := ?_) (some 23) rfl (by kernel_rfl) (by kernel_rfl) (by kernel_rfl) rfl (fun _ _ _ h => h) (wanted_on (k := 10) (d := 13) (b := true) rfl rfl rfl) ?_ (by assumption) ?_
      rotate_left
      · intro w hSw; (try dsimp only at hSw); go_simp; (try with_reducible rfl)
      (try simp only [Act.put, List.setIfInBounds_toArray, List.set_cons_zero, List.set_cons_succ])
      refine take_on (i := 21) (v := ?_) (some 24) rfl (by kernel_rfl) (by kernel_rfl) (by kernel_rfl) rfl (fun _ _ _ h => h) (wanted_on (k := 10) (d := 13) (b := true) rfl rfl rfl) ?_ (by assumption) ?_
      rotate_left
      · intro w hSw; (try dsimp only at hSw); go_simp; (try with_reducible rfl)
      (try simp only [Act.put, List.setIfInBounds_toArray, List.set_cons_zero, List.set_cons_succ])
      refine take_on (i := 22) (v := ?_) (some 25) rfl (by kernel_rfl) (by kernel_rfl) (by kernel_rfl) rfl (fun _ _ _ h => h) (wanted_on (k := 10) (d := 13) (b := true) rfl rfl rfl) ?_ (by assumption) ?_
      rotate_left
      · intro w hSw; (try dsimp only at hSw); go_simp; (try with_reducible rfl)
      (try simp only [Act.put, List.setIfInBounds_toArray, List.set_cons_zero, List.set_cons_succ])
      refine take_on (i := 23) (v := ?_) (some 26) rfl (by kernel_rfl) (by kernel_rfl) (by kernel_rfl) rfl (fun _ _ _ h => h) (by rfl) ?_ (by assumption) ?_
      rotate_left
      · intro w hSw; (try dsimp only at hSw); go_simp; (try with_reducible rfl)
      (try simp only [Act.put, List.setIfInBounds_toArray, List.set_cons_zero, List.set_cons_succ])
      refine take_on (i := 24) (v := ?_) (some 2) rfl (by kernel_rfl) (by kernel_rfl) (by kernel_rfl) rfl (fun _ _ _ h => h) (by rfl) ?_ (by assumption) ?_
      rotate_left
      · intro w hSw; (try dsimp only at hSw); go_simp; (try with_reducible rfl)
      (try simp only [Act.put, List.setIfInBounds_toArray, List.set_cons_zero, List.set_cons_succ])
      refine wpAnyH_done (by kernel_rfl) ?_ _
      have HF := Lib.hid HF0.out
      go_wp2_with (fail)
      go_ret
      exact ⟨by rw [HF.out]; first | rfl | (simp; done), q_0.trans (bs_1.mono q_0.size)⟩
    · have z5 : decide ((p.used.length : Int) < p.ahead) = false := by simpa using e5
      have HF0 := Lib.hid (HC.out.trans (TA e5))
      clear e5 TA TB
      go_enter Tryz.func9, Tryz.ntmps9
      go_upto_region 1 with (fail)
      try rw [hW]
      clear hW
      have bs_0 : Below W0.heap.size W0 W0.drew := belowDrew W0 1
      refine wp_region_held_drew (S := (fun w' => w'.heap[w.heap.size]? = some (.cells #[Value.int .i64 (m : Int), .int .i64 p.delay, .int .i64 p.ahead, .int .i64 p.seed, (.slice (some ⟨bt, ot, none⟩) p.tracks.length c0), bl, .int .i64 p.base.tick, .int .i64 p.base.seed, bs, bb, nl, .int .i64 p.now.tick, .int .i64 p.now.seed, ns, nb, (.slice a7 p.used.length c7), vv, vs, .int .i64 p.fault.tick, .int .i64 p.fault.player, .int .i64 p.fault.add, .int .i64 p.rolls, .int .i64 p.again] 46 (0, 0)) ∧ (∀ j, w'.cell? ⟨w.heap.size, j, none⟩ = #[Value.int .i64 (m : Int), .int .i64 p.delay, .int .i64 p.ahead, .int .i64 p.seed, (.slice (some ⟨bt, ot, none⟩) p.tracks.length c0), bl, .int .i64 p.base.tick, .int .i64 p.base.seed, bs, bb, nl, .int .i64 p.now.tick, .int .i64 p.now.seed, ns, nb, (.slice a7 p.used.length c7), vv, vs, .int .i64 p.fault.tick, .int .i64 p.fault.player, .int .i64 p.fault.add, .int .i64 p.rolls, .int .i64 p.again][j]?) ∧ w'.cell? ⟨bt, ot + m, none⟩ = some (.slice am nm xm))) (by kernel_rfl) ?_ (fun hHeld => ?_)
      · exact ⟨keepHeap bs_0 hAr, rowCells (keepHeap bs_0 hAr), (bs_0.cell (World.block_lt_of_cell? _ _ cm)).trans cm⟩
      refine take_on (i := 0) (v := .agg #[Value.int .i64 (m : Int), .int .i64 p.delay, .int .i64 p.ahead, .int .i64 p.seed, (.slice (some ⟨bt, ot, none⟩) p.tracks.length c0), bl, .int .i64 p.base.tick, .int .i64 p.base.seed, bs, bb, nl, .int .i64 p.now.tick, .int .i64 p.now.seed, ns, nb, (.slice a7 p.used.length c7), vv, vs, .int .i64 p.fault.tick, .int .i64 p.fault.player, .int .i64 p.fault.add, .int .i64 p.rolls, .int .i64 p.again]) (some 3) rfl (by kernel_rfl) (by kernel_rfl) (by kernel_rfl) rfl (fun _ _ _ h => h) (by rfl) (fun W hW => exec_load_row 46 _ rfl (w.heap.size) rfl 46 _ (0, 0) _ hW.1 Tryz.underlying46 rfl (by kernel_rfl)) (by assumption) ?_
      (try simp only [Act.put, List.setIfInBounds_toArray, List.set_cons_zero, List.set_cons_succ])
      refine wpAnyH_ready (rs := [1]) (by kernel_rfl) (by simp) ?_
      refine AllReadyH.cons rfl (fun K hK => ?_) AllReadyH.nil
      go_simp
      refine (hp (h0.keep (q_0.trans (bs_0.mono q_0.size)))).mono ?_
      rintro e w_1 ⟨rfl, hb_1⟩
      have bs_1 := bs_0.trans (hb_1.mono bs_0.size)
      (try go_wp2_with (fail))
      refine hK.out _ _ ?_ (fun hHeld => ?_)
      · exact ⟨keepHeap bs_1 hAr, rowCells (keepHeap bs_1 hAr), (bs_1.cell (World.block_lt_of_cell? _ _ cm)).trans cm⟩
      clear hK K
      (try simp only [Act.put, List.setIfInBounds_toArray, List.set_cons_zero, List.set_cons_succ])
      refine take_on (i := 2) (v := ?_) (some 5) rfl (by kernel_rfl) (by kernel_rfl) (by kernel_rfl) rfl (fun _ _ _ h => h) (by rfl) ?_ (by assumption) ?_
      rotate_left
      · intro w hSw; (try dsimp only at hSw); go_simp; (try with_reducible rfl)
      (try simp only [Act.put, List.setIfInBounds_toArray, List.set_cons_zero, List.set_cons_succ])
      refine take_on (i := 3) (v := ?_) (some 6) rfl (by kernel_rfl) (by kernel_rfl) (by kernel_rfl) rfl (fun _ _ _ h => h) (wanted_on (k := 2) (d := 5) (b := true) rfl rfl rfl) ?_ (by assumption) ?_
      rotate_left
      · intro w hSw; (try dsimp only at hSw); go_simp; (try with_reducible rfl)
      (try simp only [Act.put, List.setIfInBounds_toArray, List.set_cons_zero, List.set_cons_succ])
      refine take_on (i := 4) (v := ?_) (some 7) rfl (by kernel_rfl) (by kernel_rfl) (by kernel_rfl) rfl (fun _ _ _ h => h) (wanted_on (k := 2) (d := 5) (b := true) rfl rfl rfl) ?_ (by assumption) ?_
      rotate_left
      · intro w hSw; (try dsimp only at hSw); go_simp; (try with_reducible rfl)
      (try simp only [Act.put, List.setIfInBounds_toArray, List.set_cons_zero, List.set_cons_succ])
      refine take_on (i := 5) (v := ?_) (some 8) rfl (by kernel_rfl) (by kernel_rfl) (by kernel_rfl) rfl (fun _ _ _ h => h) (wanted_on (k := 2) (d := 5) (b := true) rfl rfl rfl) ?_ (by assumption) ?_
      rotate_left
      · intro w hSw; (try dsimp only at hSw); go_simp; (try with_reducible rfl)
      (try simp only [Act.put, List.setIfInBounds_toArray, List.set_cons_zero, List.set_cons_succ])
      refine take_on (i := 6) (v := ?_) (some 9) rfl (by kernel_rfl) (by kernel_rfl) (by kernel_rfl) rfl (fun _ _ _ h => h) (wanted_on (k := 2) (d := 5) (b := true) rfl rfl rfl) ?_ (by assumption) ?_
      rotate_left
      · intro w hSw; (try dsimp only at hSw); go_simp; (try with_reducible rfl)
      (try simp only [Act.put, List.setIfInBounds_toArray, List.set_cons_zero, List.set_cons_succ])
      refine take_on (i := 7) (v := ?_) (some 10) rfl (by kernel_rfl) (by kernel_rfl) (by kernel_rfl) rfl (fun _ _ _ h => h) (wanted_on (k := 2) (d := 5) (b := true) rfl rfl rfl) ?_ (by assumption) ?_
      rotate_left
      · intro w hSw; (try dsimp only at hSw); go_simp; (try with_reducible rfl)
      (try simp only [Act.put, List.setIfInBounds_toArray, List.set_cons_zero, List.set_cons_succ])
      refine take_on (i := 8) (v := ?_) (some 11) rfl (by kernel_rfl) (by kernel_rfl) (by kernel_rfl) rfl (fun _ _ _ h => h) (wanted_on (k := 2) (d := 5) (b := true) rfl rfl rfl) ?_ (by assumption) ?_
      rotate_left
      · intro w hSw; (try dsimp only at hSw); go_simp; (try with_reducible rfl)
      (try simp only [Act.put, List.setIfInBounds_toArray, List.set_cons_zero, List.set_cons_succ])
      refine take_on (i := 9) (v := ?_) (some 12) rfl (by kernel_rfl) (by kernel_rfl) (by kernel_rfl) rfl (fun _ _ _ h => h) (by rfl) ?_ (by assumption) ?_
      rotate_left
      · intro w hSw; (try dsimp only at hSw); go_simp; (try with_reducible rfl)
      (try simp only [Act.put, List.setIfInBounds_toArray, List.set_cons_zero, List.set_cons_succ])
      refine take_on (i := 10) (v := ?_) (some 13) rfl (by kernel_rfl) (by kernel_rfl) (by kernel_rfl) rfl (fun _ _ _ h => h) (by rfl) ?_ (by assumption) ?_
      rotate_left
      · intro w hSw; (try dsimp only at hSw); go_simp; (try with_reducible rfl)
      (try simp only [Act.put, List.setIfInBounds_toArray, List.set_cons_zero, List.set_cons_succ])
      refine take_off (i := 11) (some 14) rfl (by kernel_rfl) (by kernel_rfl) (by kernel_rfl) rfl (fun _ _ _ h => h) (wanted_off (k := 10) (d := 13) (b := true) (c := false) rfl rfl rfl rfl) (by assumption) ?_
      (try simp only [Act.put, List.setIfInBounds_toArray, List.set_cons_zero, List.set_cons_succ])
      refine take_off (i := 12) (some 15) rfl (by kernel_rfl) (by kernel_rfl) (by kernel_rfl) rfl (fun _ _ _ h => h) (wanted_off (k := 10) (d := 13) (b := true) (c := false) rfl rfl rfl rfl) (by assumption) ?_
      (try simp only [Act.put, List.setIfInBounds_toArray, List.set_cons_zero, List.set_cons_succ])
      refine take_off (i := 13) (some 16) rfl (by kernel_rfl) (by kernel_rfl) (by kernel_rfl) rfl (fun _ _ _ h => h) (wanted_off (k := 10) (d := 13) (b := true) (c := false) rfl rfl rfl rfl) (by assumption) ?_
      (try simp only [Act.put, List.setIfInBounds_toArray, List.set_cons_zero, List.set_cons_succ])
      refine take_off (i := 14) (some 17) rfl (by kernel_rfl) (by kernel_rfl) (by kernel_rfl) rfl (fun _ _ _ h => h) (wanted_off (k := 10) (d := 13) (b := true) (c := false) rfl rfl rfl rfl) (by assumption) ?_
      (try simp only [Act.put, List.setIfInBounds_toArray, List.set_cons_zero, List.set_cons_succ])
      refine take_off (i := 15) (some 18) rfl (by kernel_rfl) (by kernel_rfl) (by kernel_rfl) rfl (fun _ _ _ h => h) (wanted_off (k := 10) (d := 13) (b := true) (c := false) rfl rfl rfl rfl) (by assumption) ?_
      (try simp only [Act.put, List.setIfInBounds_toArray, List.set_cons_zero, List.set_cons_succ])
      refine take_off (i := 16) (some 19) rfl (by kernel_rfl) (by kernel_rfl) (by kernel_rfl) rfl (fun _ _ _ h => h) (wanted_off (k := 10) (d := 13) (b := true) (c := false) rfl rfl rfl rfl) (by assumption) ?_
      (try simp only [Act.put, List.setIfInBounds_toArray, List.set_cons_zero, List.set_cons_succ])
      refine take_off (i := 17) (some 20) rfl (by kernel_rfl) (by kernel_rfl) (by kernel_rfl) rfl (fun _ _ _ h => h) (wanted_off (k := 10) (d := 13) (b := true) (c := false) rfl rfl rfl rfl) (by assumption) ?_
      (try simp only [Act.put, List.setIfInBounds_toArray, List.set_cons_zero, List.set_cons_succ])
      refine take_off (i := 18) (some 21) rfl (by kernel_rfl) (by kernel_rfl) (by kernel_rfl) rfl (fun _ _ _ h => h) (wanted_off (k := 10) (d := 13) (b := true) (c := false) rfl rfl rfl rfl) (by assumption) ?_
      (try simp only [Act.put, List.setIfInBounds_toArray, List.set_cons_zero, List.set_cons_succ])
      refine take_off (i := 19) (some 22) rfl (by kernel_rfl) (by kernel_rfl) (by kernel_rfl) rfl (fun _ _ _ h => h) (wanted_off (k := 10) (d := 13) (b := true) (c := false) rfl rfl rfl rfl) (by assumption) ?_
      (try simp only [Act.put, List.setIfInBounds_toArray, List.set_cons_zero, List.set_cons_succ])
      refine take_off (i := 20) (some 23) rfl (by kernel_rfl) (by kernel_rfl) (by kernel_rfl) rfl (fun _ _ _ h => h) (wanted_off (k := 10) (d := 13) (b := true) (c := false) rfl rfl rfl rfl) (by assumption) ?_
      (try simp only [Act.put, List.setIfInBounds_toArray, List.set_cons_zero, List.set_cons_succ])
      refine take_off (i := 21) (some 24) rfl (by kernel_rfl) (by kernel_rfl) (by kernel_rfl) rfl (fun _ _ _ h => h) (wanted_off (k := 10) (d := 13) (b := true) (c := false) rfl rfl rfl rfl) (by assumption) ?_
      (try simp only [Act.put, List.setIfInBounds_toArray, List.set_cons_zero, List.set_cons_succ])
      refine take_off (i := 22) (some 25) rfl (by kernel_rfl) (by kernel_rfl) (by kernel_rfl) rfl (fun _ _ _ h => h) (wanted_off (k := 10) (d := 13) (b := true) (c := false) rfl rfl rfl rfl) (by assumption) ?_
      (try simp only [Act.put, List.setIfInBounds_toArray, List.set_cons_zero, List.set_cons_succ])
      refine take_on (i := 23) (v := ?_) (some 26) rfl (by kernel_rfl) (by kernel_rfl) (by kernel_rfl) rfl (fun _ _ _ h => h) (by rfl) ?_ (by assumption) ?_
      rotate_left
      · intro w hSw; (try dsimp only at hSw); go_simp; (try with_reducible rfl)
      (try simp only [Act.put, List.setIfInBounds_toArray, List.set_cons_zero, List.set_cons_succ])
      refine take_on (i := 24) (v := ?_) (some 2) rfl (by kernel_rfl) (by kernel_rfl) (by kernel_rfl) rfl (fun _ _ _ h => h) (by rfl) ?_ (by assumption) ?_
      rotate_left
      · intro w hSw; (try dsimp only at hSw); go_simp; (try with_reducible rfl)
      (try simp only [Act.put, List.setIfInBounds_toArray, List.set_cons_zero, List.set_cons_succ])
      refine wpAnyH_done (by kernel_rfl) ?_ _
      have HF := Lib.hid HF0.out
      go_wp2_with (fail)
      go_ret
      exact ⟨by rw [HF.out]; first | rfl | (simp; done), q_0.trans (bs_1.mono q_0.size)⟩
set_option maxRecDepth 100000 in
set_option maxHeartbeats 8000000 in
theorem lawCanAdvance {w : World} (p : Pr) (vt bl bs bb nl ns nb vu vv vs : Value) (h : RdPr w p vt bl bs bb nl ns nb vu vv vs) (hs : p.sane) :
    Calls Tryz.prog 3 #[.agg (prC p vt bl bs bb nl ns nb vu vv vs)] w fun e w' => e = .returned (.bool true) ∧ Below w.heap.size w w' := by
  have h0 := h
  obtain ⟨a0, c0, rfl, -⟩ := id h.1
  obtain ⟨a1, c1, rfl, -⟩ := id h.2.1.1
  obtain ⟨a2, c2, rfl, -⟩ := id h.2.1.2.1
  obtain ⟨a3, c3, rfl, -⟩ := id h.2.1.2.2
  obtain ⟨a4, c4, rfl, -⟩ := id h.2.2.1.1
  obtain ⟨a5, c5, rfl, -⟩ := id h.2.2.1.2.1
  obtain ⟨a6, c6, rfl, -⟩ := id h.2.2.1.2.2
  obtain ⟨a7, c7, rfl, -⟩ := id h.2.2.2.1
  obtain ⟨a8, c8, rfl, -⟩ := id h.2.2.2.2.1
  obtain ⟨a9, c9, rfl, -⟩ := id h.2.2.2.2.2
  obtain ⟨w_1, hW, A_1, q0_1, -⟩ := rows1 w #[Value.int .i64 p.me, .int .i64 p.delay, .int .i64 p.ahead, .int .i64 p.seed, (.slice a0 p.tracks.length c0), (.slice a1 p.base.rows.length c1), .int .i64 p.base.tick, .int .i64 p.base.seed, (.slice a2 p.base.scores.length c2), (.slice a3 p.base.bods.length c3), (.slice a4 p.now.rows.length c4), .int .i64 p.now.tick, .int .i64 p.now.seed, (.slice a5 p.now.scores.length c5), (.slice a6 p.now.bods.length c6), (.slice a7 p.used.length c7), (.slice a8 p.saves.length c8), (.slice a9 p.sums.length c9), .int .i64 p.fault.tick, .int .i64 p.fault.player, .int .i64 p.fault.add, .int .i64 p.rolls, .int .i64 p.again] 35
  unfold prC
  go_enter Tryz.func3, Tryz.ntmps3
  go_upto_region 2 with (fail)
  try rw [hW]
  clear hW
  refine wp_region_lit ?_
  refine wpList_load_row rfl 35 _ rfl (w.heap.size) rfl 35 _ (0, 0) _ A_1 Tryz.underlying35 rfl (by kernel_rfl) ?_
  go_wp2_with (fail)
  refine (szPeer_any (h0.keep q0_1) hs 1048576 (by omega) (by omega)).mono ?_
  rintro e w_2 ⟨r, rfl, hr, hb_2⟩
  have q0_2 := q0_1.trans (hb_2.mono q0_1.size)
  have A_2 := keepHeap hb_2 A_1
  clear q0_1 A_1 hb_2
  rcases hr with rfl | ⟨hr0, -, hn⟩
  · go_wp2_with (fail)
    go_ret
    exact ⟨rfl, q0_2⟩
  have zr : decide (r < 0) = false := by simpa using hr0
  have hspec := fun {W : World} {vt bl bs bb nl ns nb vu vv vs : Value} (h1 : RdPr W p vt bl bs bb nl ns nb vu vv vs) => canAdvance_spec h1 hs hn
  have himpl := fun {W : World} {vt bl bs bb nl ns nb vu vv vs : Value} (h1 : RdPr W p vt bl bs bb nl ns nb vu vv vs) => canAdvance_impl h1 hs hn
  have heq := fun {W : World} {vt bl bs bb nl ns nb vu vv vs vt' bl' bs' bb' nl' ns' nb' vu' vv' vs' : Value} (h1 : RdPr W p vt bl bs bb nl ns nb vu vv vs) (h2 : RdPr W p vt' bl' bs' bb' nl' ns' nb' vu' vv' vs') => eqPeer_same h1 h2 hn
  have hto := fun {W : World} (h1 : RdPr W p (.slice a0 p.tracks.length c0) (.slice a1 p.base.rows.length c1) (.slice a2 p.base.scores.length c2) (.slice a3 p.base.bods.length c3) (.slice a4 p.now.rows.length c4) (.slice a5 p.now.scores.length c5) (.slice a6 p.now.bods.length c6) (.slice a7 p.used.length c7) (.slice a8 p.saves.length c8) (.slice a9 p.sums.length c9)) => toPeer_any h1 hn
  unfold prC at hspec himpl heq hto
  generalize canB p = t at hspec himpl
  go_upto_region 5 with (fail)
  refine wp_region_lit ?_
  refine wpList_load_row rfl 35 _ rfl (w.heap.size) rfl 35 _ (0, 0) _ A_2 Tryz.underlying35 rfl (by kernel_rfl) ?_
  go_wp2_with (fail)
  refine (hto (h0.keep q0_2)).mono ?_
  rintro e w_3 ⟨u0, u1, u2, u3, u4, u5, u6, u7, u8, u9, rfl, o1, hb_3⟩
  have q0_3 := q0_2.trans (hb_3.mono q0_2.size)
  have A_3 := keepHeap hb_3 A_2
  clear q0_2 A_2 hb_3
  have rd1 := o1
  obtain ⟨a01, c01, rfl, -⟩ := id rd1.1
  obtain ⟨a11, c11, rfl, -⟩ := id rd1.2.1.1
  obtain ⟨a21, c21, rfl, -⟩ := id rd1.2.1.2.1
  obtain ⟨a31, c31, rfl, -⟩ := id rd1.2.1.2.2
  obtain ⟨a41, c41, rfl, -⟩ := id rd1.2.2.1.1
  obtain ⟨a51, c51, rfl, -⟩ := id rd1.2.2.1.2.1
  obtain ⟨a61, c61, rfl, -⟩ := id rd1.2.2.1.2.2
  obtain ⟨a71, c71, rfl, -⟩ := id rd1.2.2.2.1
  obtain ⟨a81, c81, rfl, -⟩ := id rd1.2.2.2.2.1
  obtain ⟨a91, c91, rfl, -⟩ := id rd1.2.2.2.2.2
  clear rd1
  unfold prC
  go_wp2_with (fail)
  refine (hspec o1).mono ?_
  rintro e w_4 ⟨rfl, hb_4⟩
  have q0_4 := q0_3.trans (hb_4.mono q0_3.size)
  have A_4 := keepHeap hb_4 A_3
  clear q0_3 A_3 hb_4 o1
  go_upto_region 6 with (fail)
  refine wp_region_lit ?_
  refine wpList_load_row rfl 35 _ rfl (w.heap.size) rfl 35 _ (0, 0) _ A_4 Tryz.underlying35 rfl (by kernel_rfl) ?_
  go_wp2_with (fail)
  rename_i hK6
  refine (hto (h0.keep q0_4)).mono ?_
  rintro e w_5 ⟨u0, u1, u2, u3, u4, u5, u6, u7, u8, u9, rfl, o2, hb_5⟩
  have q0_5 := q0_4.trans (hb_5.mono q0_4.size)
  have A_5 := keepHeap hb_5 A_4
  clear q0_4 A_4 hb_5
  have rd2 := o2
  obtain ⟨a02, c02, rfl, -⟩ := id rd2.1
  obtain ⟨a12, c12, rfl, -⟩ := id rd2.2.1.1
  obtain ⟨a22, c22, rfl, -⟩ := id rd2.2.1.2.1
  obtain ⟨a32, c32, rfl, -⟩ := id rd2.2.1.2.2
  obtain ⟨a42, c42, rfl, -⟩ := id rd2.2.2.1.1
  obtain ⟨a52, c52, rfl, -⟩ := id rd2.2.2.1.2.1
  obtain ⟨a62, c62, rfl, -⟩ := id rd2.2.2.1.2.2
  obtain ⟨a72, c72, rfl, -⟩ := id rd2.2.2.2.1
  obtain ⟨a82, c82, rfl, -⟩ := id rd2.2.2.2.2.1
  obtain ⟨a92, c92, rfl, -⟩ := id rd2.2.2.2.2.2
  clear rd2
  unfold prC
  obtain ⟨w_6, hw_6, X_6, hb_6⟩ : ∃ W, w_5.alloc (.cells #[Value.int .i64 p.me, .int .i64 p.delay, .int .i64 p.ahead, .int .i64 p.seed, (.slice a02 p.tracks.length c02), (.slice a12 p.base.rows.length c12), .int .i64 p.base.tick, .int .i64 p.base.seed, (.slice a22 p.base.scores.length c22), (.slice a32 p.base.bods.length c32), (.slice a42 p.now.rows.length c42), .int .i64 p.now.tick, .int .i64 p.now.seed, (.slice a52 p.now.scores.length c52), (.slice a62 p.now.bods.length c62), (.slice a72 p.used.length c72), (.slice a82 p.saves.length c82), (.slice a92 p.sums.length c92), .int .i64 p.fault.tick, .int .i64 p.fault.player, .int .i64 p.fault.add, .int .i64 p.rolls, .int .i64 p.again] 46) = W ∧ W.heap[w_5.heap.size]? = some (.cells #[Value.int .i64 p.me, .int .i64 p.delay, .int .i64 p.ahead, .int .i64 p.seed, (.slice a02 p.tracks.length c02), (.slice a12 p.base.rows.length c12), .int .i64 p.base.tick, .int .i64 p.base.seed, (.slice a22 p.base.scores.length c22), (.slice a32 p.base.bods.length c32), (.slice a42 p.now.rows.length c42), .int .i64 p.now.tick, .int .i64 p.now.seed, (.slice a52 p.now.scores.length c52), (.slice a62 p.now.bods.length c62), (.slice a72 p.used.length c72), (.slice a82 p.saves.length c82), (.slice a92 p.sums.length c92), .int .i64 p.fault.tick, .int .i64 p.fault.player, .int .i64 p.fault.add, .int .i64 p.rolls, .int .i64 p.again] 46 (0, 0)) ∧ Below w_5.heap.size w_5 W := ⟨_, rfl, heap_alloc_new _ _, below1 _ _⟩
  have q0_6 := q0_5.trans (hb_6.mono q0_5.size)
  have o2 := o2.keep hb_6
  have A_6 := keepHeap hb_6 A_5
  clear q0_5 A_5 hb_6
  refine hK6 _ _ ?_
  clear hK6
  refine wpList_runTo rfl _ rfl (.pointer (some ⟨w_5.heap.size, 0, none⟩)) (w_5.alloc (.cells #[Value.int .i64 0, .int .i64 0, .int .i64 0, .int .i64 0, (.slice none 0 0), (.slice none 0 0), .int .i64 0, .int .i64 0, (.slice none 0 0), (.slice none 0 0), (.slice none 0 0), .int .i64 0, .int .i64 0, (.slice none 0 0), (.slice none 0 0), (.slice none 0 0), (.slice none 0 0), (.slice none 0 0), .int .i64 0, .int .i64 0, .int .i64 0, .int .i64 0, .int .i64 0] 46)) (by kernel_rfl) ?_
  refine wpList_store_row rfl 46 _ _ rfl w_5.heap.size #[Value.int .i64 p.me, .int .i64 p.delay, .int .i64 p.ahead, .int .i64 p.seed, (.slice a02 p.tracks.length c02), (.slice a12 p.base.rows.length c12), .int .i64 p.base.tick, .int .i64 p.base.seed, (.slice a22 p.base.scores.length c22), (.slice a32 p.base.bods.length c32), (.slice a42 p.now.rows.length c42), .int .i64 p.now.tick, .int .i64 p.now.seed, (.slice a52 p.now.scores.length c52), (.slice a62 p.now.bods.length c62), (.slice a72 p.used.length c72), (.slice a82 p.saves.length c82), (.slice a92 p.sums.length c92), .int .i64 p.fault.tick, .int .i64 p.fault.player, .int .i64 p.fault.add, .int .i64 p.rolls, .int .i64 p.again] rfl rfl 46 _ (heap_alloc_new _ _) (by kernel_rfl) rfl (by simp [Value.oneCell']) ?_
  rw [World.setRow_alloc_new, hw_6]
  clear hw_6
  go_upto_region 7 with (fail)
  refine wp_region_lit ?_
  refine wpList_load_row rfl 46 _ rfl (w_5.heap.size) rfl 46 _ (0, 0) _ X_6 Tryz.underlying46 rfl (by kernel_rfl) ?_
  go_wp2_with (fail)
  refine (himpl o2).mono ?_
  rintro e w_7 ⟨rfl, hb_7⟩
  have q0_7 := q0_6.trans (hb_7.mono q0_6.size)
  have o2 := o2.keep hb_7
  have A_7 := keepHeap hb_7 A_6
  have X_7 := keepHeap hb_7 X_6
  clear q0_6 A_6 X_6 hb_7
  go_upto_region 10 with (fail)
  have ra := h0.keep q0_7
  have bs_0 : Below w_7.heap.size w_7 w_7.drew := belowDrew w_7 1
  refine wp_region_held_drew (S := fun w' => w'.heap[w.heap.size]? = some (.cells #[Value.int .i64 p.me, .int .i64 p.delay, .int .i64 p.ahead, .int .i64 p.seed, (.slice a0 p.tracks.length c0), (.slice a1 p.base.rows.length c1), .int .i64 p.base.tick, .int .i64 p.base.seed, (.slice a2 p.base.scores.length c2), (.slice a3 p.base.bods.length c3), (.slice a4 p.now.rows.length c4), .int .i64 p.now.tick, .int .i64 p.now.seed, (.slice a5 p.now.scores.length c5), (.slice a6 p.now.bods.length c6), (.slice a7 p.used.length c7), (.slice a8 p.saves.length c8), (.slice a9 p.sums.length c9), .int .i64 p.fault.tick, .int .i64 p.fault.player, .int .i64 p.fault.add, .int .i64 p.rolls, .int .i64 p.again] 35 (0, 0)) ∧ w'.heap[w_5.heap.size]? = some (.cells #[Value.int .i64 p.me, .int .i64 p.delay, .int .i64 p.ahead, .int .i64 p.seed, (.slice a02 p.tracks.length c02), (.slice a12 p.base.rows.length c12), .int .i64 p.base.tick, .int .i64 p.base.seed, (.slice a22 p.base.scores.length c22), (.slice a32 p.base.bods.length c32), (.slice a42 p.now.rows.length c42), .int .i64 p.now.tick, .int .i64 p.now.seed, (.slice a52 p.now.scores.length c52), (.slice a62 p.now.bods.length c62), (.slice a72 p.used.length c72), (.slice a82 p.saves.length c82), (.slice a92 p.sums.length c92), .int .i64 p.fault.tick, .int .i64 p.fault.player, .int .i64 p.fault.add, .int .i64 p.rolls, .int .i64 p.again] 46 (0, 0))) (by kernel_rfl) ?_ (fun hHeld => ?_)
  · exact ⟨keepHeap bs_0 A_7, keepHeap bs_0 X_7⟩
  refine take_on (i := 0) (v := .agg #[Value.int .i64 p.me, .int .i64 p.delay, .int .i64 p.ahead, .int .i64 p.seed, (.slice a02 p.tracks.length c02), (.slice a12 p.base.rows.length c12), .int .i64 p.base.tick, .int .i64 p.base.seed, (.slice a22 p.base.scores.length c22), (.slice a32 p.base.bods.length c32), (.slice a42 p.now.rows.length c42), .int .i64 p.now.tick, .int .i64 p.now.seed, (.slice a52 p.now.scores.length c52), (.slice a62 p.now.bods.length c62), (.slice a72 p.used.length c72), (.slice a82 p.saves.length c82), (.slice a92 p.sums.length c92), .int .i64 p.fault.tick, .int .i64 p.fault.player, .int .i64 p.fault.add, .int .i64 p.rolls, .int .i64 p.again]) (some 22) rfl (by kernel_rfl) (by kernel_rfl) (by kernel_rfl) rfl (fun _ _ _ h => h) (by rfl) (fun W hW => exec_load_row 46 _ rfl (w_5.heap.size) rfl 46 _ (0, 0) _ hW.2 Tryz.underlying46 rfl (by kernel_rfl)) (by assumption) ?_
  (try simp only [Act.put, List.setIfInBounds_toArray, List.set_cons_zero, List.set_cons_succ])
  refine take_on (i := 1) (v := .agg #[Value.int .i64 p.me, .int .i64 p.delay, .int .i64 p.ahead, .int .i64 p.seed, (.slice a0 p.tracks.length c0), (.slice a1 p.base.rows.length c1), .int .i64 p.base.tick, .int .i64 p.base.seed, (.slice a2 p.base.scores.length c2), (.slice a3 p.base.bods.length c3), (.slice a4 p.now.rows.length c4), .int .i64 p.now.tick, .int .i64 p.now.seed, (.slice a5 p.now.scores.length c5), (.slice a6 p.now.bods.length c6), (.slice a7 p.used.length c7), (.slice a8 p.saves.length c8), (.slice a9 p.sums.length c9), .int .i64 p.fault.tick, .int .i64 p.fault.player, .int .i64 p.fault.add, .int .i64 p.rolls, .int .i64 p.again]) (some 23) rfl (by kernel_rfl) (by kernel_rfl) (by kernel_rfl) rfl (fun _ _ _ h => h) (by rfl) (fun W hW => exec_load_row 35 _ rfl (w.heap.size) rfl 35 _ (0, 0) _ hW.1 Tryz.underlying35 rfl (by kernel_rfl)) (by assumption) ?_
  (try simp only [Act.put, List.setIfInBounds_toArray, List.set_cons_zero, List.set_cons_succ])
  refine wpAnyH_ready (rs := [2]) (by kernel_rfl) (by simp) ?_
  refine AllReadyH.cons rfl (fun K hK => ?_) AllReadyH.nil
  go_simp
  refine (hto (ra.keep bs_0)).mono ?_
  rintro e w_8 ⟨u0, u1, u2, u3, u4, u5, u6, u7, u8, u9, rfl, o8, hb_8⟩
  have bs_1 := bs_0.trans (hb_8.mono bs_0.size)
  have rd8 := o8
  obtain ⟨a08, c08, rfl, -⟩ := id rd8.1
  obtain ⟨a18, c18, rfl, -⟩ := id rd8.2.1.1
  obtain ⟨a28, c28, rfl, -⟩ := id rd8.2.1.2.1
  obtain ⟨a38, c38, rfl, -⟩ := id rd8.2.1.2.2
  obtain ⟨a48, c48, rfl, -⟩ := id rd8.2.2.1.1
  obtain ⟨a58, c58, rfl, -⟩ := id rd8.2.2.1.2.1
  obtain ⟨a68, c68, rfl, -⟩ := id rd8.2.2.1.2.2
  obtain ⟨a78, c78, rfl, -⟩ := id rd8.2.2.2.1
  obtain ⟨a88, c88, rfl, -⟩ := id rd8.2.2.2.2.1
  obtain ⟨a98, c98, rfl, -⟩ := id rd8.2.2.2.2.2
  clear rd8
  unfold prC
  (try go_wp2_with (fail))
  refine hK.out _ _ ?_ (fun hHeld => ?_)
  · exact ⟨keepHeap bs_1 A_7, keepHeap bs_1 X_7⟩
  clear hK K
  (try simp only [Act.put, List.setIfInBounds_toArray, List.set_cons_zero, List.set_cons_succ])
  refine wpAnyH_ready (rs := [3]) (by kernel_rfl) (by simp) ?_
  refine AllReadyH.cons rfl (fun K hK => ?_) AllReadyH.nil
  go_simp
  refine (heq (o2.keep bs_1) o8).mono ?_
  rintro e w_9 ⟨rfl, hb_9⟩
  have bs_2 := bs_1.trans (hb_9.mono bs_1.size)
  (try go_wp2_with (fail))
  refine hK.out _ _ ?_ (fun hHeld => ?_)
  · exact ⟨keepHeap bs_2 A_7, keepHeap bs_2 X_7⟩
  clear hK K
  (try simp only [Act.put, List.setIfInBounds_toArray, List.set_cons_zero, List.set_cons_succ])
  refine take_on (i := 4) (v := ?_) (some 26) rfl (by kernel_rfl) (by kernel_rfl) (by kernel_rfl) rfl (fun _ _ _ h => h) (by rfl) ?_ (by assumption) ?_
  rotate_left
  · intro w hSw; (try dsimp only at hSw); go_simp; (try with_reducible rfl)
  (try simp only [Act.put, List.setIfInBounds_toArray, List.set_cons_zero, List.set_cons_succ])
  refine wpAnyH_done (by kernel_rfl) ?_ _
  have hend := q0_7.trans (bs_2.mono q0_7.size)
  go_wp2_with (fail)
  go_ret
  exact ⟨rfl, hend⟩
end Go.Proofs.YtiidocjpeepheaaGreatDoor
