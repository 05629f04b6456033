/-
  Texts of this proof: Clu.
-/
import Derived.Test.YtnlonkkbjkfkmaaGreatDoorM47
import Derived.Test.YtnlonkkbjkfkmaaGreatDoorM48
import Derived.Deep.RegionHeld3
import Derived.Deep.WholeRow
import Derived.Great.Walk
namespace Go.Proofs.YtnlonkkbjkfkmaaGreatDoor
open Go.RowKit Go.Great
set_option linter.all false
theorem exec_load_row {P : Program} {o : Oper} {a : Act} {w : World} (ty : TypeId) (x : Operand) (ho : o.op = .load ty x)
  (g : Nat) (hx : a.eval x = .pointer (some ⟨g, 0, none⟩)) (t : TypeId) (cs : Array Value) (fr : Nat × Nat) (d : TypeDesc) (hg : w.heap[g]? = some (.cells cs t fr))
  (hu : P.underlying ty = some d) (hd : (match d with | .struct _ | .array _ _ => true | _ => false) = true) (hi : (P.info? ty).map (·.size) = some cs.size) :
  (execOp a.eval o).run P w = .ok (.value (.agg cs)) w := by
 unfold execOp
 simp only [ho, hx, Instr.loadAt, Instr.sureAddr, Sem.run_bind, Sem.run_pure, Result.andThen_ok, run_loadVar_row w g t ty cs fr d hg hu hd hi]
def cleanI (p q : Pr) : Int := if peerB p && peerB q then (if firstD p.sums q.sums = -1 then lastI p.sums q.sums else firstD p.sums q.sums - 1) else -1
theorem clean_p {p q : Pr} (h : peerB p = false) : cleanI p q = -1 := by unfold cleanI; rw [h]; rfl
theorem clean_q {p q : Pr} (h : peerB q = false) : cleanI p q = -1 := by unfold cleanI; rw [h]; simp
theorem clean_yes {p q : Pr} (h : peerB p = true) (h2 : peerB q = true) : cleanI p q = if firstD p.sums q.sums = -1 then lastI p.sums q.sums else firstD p.sums q.sums - 1 := by unfold cleanI; rw [h, h2]; rfl
theorem firstD_range {xs ys : List Int} (hx : xs.length ≤ 1048576) : -1 ≤ firstD xs ys ∧ firstD xs ys ≤ 1048576 := by
 unfold firstD
 split
 ·rename_i k h
  have := List.mem_of_find?_eq_some h
  rw [List.mem_range] at this
  omega
 ·omega
theorem wpList_load_want {P : Program} {ops : Array Oper} {rest : List Oper} {o : Oper} {a : Act} {w : World} {Q : Exit → Act → World → Prop} (hw : Region.wanted o (yielded ops a.tmps) = true) (ty : TypeId) (x : Operand) (ho : o.op = .load ty x)
  (g : Nat) (hx : a.eval x = .pointer (some ⟨g, 0, none⟩)) (t : TypeId) (cs : Array Value) (fr : Nat × Nat) (d : TypeDesc) (hg : w.heap[g]? = some (.cells cs t fr))
  (hu : P.underlying ty = some d) (hd : (match d with | .struct _ | .array _ _ => true | _ => false) = true) (hi : (P.info? ty).map (·.size) = some cs.size)
  (h : wpList P ops Q rest (a.put o.dst (.agg cs)) w) : wpList P ops Q (o :: rest) a w :=
 BigFrame.wpList_want hw fun _ hK => wp_load_row ty x ho g hx t cs fr d hg hu hd hi (hK _ _ h)
set_option maxRecDepth 100000 in
set_option maxHeartbeats 8000000 in
theorem cleanUpTo_impl {w : World} {p q : Pr} {vt bl bs bb nl ns nb vu vv vs vtq blq bsq bbq nlq nsq nbq vuq vvq vsq : Value} (h : RdPr w p vt bl bs bb nl ns nb vu vv vs) (hs : p.sane) (hn : p.few) (g : RdPr w q vtq blq bsq bbq nlq nsq nbq vuq vvq vsq) (gs : q.sane) (gn : q.few) :
  Calls Tryz.prog 55 #[.agg (prC p vt bl bs bb nl ns nb vu vv vs), .agg (prC q vtq blq bsq bbq nlq nsq nbq vuq vvq vsq)] w fun e w' => e = .returned (.int .i64 (cleanI p q)) ∧ Below w.heap.size w w' := by
 have h0 := h
 have g0 := g
 have hp := fun {W : World} (h1 : RdPr W p vt bl bs bb nl ns nb vu vv vs) => peerOk_impl h1 hs hn
 have hq := fun {W : World} (h1 : RdPr W q vtq blq bsq bbq nlq nsq nbq vuq vvq vsq) => peerOk_impl h1 gs gn
 have hf := fun {W : World} (h1 : RdI W vs p.sums) (h2 : RdI W vsq q.sums) => first_implB h1 h2 hn.2.2.2.2.2 gn.2.2.2.2.2
 have hl := fun {W : World} (h1 : RdI W vs p.sums) (h2 : RdI W vsq q.sums) => last_impl h1 h2 hn.2.2.2.2.2 gn.2.2.2.2.2
 have hD := firstD_range (xs := p.sums) (ys := q.sums) hn.2.2.2.2.2
 have hx := hn.2.2.2.2.2
 have hy := gn.2.2.2.2.2
 obtain ⟨W0, hW, A_0, B_0, q_0, -⟩ := rows2 w #[Value.int .i64 p.me, .int .i64 p.delay, .int .i64 p.ahead, .int .i64 p.seed, vt, bl, .int .i64 p.base.tick, .int .i64 p.base.seed, bs, bb, nl, .int .i64 p.now.tick, .int .i64 p.now.seed, ns, nb, vu, vv, vs, .int .i64 p.fault.tick, .int .i64 p.fault.player, .int .i64 p.fault.add, .int .i64 p.rolls, .int .i64 p.again] #[Value.int .i64 q.me, .int .i64 q.delay, .int .i64 q.ahead, .int .i64 q.seed, vtq, blq, .int .i64 q.base.tick, .int .i64 q.base.seed, bsq, bbq, nlq, .int .i64 q.now.tick, .int .i64 q.now.seed, nsq, nbq, vuq, vvq, vsq, .int .i64 q.fault.tick, .int .i64 q.fault.player, .int .i64 q.fault.add, .int .i64 q.rolls, .int .i64 q.again] 63 63
 unfold prC at hp hq ⊢
 go_enter Tryz.func55, Tryz.ntmps55
 go_upto_region 1 with (fail)
 try rw [hW]
 clear hW
 refine wp_region_lit ?_
 refine wpList_load_row rfl 63 _ rfl (w.heap.size) rfl 63 _ (0, 0) _ A_0 Tryz.underlying63 rfl (by kernel_rfl) ?_
 go_wp2_with (fail)
 rename_i hK
 refine (hp (h0.keep q_0)).mono ?_
 rintro e w_1 ⟨rfl, hb⟩
 have q_1 := q_0.trans (hb.mono q_0.size)
 have A_1 := keepHeap hb A_0
 have B_1 := keepHeap hb B_0
 clear A_0 B_0 q_0 hb hp
 cases hpb : peerB p with
 | false =>
  have HF := Lib.hid (clean_p (q := q) hpb)
  clear hpb hq hf hl hD
  go_wp2_with (fail)
  go_ret
  exact ⟨by rw [HF.out]; rfl, q_1⟩
 | true =>
  refine hK _ _ ?_
  clear hK
  refine wpList_runTo rfl _ rfl (.bool false) w_1 (by kernel_rfl) ?_
  refine wpList_runTo rfl _ rfl (.bool false) w_1 (by kernel_rfl) ?_
  refine wpList_load_want (by rfl) 63 _ rfl (w.heap.size + 1) rfl 63 _ (0, 0) _ B_1 Tryz.underlying63 rfl (by kernel_rfl) ?_
  go_wp2_with (fail)
  refine (hq (g0.keep q_1)).mono ?_
  rintro e w_2 ⟨rfl, hb⟩
  have q_2 := q_1.trans (hb.mono q_1.size)
  have A_2 := keepHeap hb A_1
  have B_2 := keepHeap hb B_1
  clear A_1 B_1 hb hq
  cases hqb : peerB q with
  | false =>
   have HF := Lib.hid (clean_q (p := p) hqb)
   clear hpb hqb hf hl hD
   go_wp2_with (fail)
   go_ret
   exact ⟨by rw [HF.out]; rfl, q_2⟩
  | true =>
   have HF := Lib.hid (clean_yes hpb hqb)
   clear hpb hqb
   have r1 := (h0.keep q_2).2.2.2.2.2
   have r2 := (g0.keep q_2).2.2.2.2.2
   have cA := rowCells A_2
   have cB := rowCells B_2
   go_wp2_with (fail)
   refine (hf r1 r2).mono ?_
   rintro e w_3 ⟨rfl, hb⟩
   have q_3 := q_2.trans (hb.mono q_2.size)
   have A_3 := keepHeap hb A_2
   have B_3 := keepHeap hb B_2
   have r1 := r1.keep hb
   have r2 := r2.keep hb
   clear cA cB A_2 B_2 hb hf
   have cA := rowCells A_3
   have cB := rowCells B_3
   generalize firstD p.sums q.sums = D at *
   by_cases e : D = -1
   ·have HF := Lib.hid (HF.out.trans (if_pos e))
    subst e
    clear hD
    have z1 : ((-1 : Int) != -1) = false := by decide
    go_wp2_with (fail)
    refine (hl r1 r2).mono ?_
    rintro e w_4 ⟨rfl, rfl⟩
    go_wp2_with (fail)
    go_ret
    exact ⟨by rw [HF.out]; rfl, q_3⟩
   ·have HF := Lib.hid (HF.out.trans (if_neg e))
    have z1 : ((D : Int) != -1) = true := by simp [e]
    clear hl
    go_wp2_with (fail)
    go_ret
    exact ⟨by rw [HF.out]; rfl, q_3⟩
set_option maxRecDepth 100000 in
set_option maxHeartbeats 8000000 in
theorem cleanUpTo_spec {w : World} {p q : Pr} {vt bl bs bb nl ns nb vu vv vs vtq blq bsq bbq nlq nsq nbq vuq vvq vsq : Value} (h : RdPr w p vt bl bs bb nl ns nb vu vv vs) (hs : p.sane) (hn : p.few) (g : RdPr w q vtq blq bsq bbq nlq nsq nbq vuq vvq vsq) (gs : q.sane) (gn : q.few) :
  Calls Tryz.prog 54 #[.agg (prC p vt bl bs bb nl ns nb vu vv vs), .agg (prC q vtq blq bsq bbq nlq nsq nbq vuq vvq vsq)] w fun e w' => e = .returned (.int .i64 (cleanI p q)) ∧ Below w.heap.size w w' := by
 have h0 := h
 have g0 := g
 have hp := fun {W : World} (h1 : RdPr W p vt bl bs bb nl ns nb vu vv vs) => peerOk_spec h1 hs hn
 have hq := fun {W : World} (h1 : RdPr W q vtq blq bsq bbq nlq nsq nbq vuq vvq vsq) => peerOk_spec h1 gs gn
 have hf := fun {W : World} (h1 : RdI W vs p.sums) (h2 : RdI W vsq q.sums) => first_specB h1 h2 hn.2.2.2.2.2 gn.2.2.2.2.2
 have hl := fun {W : World} (h1 : RdI W vs p.sums) (h2 : RdI W vsq q.sums) => last_impl h1 h2 hn.2.2.2.2.2 gn.2.2.2.2.2
 have hD := firstD_range (xs := p.sums) (ys := q.sums) hn.2.2.2.2.2
 have hx := hn.2.2.2.2.2
 have hy := gn.2.2.2.2.2
 obtain ⟨W0, hW, A_0, B_0, q_0, -⟩ := rows2 w #[Value.int .i64 p.me, .int .i64 p.delay, .int .i64 p.ahead, .int .i64 p.seed, vt, bl, .int .i64 p.base.tick, .int .i64 p.base.seed, bs, bb, nl, .int .i64 p.now.tick, .int .i64 p.now.seed, ns, nb, vu, vv, vs, .int .i64 p.fault.tick, .int .i64 p.fault.player, .int .i64 p.fault.add, .int .i64 p.rolls, .int .i64 p.again] #[Value.int .i64 q.me, .int .i64 q.delay, .int .i64 q.ahead, .int .i64 q.seed, vtq, blq, .int .i64 q.base.tick, .int .i64 q.base.seed, bsq, bbq, nlq, .int .i64 q.now.tick, .int .i64 q.now.seed, nsq, nbq, vuq, vvq, vsq, .int .i64 q.fault.tick, .int .i64 q.fault.player, .int .i64 q.fault.add, .int .i64 q.rolls, .int .i64 q.again] 63 63
 unfold prC at hp hq ⊢
 go_enter Tryz.func54, Tryz.ntmps54
 go_upto_region 1 with (fail)
 try rw [hW]
 clear hW
 refine wp_region_lit ?_
 refine wpList_load_row rfl 63 _ rfl (w.heap.size) rfl 63 _ (0, 0) _ A_0 Tryz.underlying63 rfl (by kernel_rfl) ?_
 go_wp2_with (fail)
 rename_i hK
 refine (hp (h0.keep q_0)).mono ?_
 rintro e w_1 ⟨rfl, hb⟩
 have q_1 := q_0.trans (hb.mono q_0.size)
 have A_1 := keepHeap hb A_0
 have B_1 := keepHeap hb B_0
 clear A_0 B_0 q_0 hb hp
 cases hpb : peerB p with
 | false =>
  have HF := Lib.hid (clean_p (q := q) hpb)
  clear hpb hq hf hl hD
  go_wp2_with (fail)
  go_ret
  exact ⟨by rw [HF.out]; rfl, q_1⟩
 | true =>
  refine hK _ _ ?_
  clear hK
  refine wpList_runTo rfl _ rfl (.bool false) w_1 (by kernel_rfl) ?_
  refine wpList_runTo rfl _ rfl (.bool false) w_1 (by kernel_rfl) ?_
  refine wpList_load_want (by rfl) 63 _ rfl (w.heap.size + 1) rfl 63 _ (0, 0) _ B_1 Tryz.underlying63 rfl (by kernel_rfl) ?_
  go_wp2_with (fail)
  refine (hq (g0.keep q_1)).mono ?_
  rintro e w_2 ⟨rfl, hb⟩
  have q_2 := q_1.trans (hb.mono q_1.size)
  have A_2 := keepHeap hb A_1
  have B_2 := keepHeap hb B_1
  clear A_1 B_1 hb hq
  cases hqb : peerB q with
  | false =>
   have HF := Lib.hid (clean_q (p := p) hqb)
   clear hpb hqb hf hl hD
   go_wp2_with (fail)
   go_ret
   exact ⟨by rw [HF.out]; rfl, q_2⟩
  | true =>
   have HF := Lib.hid (clean_yes hpb hqb)
   clear hpb hqb
   have r1 := (h0.keep q_2).2.2.2.2.2
   have r2 := (g0.keep q_2).2.2.2.2.2
   have cA := rowCells A_2
   have cB := rowCells B_2
   go_wp2_with (fail)
   refine (hf r1 r2).mono ?_
   rintro e w_3 ⟨rfl, hb⟩
   have q_3 := q_2.trans (hb.mono q_2.size)
   have A_3 := keepHeap hb A_2
   have B_3 := keepHeap hb B_2
   have r1 := r1.keep hb
   have r2 := r2.keep hb
   clear cA cB A_2 B_2 hb hf
   have cA := rowCells A_3
   have cB := rowCells B_3
   generalize firstD p.sums q.sums = D at *
   by_cases e : D = -1
   ·have HF := Lib.hid (HF.out.trans (if_pos e))
    subst e
    clear hD
    have z1 : decide ((0 : Int) ≤ -1) = false := by decide
    obtain ⟨a1, c1, rfl, -⟩ := id r1
    obtain ⟨a2, c2, rfl, -⟩ := id r2
    have h1 : (p.sums.length : Int) ≤ 1048576 := by omega
    have h2 : (q.sums.length : Int) ≤ 1048576 := by omega
    by_cases hle : p.sums.length ≤ q.sums.length
    ·have HL : Hid (lastI p.sums q.sums = (p.sums.length : Int) - 1) := Lib.hid (by unfold lastI; rw [if_pos hle])
     have hm : min (p.sums.length : Int) (q.sums.length : Int) = (p.sums.length : Int) := by omega
     have hm2 : min p.sums.length q.sums.length = p.sums.length := by omega
     have hnl : ¬ q.sums.length < p.sums.length := by omega
     go_wp2_with (fail)
     go_ret
     exact ⟨by rw [HF.out, HL.out]; rfl, q_3⟩
    ·have HL : Hid (lastI p.sums q.sums = (q.sums.length : Int) - 1) := Lib.hid (by unfold lastI; rw [if_neg hle])
     have hm : min (p.sums.length : Int) (q.sums.length : Int) = (q.sums.length : Int) := by omega
     have hm2 : min p.sums.length q.sums.length = q.sums.length := by omega
     have hnl : q.sums.length < p.sums.length := by omega
     go_wp2_with (fail)
     go_ret
     exact ⟨by rw [HF.out, HL.out]; rfl, q_3⟩
   ·have HF := Lib.hid (HF.out.trans (if_neg e))
    have z1 : decide ((0 : Int) ≤ D) = true := by simp; omega
    clear hl
    go_wp2_with (fail)
    go_ret
    exact ⟨by rw [HF.out]; rfl, q_3⟩
set_option maxRecDepth 100000 in
set_option maxHeartbeats 16000000 in
theorem lawCleanUpTo {w : World} (p : Pr) (vt bl bs bb nl ns nb vu vv vs : Value) (h : RdPr w p vt bl bs bb nl ns nb vu vv vs) (hs : p.sane) (q : Pr) (vtq blq bsq bbq nlq nsq nbq vuq vvq vsq : Value) (g : RdPr w q vtq blq bsq bbq nlq nsq nbq vuq vvq vsq) (gs : q.sane) :
  Calls Tryz.prog 10 #[.agg (prC p vt bl bs bb nl ns nb vu vv vs), .agg (prC q vtq blq bsq bbq nlq nsq nbq vuq vvq vsq)] w fun e w' => e = .returned (.bool true) ∧ Below w.heap.size w w' := by
 have h0 := h
 have g0 := g
 obtain ⟨a0, c0, rfl, -⟩ := id h.1
 obtain ⟨a1, c1, rfl, -⟩ := id h.2.1.1
 obtain ⟨a2, c2, rfl, -⟩ := id h.2.1.2.1
 obtain ⟨a3, c3, rfl, -⟩ := id h.2.1.2.2
 obtain ⟨a4, c4, rfl, -⟩ := id h.2.2.1.1
 obtain ⟨a5, c5, rfl, -⟩ := id h.2.2.1.2.1
 obtain ⟨a6, c6, rfl, -⟩ := id h.2.2.1.2.2
 obtain ⟨a7, c7, rfl, -⟩ := id h.2.2.2.1
 obtain ⟨a8, c8, rfl, -⟩ := id h.2.2.2.2.1
 obtain ⟨a9, c9, rfl, -⟩ := id h.2.2.2.2.2
 obtain ⟨a0q, c0q, rfl, -⟩ := id g.1
 obtain ⟨a1q, c1q, rfl, -⟩ := id g.2.1.1
 obtain ⟨a2q, c2q, rfl, -⟩ := id g.2.1.2.1
 obtain ⟨a3q, c3q, rfl, -⟩ := id g.2.1.2.2
 obtain ⟨a4q, c4q, rfl, -⟩ := id g.2.2.1.1
 obtain ⟨a5q, c5q, rfl, -⟩ := id g.2.2.1.2.1
 obtain ⟨a6q, c6q, rfl, -⟩ := id g.2.2.1.2.2
 obtain ⟨a7q, c7q, rfl, -⟩ := id g.2.2.2.1
 obtain ⟨a8q, c8q, rfl, -⟩ := id g.2.2.2.2.1
 obtain ⟨a9q, c9q, rfl, -⟩ := id g.2.2.2.2.2
 obtain ⟨w_1, hW, A_1, B_1, q0_1, -⟩ := rows2 w #[Value.int .i64 p.me, .int .i64 p.delay, .int .i64 p.ahead, .int .i64 p.seed, (.slice a0 p.tracks.length c0), (.slice a1 p.base.rows.length c1), .int .i64 p.base.tick, .int .i64 p.base.seed, (.slice a2 p.base.scores.length c2), (.slice a3 p.base.bods.length c3), (.slice a4 p.now.rows.length c4), .int .i64 p.now.tick, .int .i64 p.now.seed, (.slice a5 p.now.scores.length c5), (.slice a6 p.now.bods.length c6), (.slice a7 p.used.length c7), (.slice a8 p.saves.length c8), (.slice a9 p.sums.length c9), .int .i64 p.fault.tick, .int .i64 p.fault.player, .int .i64 p.fault.add, .int .i64 p.rolls, .int .i64 p.again] #[Value.int .i64 q.me, .int .i64 q.delay, .int .i64 q.ahead, .int .i64 q.seed, (.slice a0q q.tracks.length c0q), (.slice a1q q.base.rows.length c1q), .int .i64 q.base.tick, .int .i64 q.base.seed, (.slice a2q q.base.scores.length c2q), (.slice a3q q.base.bods.length c3q), (.slice a4q q.now.rows.length c4q), .int .i64 q.now.tick, .int .i64 q.now.seed, (.slice a5q q.now.scores.length c5q), (.slice a6q q.now.bods.length c6q), (.slice a7q q.used.length c7q), (.slice a8q q.saves.length c8q), (.slice a9q q.sums.length c9q), .int .i64 q.fault.tick, .int .i64 q.fault.player, .int .i64 q.fault.add, .int .i64 q.rolls, .int .i64 q.again] 75 75
 unfold prC
 go_enter Tryz.func10, Tryz.ntmps10
 go_upto_region 2 with (fail)
 try rw [hW]
 clear hW
 refine wp_region_lit ?_
 refine wpList_load_row rfl 75 _ rfl (w.heap.size) rfl 75 _ (0, 0) _ A_1 Tryz.underlying75 rfl (by kernel_rfl) ?_
 go_wp2_with (fail)
 refine (szPeer_any (h0.keep q0_1) hs 1048576 (by omega) (by omega)).mono ?_
 rintro e w_2 ⟨r, rfl, hr, hb_2⟩
 have q0_2 := q0_1.trans (hb_2.mono q0_1.size)
 have A_2 := keepHeap hb_2 A_1
 have B_2 := keepHeap hb_2 B_1
 clear q0_1 A_1 B_1 hb_2
 rcases hr with rfl | ⟨hr0, hr1, hn⟩
 ·go_wp2_with (fail)
  go_ret
  exact ⟨rfl, q0_2⟩
 have zr : decide (r < 0) = false := by simpa using hr0
 go_upto_region 5 with (fail)
 refine wp_region_lit ?_
 refine wpList_load_row rfl 75 _ rfl (w.heap.size + 1) rfl 75 _ (0, 0) _ B_2 Tryz.underlying75 rfl (by kernel_rfl) ?_
 go_wp2_with (fail)
 refine (szPeer_any (g0.keep q0_2) gs r hr0 hr1).mono ?_
 rintro e w_3 ⟨r2, rfl, hr2, hb_3⟩
 have q0_3 := q0_2.trans (hb_3.mono q0_2.size)
 have A_3 := keepHeap hb_3 A_2
 have B_3 := keepHeap hb_3 B_2
 clear q0_2 A_2 B_2 hb_3
 rcases hr2 with rfl | ⟨hr20, hr21, gn⟩
 ·go_wp2_with (fail)
  go_ret
  exact ⟨rfl, q0_3⟩
 have zr2 : decide (r2 < 0) = false := by simpa using hr20
 have hspec := fun {W : World} {vt bl bs bb nl ns nb vu vv vs vtq blq bsq bbq nlq nsq nbq vuq vvq vsq : Value} (h1 : RdPr W p vt bl bs bb nl ns nb vu vv vs) (h2 : RdPr W q vtq blq bsq bbq nlq nsq nbq vuq vvq vsq) => cleanUpTo_spec h1 hs hn h2 gs gn
 have himpl := fun {W : World} {vt bl bs bb nl ns nb vu vv vs vtq blq bsq bbq nlq nsq nbq vuq vvq vsq : Value} (h1 : RdPr W p vt bl bs bb nl ns nb vu vv vs) (h2 : RdPr W q vtq blq bsq bbq nlq nsq nbq vuq vvq vsq) => cleanUpTo_impl h1 hs hn h2 gs gn
 have heq := fun {W : World} {vt bl bs bb nl ns nb vu vv vs vt' bl' bs' bb' nl' ns' nb' vu' vv' vs' : Value} (h1 : RdPr W p vt bl bs bb nl ns nb vu vv vs) (h2 : RdPr W p vt' bl' bs' bb' nl' ns' nb' vu' vv' vs') => eqPeer_same h1 h2 hn
 have heq2 := fun {W : World} {vt bl bs bb nl ns nb vu vv vs vt' bl' bs' bb' nl' ns' nb' vu' vv' vs' : Value} (h1 : RdPr W q vt bl bs bb nl ns nb vu vv vs) (h2 : RdPr W q vt' bl' bs' bb' nl' ns' nb' vu' vv' vs') => eqPeer_same h1 h2 gn
 have hto := fun {W : World} (h1 : RdPr W p (.slice a0 p.tracks.length c0) (.slice a1 p.base.rows.length c1) (.slice a2 p.base.scores.length c2) (.slice a3 p.base.bods.length c3) (.slice a4 p.now.rows.length c4) (.slice a5 p.now.scores.length c5) (.slice a6 p.now.bods.length c6) (.slice a7 p.used.length c7) (.slice a8 p.saves.length c8) (.slice a9 p.sums.length c9)) => toPeer_any h1 hn
 have hto2 := fun {W : World} (h1 : RdPr W q (.slice a0q q.tracks.length c0q) (.slice a1q q.base.rows.length c1q) (.slice a2q q.base.scores.length c2q) (.slice a3q q.base.bods.length c3q) (.slice a4q q.now.rows.length c4q) (.slice a5q q.now.scores.length c5q) (.slice a6q q.now.bods.length c6q) (.slice a7q q.used.length c7q) (.slice a8q q.saves.length c8q) (.slice a9q q.sums.length c9q)) => toPeer_any h1 gn
 unfold prC at hspec himpl heq heq2 hto hto2
 generalize cleanI p q = t at hspec himpl
 clear hr20 hr21 hr0 hr1
 go_upto_region 8 with (fail)
 have bs_0 : Below w_3.heap.size w_3 w_3.drew := belowDrew w_3 1
 refine wp_region_held_drew (S := fun w' => w'.heap[w.heap.size]? = some (.cells #[Value.int .i64 p.me, .int .i64 p.delay, .int .i64 p.ahead, .int .i64 p.seed, (.slice a0 p.tracks.length c0), (.slice a1 p.base.rows.length c1), .int .i64 p.base.tick, .int .i64 p.base.seed, (.slice a2 p.base.scores.length c2), (.slice a3 p.base.bods.length c3), (.slice a4 p.now.rows.length c4), .int .i64 p.now.tick, .int .i64 p.now.seed, (.slice a5 p.now.scores.length c5), (.slice a6 p.now.bods.length c6), (.slice a7 p.used.length c7), (.slice a8 p.saves.length c8), (.slice a9 p.sums.length c9), .int .i64 p.fault.tick, .int .i64 p.fault.player, .int .i64 p.fault.add, .int .i64 p.rolls, .int .i64 p.again] 75 (0, 0)) ∧ w'.heap[w.heap.size + 1]? = some (.cells #[Value.int .i64 q.me, .int .i64 q.delay, .int .i64 q.ahead, .int .i64 q.seed, (.slice a0q q.tracks.length c0q), (.slice a1q q.base.rows.length c1q), .int .i64 q.base.tick, .int .i64 q.base.seed, (.slice a2q q.base.scores.length c2q), (.slice a3q q.base.bods.length c3q), (.slice a4q q.now.rows.length c4q), .int .i64 q.now.tick, .int .i64 q.now.seed, (.slice a5q q.now.scores.length c5q), (.slice a6q q.now.bods.length c6q), (.slice a7q q.used.length c7q), (.slice a8q q.saves.length c8q), (.slice a9q q.sums.length c9q), .int .i64 q.fault.tick, .int .i64 q.fault.player, .int .i64 q.fault.add, .int .i64 q.rolls, .int .i64 q.again] 75 (0, 0))) (by kernel_rfl) ?_ (fun hHeld => ?_)
 ·exact ⟨keepHeap bs_0 A_3, keepHeap bs_0 B_3⟩
 refine take_on (i := 0) (v := .agg #[Value.int .i64 p.me, .int .i64 p.delay, .int .i64 p.ahead, .int .i64 p.seed, (.slice a0 p.tracks.length c0), (.slice a1 p.base.rows.length c1), .int .i64 p.base.tick, .int .i64 p.base.seed, (.slice a2 p.base.scores.length c2), (.slice a3 p.base.bods.length c3), (.slice a4 p.now.rows.length c4), .int .i64 p.now.tick, .int .i64 p.now.seed, (.slice a5 p.now.scores.length c5), (.slice a6 p.now.bods.length c6), (.slice a7 p.used.length c7), (.slice a8 p.saves.length c8), (.slice a9 p.sums.length c9), .int .i64 p.fault.tick, .int .i64 p.fault.player, .int .i64 p.fault.add, .int .i64 p.rolls, .int .i64 p.again]) (some 20) rfl (by kernel_rfl) (by kernel_rfl) (by kernel_rfl) rfl (fun _ _ _ h => h) (by rfl) (fun W hW => exec_load_row 75 _ rfl (w.heap.size) rfl 75 _ (0, 0) _ hW.1 Tryz.underlying75 rfl (by kernel_rfl)) (by assumption) ?_
 (try simp only [zP, zA, zB, zC])
 refine take_on (i := 2) (v := .agg #[Value.int .i64 q.me, .int .i64 q.delay, .int .i64 q.ahead, .int .i64 q.seed, (.slice a0q q.tracks.length c0q), (.slice a1q q.base.rows.length c1q), .int .i64 q.base.tick, .int .i64 q.base.seed, (.slice a2q q.base.scores.length c2q), (.slice a3q q.base.bods.length c3q), (.slice a4q q.now.rows.length c4q), .int .i64 q.now.tick, .int .i64 q.now.seed, (.slice a5q q.now.scores.length c5q), (.slice a6q q.now.bods.length c6q), (.slice a7q q.used.length c7q), (.slice a8q q.saves.length c8q), (.slice a9q q.sums.length c9q), .int .i64 q.fault.tick, .int .i64 q.fault.player, .int .i64 q.fault.add, .int .i64 q.rolls, .int .i64 q.again]) (some 22) rfl (by kernel_rfl) (by kernel_rfl) (by kernel_rfl) rfl (fun _ _ _ h => h) (by rfl) (fun W hW => exec_load_row 75 _ rfl (w.heap.size + 1) rfl 75 _ (0, 0) _ hW.2 Tryz.underlying75 rfl (by kernel_rfl)) (by assumption) ?_
 (try simp only [zP, zA, zB, zC])
 refine wpAnyH_ready (rs := [1]) (by kernel_rfl) (by simp) ?_
 refine AllReadyH.cons rfl (fun K hK => ?_) AllReadyH.nil
 go_simp
 refine (hto (h0.keep (q0_3.trans (bs_0.mono q0_3.size)))).mono ?_
 rintro e wd_1 ⟨u0, u1, u2, u3, u4, u5, u6, u7, u8, u9, rfl, rp, hbd_1⟩
 have bs_1 := bs_0.trans (hbd_1.mono bs_0.size)
 unfold prC
 (try go_wp2_with (fail))
 refine hK.out _ _ ?_ (fun hHeld => ?_)
 ·exact ⟨keepHeap bs_1 A_3, keepHeap bs_1 B_3⟩
 clear hK K
 (try simp only [zP, zA, zB, zC])
 refine wpAnyH_ready (rs := [3]) (by kernel_rfl) (by simp) ?_
 refine AllReadyH.cons rfl (fun K hK => ?_) AllReadyH.nil
 go_simp
 refine (hto2 (g0.keep (q0_3.trans (bs_1.mono q0_3.size)))).mono ?_
 rintro e wd_2 ⟨t0, t1, t2, t3, t4, t5, t6, t7, t8, t9, rfl, rq, hbd_2⟩
 have bs_2 := bs_1.trans (hbd_2.mono bs_1.size)
 have rp := rp.keep hbd_2
 unfold prC
 (try go_wp2_with (fail))
 refine hK.out _ _ ?_ (fun hHeld => ?_)
 ·exact ⟨keepHeap bs_2 A_3, keepHeap bs_2 B_3⟩
 clear hK K
 (try simp only [zP, zA, zB, zC])
 refine wpAnyH_ready (rs := [4]) (by kernel_rfl) (by simp) ?_
 refine AllReadyH.cons rfl (fun K hK => ?_) AllReadyH.nil
 go_simp
 refine (hspec rp rq).mono ?_
 rintro e wd_3 ⟨rfl, hbd_3⟩
 have bs_3 := bs_2.trans (hbd_3.mono bs_2.size)
 (try go_wp2_with (fail))
 refine hK.out _ _ ?_ (fun hHeld => ?_)
 ·exact ⟨keepHeap bs_3 A_3, keepHeap bs_3 B_3⟩
 clear hK K
 (try simp only [zP, zA, zB, zC])
 refine tk 5 6 ?_
 (try simp only [zP, zA, zB, zC])
 refine wpAnyH_done (by kernel_rfl) ?_ _
 have q0_4 := q0_3.trans (bs_3.mono q0_3.size)
 have A_4 := keepHeap bs_3 A_3
 have B_4 := keepHeap bs_3 B_3
 clear rp rq bs_0 bs_1 bs_2 bs_3 A_3 B_3
 go_upto_region 9 with (fail)
 refine wp_region_lit ?_
 refine wpList_load_row rfl 75 _ rfl (w.heap.size) rfl 75 _ (0, 0) _ A_4 Tryz.underlying75 rfl (by kernel_rfl) ?_
 go_wp2_with (fail)
 rename_i hK6
 refine (hto (h0.keep q0_4)).mono ?_
 rintro e w_5 ⟨u0, u1, u2, u3, u4, u5, u6, u7, u8, u9, rfl, o2, hb_5⟩
 have q0_5 := q0_4.trans (hb_5.mono q0_4.size)
 have A_5 := keepHeap hb_5 A_4
 have B_5 := keepHeap hb_5 B_4
 have rd2 := o2
 obtain ⟨a02, c02, rfl, -⟩ := id rd2.1
 obtain ⟨a12, c12, rfl, -⟩ := id rd2.2.1.1
 obtain ⟨a22, c22, rfl, -⟩ := id rd2.2.1.2.1
 obtain ⟨a32, c32, rfl, -⟩ := id rd2.2.1.2.2
 obtain ⟨a42, c42, rfl, -⟩ := id rd2.2.2.1.1
 obtain ⟨a52, c52, rfl, -⟩ := id rd2.2.2.1.2.1
 obtain ⟨a62, c62, rfl, -⟩ := id rd2.2.2.1.2.2
 obtain ⟨a72, c72, rfl, -⟩ := id rd2.2.2.2.1
 obtain ⟨a82, c82, rfl, -⟩ := id rd2.2.2.2.2.1
 obtain ⟨a92, c92, rfl, -⟩ := id rd2.2.2.2.2.2
 clear rd2
 unfold prC
 obtain ⟨w_6, hw_6, X_6, hb_6⟩ : ∃ W, w_5.alloc (.cells #[Value.int .i64 p.me, .int .i64 p.delay, .int .i64 p.ahead, .int .i64 p.seed, (.slice a02 p.tracks.length c02), (.slice a12 p.base.rows.length c12), .int .i64 p.base.tick, .int .i64 p.base.seed, (.slice a22 p.base.scores.length c22), (.slice a32 p.base.bods.length c32), (.slice a42 p.now.rows.length c42), .int .i64 p.now.tick, .int .i64 p.now.seed, (.slice a52 p.now.scores.length c52), (.slice a62 p.now.bods.length c62), (.slice a72 p.used.length c72), (.slice a82 p.saves.length c82), (.slice a92 p.sums.length c92), .int .i64 p.fault.tick, .int .i64 p.fault.player, .int .i64 p.fault.add, .int .i64 p.rolls, .int .i64 p.again] 63) = W ∧ W.heap[w_5.heap.size]? = some (.cells #[Value.int .i64 p.me, .int .i64 p.delay, .int .i64 p.ahead, .int .i64 p.seed, (.slice a02 p.tracks.length c02), (.slice a12 p.base.rows.length c12), .int .i64 p.base.tick, .int .i64 p.base.seed, (.slice a22 p.base.scores.length c22), (.slice a32 p.base.bods.length c32), (.slice a42 p.now.rows.length c42), .int .i64 p.now.tick, .int .i64 p.now.seed, (.slice a52 p.now.scores.length c52), (.slice a62 p.now.bods.length c62), (.slice a72 p.used.length c72), (.slice a82 p.saves.length c82), (.slice a92 p.sums.length c92), .int .i64 p.fault.tick, .int .i64 p.fault.player, .int .i64 p.fault.add, .int .i64 p.rolls, .int .i64 p.again] 63 (0, 0)) ∧ Below w_5.heap.size w_5 W := ⟨_, rfl, heap_alloc_new _ _, below1 _ _⟩
 have q0_6 := q0_5.trans (hb_6.mono q0_5.size)
 have A_6 := keepHeap hb_6 A_5
 have B_6 := keepHeap hb_6 B_5
 have o2 := o2.keep hb_6
 refine hK6 _ _ ?_
 clear hK6
 refine wpList_runTo rfl _ rfl (.pointer (some ⟨w_5.heap.size, 0, none⟩)) (w_5.alloc (.cells #[Value.int .i64 0, .int .i64 0, .int .i64 0, .int .i64 0, (.slice none 0 0), (.slice none 0 0), .int .i64 0, .int .i64 0, (.slice none 0 0), (.slice none 0 0), (.slice none 0 0), .int .i64 0, .int .i64 0, (.slice none 0 0), (.slice none 0 0), (.slice none 0 0), (.slice none 0 0), (.slice none 0 0), .int .i64 0, .int .i64 0, .int .i64 0, .int .i64 0, .int .i64 0] 63)) (by kernel_rfl) ?_
 refine wpList_store_row rfl 63 _ _ rfl w_5.heap.size #[Value.int .i64 p.me, .int .i64 p.delay, .int .i64 p.ahead, .int .i64 p.seed, (.slice a02 p.tracks.length c02), (.slice a12 p.base.rows.length c12), .int .i64 p.base.tick, .int .i64 p.base.seed, (.slice a22 p.base.scores.length c22), (.slice a32 p.base.bods.length c32), (.slice a42 p.now.rows.length c42), .int .i64 p.now.tick, .int .i64 p.now.seed, (.slice a52 p.now.scores.length c52), (.slice a62 p.now.bods.length c62), (.slice a72 p.used.length c72), (.slice a82 p.saves.length c82), (.slice a92 p.sums.length c92), .int .i64 p.fault.tick, .int .i64 p.fault.player, .int .i64 p.fault.add, .int .i64 p.rolls, .int .i64 p.again] rfl rfl 63 _ (heap_alloc_new _ _) (by kernel_rfl) rfl (by simp [Value.oneCell']) ?_
 rw [World.setRow_alloc_new, hw_6]
 clear hw_6
 go_upto_region 10 with (fail)
 refine wp_region_lit ?_
 refine wpList_load_row rfl 75 _ rfl (w.heap.size + 1) rfl 75 _ (0, 0) _ B_6 Tryz.underlying75 rfl (by kernel_rfl) ?_
 go_wp2_with (fail)
 rename_i hK6
 refine (hto2 (g0.keep q0_6)).mono ?_
 rintro e w_7 ⟨u0, u1, u2, u3, u4, u5, u6, u7, u8, u9, rfl, o3, hb_7⟩
 have q0_7 := q0_6.trans (hb_7.mono q0_6.size)
 have A_7 := keepHeap hb_7 A_6
 have B_7 := keepHeap hb_7 B_6
 have X_7 := keepHeap hb_7 X_6
 have rd3 := o3
 obtain ⟨a03, c03, rfl, -⟩ := id rd3.1
 obtain ⟨a13, c13, rfl, -⟩ := id rd3.2.1.1
 obtain ⟨a23, c23, rfl, -⟩ := id rd3.2.1.2.1
 obtain ⟨a33, c33, rfl, -⟩ := id rd3.2.1.2.2
 obtain ⟨a43, c43, rfl, -⟩ := id rd3.2.2.1.1
 obtain ⟨a53, c53, rfl, -⟩ := id rd3.2.2.1.2.1
 obtain ⟨a63, c63, rfl, -⟩ := id rd3.2.2.1.2.2
 obtain ⟨a73, c73, rfl, -⟩ := id rd3.2.2.2.1
 obtain ⟨a83, c83, rfl, -⟩ := id rd3.2.2.2.2.1
 obtain ⟨a93, c93, rfl, -⟩ := id rd3.2.2.2.2.2
 clear rd3
 unfold prC
 obtain ⟨w_8, hw_8, Y_8, hb_8⟩ : ∃ W, w_7.alloc (.cells #[Value.int .i64 q.me, .int .i64 q.delay, .int .i64 q.ahead, .int .i64 q.seed, (.slice a03 q.tracks.length c03), (.slice a13 q.base.rows.length c13), .int .i64 q.base.tick, .int .i64 q.base.seed, (.slice a23 q.base.scores.length c23), (.slice a33 q.base.bods.length c33), (.slice a43 q.now.rows.length c43), .int .i64 q.now.tick, .int .i64 q.now.seed, (.slice a53 q.now.scores.length c53), (.slice a63 q.now.bods.length c63), (.slice a73 q.used.length c73), (.slice a83 q.saves.length c83), (.slice a93 q.sums.length c93), .int .i64 q.fault.tick, .int .i64 q.fault.player, .int .i64 q.fault.add, .int .i64 q.rolls, .int .i64 q.again] 63) = W ∧ W.heap[w_7.heap.size]? = some (.cells #[Value.int .i64 q.me, .int .i64 q.delay, .int .i64 q.ahead, .int .i64 q.seed, (.slice a03 q.tracks.length c03), (.slice a13 q.base.rows.length c13), .int .i64 q.base.tick, .int .i64 q.base.seed, (.slice a23 q.base.scores.length c23), (.slice a33 q.base.bods.length c33), (.slice a43 q.now.rows.length c43), .int .i64 q.now.tick, .int .i64 q.now.seed, (.slice a53 q.now.scores.length c53), (.slice a63 q.now.bods.length c63), (.slice a73 q.used.length c73), (.slice a83 q.saves.length c83), (.slice a93 q.sums.length c93), .int .i64 q.fault.tick, .int .i64 q.fault.player, .int .i64 q.fault.add, .int .i64 q.rolls, .int .i64 q.again] 63 (0, 0)) ∧ Below w_7.heap.size w_7 W := ⟨_, rfl, heap_alloc_new _ _, below1 _ _⟩
 have q0_8 := q0_7.trans (hb_8.mono q0_7.size)
 have A_8 := keepHeap hb_8 A_7
 have B_8 := keepHeap hb_8 B_7
 have X_8 := keepHeap hb_8 X_7
 have o3 := o3.keep hb_8
 refine hK6 _ _ ?_
 clear hK6
 refine wpList_runTo rfl _ rfl (.pointer (some ⟨w_7.heap.size, 0, none⟩)) (w_7.alloc (.cells #[Value.int .i64 0, .int .i64 0, .int .i64 0, .int .i64 0, (.slice none 0 0), (.slice none 0 0), .int .i64 0, .int .i64 0, (.slice none 0 0), (.slice none 0 0), (.slice none 0 0), .int .i64 0, .int .i64 0, (.slice none 0 0), (.slice none 0 0), (.slice none 0 0), (.slice none 0 0), (.slice none 0 0), .int .i64 0, .int .i64 0, .int .i64 0, .int .i64 0, .int .i64 0] 63)) (by kernel_rfl) ?_
 refine wpList_store_row rfl 63 _ _ rfl w_7.heap.size #[Value.int .i64 q.me, .int .i64 q.delay, .int .i64 q.ahead, .int .i64 q.seed, (.slice a03 q.tracks.length c03), (.slice a13 q.base.rows.length c13), .int .i64 q.base.tick, .int .i64 q.base.seed, (.slice a23 q.base.scores.length c23), (.slice a33 q.base.bods.length c33), (.slice a43 q.now.rows.length c43), .int .i64 q.now.tick, .int .i64 q.now.seed, (.slice a53 q.now.scores.length c53), (.slice a63 q.now.bods.length c63), (.slice a73 q.used.length c73), (.slice a83 q.saves.length c83), (.slice a93 q.sums.length c93), .int .i64 q.fault.tick, .int .i64 q.fault.player, .int .i64 q.fault.add, .int .i64 q.rolls, .int .i64 q.again] rfl rfl 63 _ (heap_alloc_new _ _) (by kernel_rfl) rfl (by simp [Value.oneCell']) ?_
 rw [World.setRow_alloc_new, hw_8]
 clear hw_8
 have o2 := (o2.keep hb_7).keep hb_8
 go_upto_region 11 with (fail)
 refine wp_region_lit ?_
 refine wpList_load_row rfl 63 _ rfl (w_5.heap.size) rfl 63 _ (0, 0) _ X_8 Tryz.underlying63 rfl (by kernel_rfl) ?_
 refine wpList_load_row rfl 63 _ rfl (w_7.heap.size) rfl 63 _ (0, 0) _ Y_8 Tryz.underlying63 rfl (by kernel_rfl) ?_
 go_wp2_with (fail)
 refine (himpl o2 o3).mono ?_
 rintro e w_9 ⟨rfl, hb_9⟩
 have q0_9 := q0_8.trans (hb_9.mono q0_8.size)
 have A_9 := keepHeap hb_9 A_8
 have B_9 := keepHeap hb_9 B_8
 have X_9 := keepHeap hb_9 X_8
 have Y_9 := keepHeap hb_9 Y_8
 have o2 := o2.keep hb_9
 have o3 := o3.keep hb_9
 go_upto_region 14 with (fail)
 have bs_0 : Below w_9.heap.size w_9 w_9.drew := belowDrew w_9 1
 refine wp_region_held_drew (S := fun w' => w'.heap[w.heap.size]? = some (.cells #[Value.int .i64 p.me, .int .i64 p.delay, .int .i64 p.ahead, .int .i64 p.seed, (.slice a0 p.tracks.length c0), (.slice a1 p.base.rows.length c1), .int .i64 p.base.tick, .int .i64 p.base.seed, (.slice a2 p.base.scores.length c2), (.slice a3 p.base.bods.length c3), (.slice a4 p.now.rows.length c4), .int .i64 p.now.tick, .int .i64 p.now.seed, (.slice a5 p.now.scores.length c5), (.slice a6 p.now.bods.length c6), (.slice a7 p.used.length c7), (.slice a8 p.saves.length c8), (.slice a9 p.sums.length c9), .int .i64 p.fault.tick, .int .i64 p.fault.player, .int .i64 p.fault.add, .int .i64 p.rolls, .int .i64 p.again] 75 (0, 0)) ∧ w'.heap[w_5.heap.size]? = some (.cells #[Value.int .i64 p.me, .int .i64 p.delay, .int .i64 p.ahead, .int .i64 p.seed, (.slice a02 p.tracks.length c02), (.slice a12 p.base.rows.length c12), .int .i64 p.base.tick, .int .i64 p.base.seed, (.slice a22 p.base.scores.length c22), (.slice a32 p.base.bods.length c32), (.slice a42 p.now.rows.length c42), .int .i64 p.now.tick, .int .i64 p.now.seed, (.slice a52 p.now.scores.length c52), (.slice a62 p.now.bods.length c62), (.slice a72 p.used.length c72), (.slice a82 p.saves.length c82), (.slice a92 p.sums.length c92), .int .i64 p.fault.tick, .int .i64 p.fault.player, .int .i64 p.fault.add, .int .i64 p.rolls, .int .i64 p.again] 63 (0, 0))) (by kernel_rfl) ?_ (fun hHeld => ?_)
 ·exact ⟨keepHeap bs_0 A_9, keepHeap bs_0 X_9⟩
 refine take_on (i := 0) (v := .agg #[Value.int .i64 p.me, .int .i64 p.delay, .int .i64 p.ahead, .int .i64 p.seed, (.slice a02 p.tracks.length c02), (.slice a12 p.base.rows.length c12), .int .i64 p.base.tick, .int .i64 p.base.seed, (.slice a22 p.base.scores.length c22), (.slice a32 p.base.bods.length c32), (.slice a42 p.now.rows.length c42), .int .i64 p.now.tick, .int .i64 p.now.seed, (.slice a52 p.now.scores.length c52), (.slice a62 p.now.bods.length c62), (.slice a72 p.used.length c72), (.slice a82 p.saves.length c82), (.slice a92 p.sums.length c92), .int .i64 p.fault.tick, .int .i64 p.fault.player, .int .i64 p.fault.add, .int .i64 p.rolls, .int .i64 p.again]) (some 35) rfl (by kernel_rfl) (by kernel_rfl) (by kernel_rfl) rfl (fun _ _ _ h => h) (by rfl) (fun W hW => exec_load_row 63 _ rfl (w_5.heap.size) rfl 63 _ (0, 0) _ hW.2 Tryz.underlying63 rfl (by kernel_rfl)) (by assumption) ?_
 (try simp only [zP, zA, zB, zC])
 refine take_on (i := 1) (v := .agg #[Value.int .i64 p.me, .int .i64 p.delay, .int .i64 p.ahead, .int .i64 p.seed, (.slice a0 p.tracks.length c0), (.slice a1 p.base.rows.length c1), .int .i64 p.base.tick, .int .i64 p.base.seed, (.slice a2 p.base.scores.length c2), (.slice a3 p.base.bods.length c3), (.slice a4 p.now.rows.length c4), .int .i64 p.now.tick, .int .i64 p.now.seed, (.slice a5 p.now.scores.length c5), (.slice a6 p.now.bods.length c6), (.slice a7 p.used.length c7), (.slice a8 p.saves.length c8), (.slice a9 p.sums.length c9), .int .i64 p.fault.tick, .int .i64 p.fault.player, .int .i64 p.fault.add, .int .i64 p.rolls, .int .i64 p.again]) (some 36) rfl (by kernel_rfl) (by kernel_rfl) (by kernel_rfl) rfl (fun _ _ _ h => h) (by rfl) (fun W hW => exec_load_row 75 _ rfl (w.heap.size) rfl 75 _ (0, 0) _ hW.1 Tryz.underlying75 rfl (by kernel_rfl)) (by assumption) ?_
 (try simp only [zP, zA, zB, zC])
 refine wpAnyH_ready (rs := [2]) (by kernel_rfl) (by simp) ?_
 refine AllReadyH.cons rfl (fun K hK => ?_) AllReadyH.nil
 go_simp
 refine (hto (h0.keep (q0_9.trans (bs_0.mono q0_9.size)))).mono ?_
 rintro e w_10 ⟨u0, u1, u2, u3, u4, u5, u6, u7, u8, u9, rfl, o8, hb_10⟩
 have bs_1 := bs_0.trans (hb_10.mono bs_0.size)
 unfold prC
 (try go_wp2_with (fail))
 refine hK.out _ _ ?_ (fun hHeld => ?_)
 ·exact ⟨keepHeap bs_1 A_9, keepHeap bs_1 X_9⟩
 clear hK K
 (try simp only [zP, zA, zB, zC])
 refine wpAnyH_ready (rs := [3]) (by kernel_rfl) (by simp) ?_
 refine AllReadyH.cons rfl (fun K hK => ?_) AllReadyH.nil
 go_simp
 refine (heq (o2.keep bs_1) o8).mono ?_
 rintro e w_11 ⟨rfl, hb_11⟩
 have bs_2 := bs_1.trans (hb_11.mono bs_1.size)
 (try go_wp2_with (fail))
 refine hK.out _ _ ?_ (fun hHeld => ?_)
 ·exact ⟨keepHeap bs_2 A_9, keepHeap bs_2 X_9⟩
 clear hK K
 (try simp only [zP, zA, zB, zC])
 refine tk 4 39 ?_
 (try simp only [zP, zA, zB, zC])
 refine wpAnyH_done (by kernel_rfl) ?_ _
 have q0_11 := q0_9.trans (bs_2.mono q0_9.size)
 have A_11 := keepHeap bs_2 A_9
 have B_11 := keepHeap bs_2 B_9
 have X_11 := keepHeap bs_2 X_9
 have Y_11 := keepHeap bs_2 Y_9
 have o3 := o3.keep bs_2
 clear bs_0 bs_1 bs_2 o8
 go_upto_region 16 with (fail)
 have bs_0 : Below w_11.heap.size w_11 w_11.drew := belowDrew w_11 1
 refine wp_region_held_drew (S := fun w' => w'.heap[w.heap.size + 1]? = some (.cells #[Value.int .i64 q.me, .int .i64 q.delay, .int .i64 q.ahead, .int .i64 q.seed, (.slice a0q q.tracks.length c0q), (.slice a1q q.base.rows.length c1q), .int .i64 q.base.tick, .int .i64 q.base.seed, (.slice a2q q.base.scores.length c2q), (.slice a3q q.base.bods.length c3q), (.slice a4q q.now.rows.length c4q), .int .i64 q.now.tick, .int .i64 q.now.seed, (.slice a5q q.now.scores.length c5q), (.slice a6q q.now.bods.length c6q), (.slice a7q q.used.length c7q), (.slice a8q q.saves.length c8q), (.slice a9q q.sums.length c9q), .int .i64 q.fault.tick, .int .i64 q.fault.player, .int .i64 q.fault.add, .int .i64 q.rolls, .int .i64 q.again] 75 (0, 0)) ∧ w'.heap[w_7.heap.size]? = some (.cells #[Value.int .i64 q.me, .int .i64 q.delay, .int .i64 q.ahead, .int .i64 q.seed, (.slice a03 q.tracks.length c03), (.slice a13 q.base.rows.length c13), .int .i64 q.base.tick, .int .i64 q.base.seed, (.slice a23 q.base.scores.length c23), (.slice a33 q.base.bods.length c33), (.slice a43 q.now.rows.length c43), .int .i64 q.now.tick, .int .i64 q.now.seed, (.slice a53 q.now.scores.length c53), (.slice a63 q.now.bods.length c63), (.slice a73 q.used.length c73), (.slice a83 q.saves.length c83), (.slice a93 q.sums.length c93), .int .i64 q.fault.tick, .int .i64 q.fault.player, .int .i64 q.fault.add, .int .i64 q.rolls, .int .i64 q.again] 63 (0, 0))) (by kernel_rfl) ?_ (fun hHeld => ?_)
 ·exact ⟨keepHeap bs_0 B_11, keepHeap bs_0 Y_11⟩
 refine take_on (i := 0) (v := .agg #[Value.int .i64 q.me, .int .i64 q.delay, .int .i64 q.ahead, .int .i64 q.seed, (.slice a03 q.tracks.length c03), (.slice a13 q.base.rows.length c13), .int .i64 q.base.tick, .int .i64 q.base.seed, (.slice a23 q.base.scores.length c23), (.slice a33 q.base.bods.length c33), (.slice a43 q.now.rows.length c43), .int .i64 q.now.tick, .int .i64 q.now.seed, (.slice a53 q.now.scores.length c53), (.slice a63 q.now.bods.length c63), (.slice a73 q.used.length c73), (.slice a83 q.saves.length c83), (.slice a93 q.sums.length c93), .int .i64 q.fault.tick, .int .i64 q.fault.player, .int .i64 q.fault.add, .int .i64 q.rolls, .int .i64 q.again]) (some 40) rfl (by kernel_rfl) (by kernel_rfl) (by kernel_rfl) rfl (fun _ _ _ h => h) (by rfl) (fun W hW => exec_load_row 63 _ rfl (w_7.heap.size) rfl 63 _ (0, 0) _ hW.2 Tryz.underlying63 rfl (by kernel_rfl)) (by assumption) ?_
 (try simp only [zP, zA, zB, zC])
 refine take_on (i := 1) (v := .agg #[Value.int .i64 q.me, .int .i64 q.delay, .int .i64 q.ahead, .int .i64 q.seed, (.slice a0q q.tracks.length c0q), (.slice a1q q.base.rows.length c1q), .int .i64 q.base.tick, .int .i64 q.base.seed, (.slice a2q q.base.scores.length c2q), (.slice a3q q.base.bods.length c3q), (.slice a4q q.now.rows.length c4q), .int .i64 q.now.tick, .int .i64 q.now.seed, (.slice a5q q.now.scores.length c5q), (.slice a6q q.now.bods.length c6q), (.slice a7q q.used.length c7q), (.slice a8q q.saves.length c8q), (.slice a9q q.sums.length c9q), .int .i64 q.fault.tick, .int .i64 q.fault.player, .int .i64 q.fault.add, .int .i64 q.rolls, .int .i64 q.again]) (some 41) rfl (by kernel_rfl) (by kernel_rfl) (by kernel_rfl) rfl (fun _ _ _ h => h) (by rfl) (fun W hW => exec_load_row 75 _ rfl (w.heap.size + 1) rfl 75 _ (0, 0) _ hW.1 Tryz.underlying75 rfl (by kernel_rfl)) (by assumption) ?_
 (try simp only [zP, zA, zB, zC])
 refine wpAnyH_ready (rs := [2]) (by kernel_rfl) (by simp) ?_
 refine AllReadyH.cons rfl (fun K hK => ?_) AllReadyH.nil
 go_simp
 refine (hto2 (g0.keep (q0_11.trans (bs_0.mono q0_11.size)))).mono ?_
 rintro e w_12 ⟨u0, u1, u2, u3, u4, u5, u6, u7, u8, u9, rfl, o8, hb_12⟩
 have bs_1 := bs_0.trans (hb_12.mono bs_0.size)
 unfold prC
 (try go_wp2_with (fail))
 refine hK.out _ _ ?_ (fun hHeld => ?_)
 ·exact ⟨keepHeap bs_1 B_11, keepHeap bs_1 Y_11⟩
 clear hK K
 (try simp only [zP, zA, zB, zC])
 refine wpAnyH_ready (rs := [3]) (by kernel_rfl) (by simp) ?_
 refine AllReadyH.cons rfl (fun K hK => ?_) AllReadyH.nil
 go_simp
 refine (heq2 (o3.keep bs_1) o8).mono ?_
 rintro e w_13 ⟨rfl, hb_13⟩
 have bs_2 := bs_1.trans (hb_13.mono bs_1.size)
 (try go_wp2_with (fail))
 refine hK.out _ _ ?_ (fun hHeld => ?_)
 ·exact ⟨keepHeap bs_2 B_11, keepHeap bs_2 Y_11⟩
 clear hK K
 (try simp only [zP, zA, zB, zC])
 refine tk 4 44 ?_
 (try simp only [zP, zA, zB, zC])
 refine wpAnyH_done (by kernel_rfl) ?_ _
 have hend := q0_11.trans (bs_2.mono q0_11.size)
 go_wp2_with (fail)
 go_ret
 exact ⟨rfl, hend⟩
end Go.Proofs.YtnlonkkbjkfkmaaGreatDoor
