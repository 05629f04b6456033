/-
  Texts of this proof: Idl.
-/
import Derived.Test.YtnlonkkbjkfkmaaDoorM45
import Derived.Test.YtnlonkkbjkfkmaaDoorM46
namespace Go.Proofs.YtnlonkkbjkfkmaaDoor
open Go.RowKit
set_option linter.all false
theorem btoi_w (b : Bool) (w : World) : Calls Tryd.prog 12 #[.bool b] w fun e w' => e = .returned (.int .i64 (if b then 1 else 0)) ∧ w = w' := by
 cases b
 ·go_enter Tryd.func12, Tryd.ntmps12
  go_wp2_with (fail)
  go_ret
  exact ⟨rfl, rfl⟩
 ·go_enter Tryd.func12, Tryd.ntmps12
  go_wp2_with (fail)
  go_ret
  exact ⟨rfl, rfl⟩
set_option maxRecDepth 100000 in
set_option maxHeartbeats 8000000 in
theorem lawIdle (a : Option Addr) (len cap : Nat) (zs : List Int) (w : World) (hr : IsRow .u8 w a len cap zs) :
  Calls Tryd.prog 4 #[.slice a len cap] w fun e w' => e = .returned (.bool true) ∧ Below w.heap.size w w' := by
 obtain ⟨hrd, hl⟩ := RdC.of_row hr
 clear hr
 by_cases h : 1048576 < (len : Int)
 ·have b1 : decide (1048576 < (len : Int)) = true := by simpa using h
  go_enter Tryd.func4, Tryd.ntmps4
  go_wp2_with (go_at_call 7; refine (big_any hrd hl).mono ?_; rintro e w' ⟨rfl, rfl⟩)
  go_ret
  exact ⟨rfl, Below.refl _ _⟩
 have b1 : decide (1048576 < (len : Int)) = false := by simpa using h
 go_enter Tryd.func4, Tryd.ntmps4
 go_wp2_with (go_at_call 7; refine (big_any hrd hl).mono ?_; rintro e w' ⟨rfl, rfl⟩)
 refine (drawPlay_any hrd (by omega)).mono ?_
 rintro e w1 ⟨L, n, s, vl, vs, vb, v, X, rfl, rdx, rdr, hb1, hok⟩
 obtain ⟨hnx, hwb⟩ := play_x hok
 have hsn := worldB_sane hwb (by rw [hnx]; exact hok.2.1)
 have hfw := worldB_few hwb
 have hLs : Sane L := hok.2.1
 have h5 : Lv5 L := hok.2.2.2.2.2.2
 have hn14 := hok.2.2.1
 have hI : Idl L n 0 (nwX L n s) := ⟨hwb, by rw [hnx], by rw [hnx]; rfl, by rw [hnx]; simp, [], by rw [hnx, frsS_eq hok.1 (by omega)]; simp [fallN], by simp⟩
 have hxb : Hid ((nwX L n s).bods = frs L n) := Lib.hid (by rw [hnx, frsS_eq hok.1 (by omega)])
 have hxn : Hid ((nwX L n s).scores.length = n) := Lib.hid (by rw [hnx]; simp)
 generalize nwX L n s = x at *
 clear hnx hok hwb rdr
 obtain ⟨al, cl, e0, -⟩ := id rdx.1
 subst e0
 obtain ⟨aq, cq, e0, -⟩ := id rdx.2.1
 subst e0
 obtain ⟨ab, cb, e0, -⟩ := id rdx.2.2
 subst e0
 unfold wdC at ⊢
 go_upto_region 4 with (fail)
 obtain ⟨w2, hw2, P2, hb2⟩ : ∃ W, w1.alloc (.cells #[.slice al x.rows.length cl, .int .i64 x.tick, .int .i64 x.seed, .slice aq x.scores.length cq, .slice ab x.bods.length cb] 30) = W ∧ W.heap[w1.heap.size]? = some (.cells #[.slice al x.rows.length cl, .int .i64 x.tick, .int .i64 x.seed, .slice aq x.scores.length cq, .slice ab x.bods.length cb] 30 (0, 0)) ∧ Below w1.heap.size w1 W := ⟨_, rfl, heap_alloc_new w1 _, below1 w1 _⟩
 have HS2 : Hid (w2.heap.size = w1.heap.size + 1) := Lib.hid (by rw [← hw2]; simp)
 rw [hw2]
 clear hw2
 obtain ⟨p, hp⟩ : ∃ p, p = w1.heap.size := ⟨_, rfl⟩
 rw [← hp] at P2 ⊢
 have hs1 := hb1.size
 have hpw : w.heap.size ≤ p := by omega
 have bw2 := hb1.trans (hb2.mono hs1)
 have hpl := (Array.getElem?_eq_some_iff.1 P2).1
 have rdx2 := rdx.keep hb2
 have cP2 := rowCells P2
 clear hp rdx
 go_upto_region 5 with (fail)
 obtain ⟨N, hN⟩ : ∃ N : Nat, N = x.scores.length := ⟨_, rfl⟩
 rw [← hN]
 have hNn : N = n := by rw [hN]; exact hxn.out
 subst hNn
 have HN := Lib.hid hN
 clear hN hxn
 have hN4 : 1 ≤ N ∧ N ≤ 4 := hn14
 have hmk := fun W => run_make_ints W N (by omega)
 rw [← HN.out] at P2 cP2
 go_upto_region 6 with (fail)
 obtain ⟨w3, hw3, Q3, hb3⟩ : ∃ W, w2.alloc (.cells #[.slice al x.rows.length cl, .int .i64 x.tick, .int .i64 x.seed, .slice aq N cq, .slice ab x.bods.length cb] 30) = W ∧ W.heap[w2.heap.size]? = some (.cells #[.slice al x.rows.length cl, .int .i64 x.tick, .int .i64 x.seed, .slice aq N cq, .slice ab x.bods.length cb] 30 (0, 0)) ∧ Below w2.heap.size w2 W := ⟨_, rfl, heap_alloc_new w2 _, below1 w2 _⟩
 rw [hw3]
 clear hw3 cP2
 obtain ⟨q, hq⟩ : ∃ q, q = w2.heap.size := ⟨_, rfl⟩
 rw [← hq] at Q3 ⊢
 have hpq : p < q := by omega
 have hqs : q ≤ w2.heap.size := by omega
 have rd3 := rdx2.keep hb3
 have Q3 : w3.heap[q]? = some (.cells (wdC x (.slice al x.rows.length cl) (.slice aq x.scores.length cq) (.slice ab x.bods.length cb)) 30 (0, 0)) := by rw [Q3, HN.out]; rfl
 have hq2 : w2.heap.size ≤ q := by omega
 clear hq
 go_wp2_with (fail)
 go_loopw [7] (fun i wr => ∃ (k : Nat) (y : Wd) (ul us ub : Value), k ≤ 40 ∧ i = .int .i64 (k : Int) ∧ Idl L N k y ∧ wr.heap[q]? = some (.cells (wdC y ul us ub) 30 (0, 0)) ∧ RdW wr y ul us ub ∧ Below w2.heap.size w2 wr) (fun i _ => 40 - (intOf i).toNat)
 case atStart => exact ⟨0, x, _, _, _, Nat.zero_le _, rfl, hI, Q3, rd3, hb3⟩
 case round =>
  clear Q3 rd3 hb3 hI
  obtain ⟨k, y, ul, us, ub, hk, rfl, hI, hPr, hRd, hbr⟩ := hrel
  have hys := worldB_sane hI.1 (by rw [hI.2.1]; exact hLs)
  have hyf := worldB_few hI.1
  by_cases hkl : k < 40
  ·have hki : (k : Int) < 40 := by omega
   have hIn := idl_next hI (by omega)
   have hst := fun {W : World} {v : Value} (h1 : RdW W y ul us ub) (h2 : RdI W v (List.replicate N 0)) => stepWorld_impl h1 hys hyf h2 (by simp; omega)
   obtain ⟨al2, cl2, e0, -⟩ := id (hRd).1
   subst e0
   obtain ⟨aq2, cq2, e0, -⟩ := id (hRd).2.1
   subst e0
   obtain ⟨ab2, cb2, e0, -⟩ := id (hRd).2.2
   subst e0
   unfold wdC at hPr hst
   generalize stepW y (List.replicate N 0) = z at *
   clear hI hys hyf
   go_upto_region 9 with (fail)
   have bw_0 : Below w2.heap.size w2 wr.drew := hbr.trans ((belowDrew wr 1).mono hbr.size)
   have hwl := (Array.getElem?_eq_some_iff.1 hPr).1
   have bs_0 : Below wr.heap.size wr wr.drew := belowDrew wr 1
   have hPr_0 : wr.drew.heap[q]? = _ := hPr
   refine wp_region_held_drew (S := (fun _ => True)) (by kernel_rfl) ?_ (fun hHeld => ?_)
   ·exact trivial
   refine tk 1 27 ?_
   (try simp only [zP, zA, zB, zC])
   refine wpAnyH_ready (rs := [0, 2]) (by kernel_rfl) (by simp) ?_
   refine AllReadyH.cons rfl (fun K hK => ?_) (AllReadyH.cons rfl (fun K hK => ?_) AllReadyH.nil)
   ·have cx := rowCells hPr
    go_simp
    clear cx
    refine hK.out _ _ ?_ (fun hHeld => ?_)
    ·exact trivial
    clear hK K
    (try simp only [zP, zA, zB, zC])
    refine wpAnyH_ready (rs := [2]) (by kernel_rfl) (by simp) ?_
    refine AllReadyH.cons rfl (fun K hK => ?_) AllReadyH.nil
    go_simp
    obtain ⟨w_1, hw_1, oz_1, hb_1⟩ : ∃ W, (wr.alloc (.cells (madeCells #[.int .i64 0] N) 3)).drew = W ∧ OwnIn W wr.heap.size W.heap.size (.slice (some ⟨wr.heap.size, 0, none⟩) N N) (List.replicate N 0) ∧ Below wr.drew.heap.size wr.drew W := ⟨_, rfl, zeroRow wr N, below1 wr.drew _⟩
    try rw [hw_1]
    clear hw_1
    have hPr_1 := keepHeap hb_1 hPr_0
    have bs_1 := bs_0.trans (hb_1.mono bs_0.size)
    have sz_1 := hb_1.size
    have bw_1 := bw_0.trans (hb_1.mono bw_0.size)
    refine hK.out _ _ ?_ (fun hHeld => ?_)
    ·exact trivial
    clear hK K
    (try simp only [zP, zA, zB, zC])
    refine wpAnyH_ready (rs := [3]) (by kernel_rfl) (by simp) ?_
    refine AllReadyH.cons rfl (fun K hK => ?_) AllReadyH.nil
    go_simp
    refine (hst (hRd.keep bs_1) oz_1.rd).mono ?_
    rintro e w_2 ⟨vl4, vs4, vb4, rfl, ho4, hc4, hb_2⟩
    have hPr_2 := keepHeap hb_2 hPr_1
    have bs_2 := bs_1.trans (hb_2.mono bs_1.size)
    have sz_2 := hb_2.size
    have bw_2 := bw_1.trans (hb_2.mono bw_1.size)
    have hrd4 := ho4.rd
    obtain ⟨al4, cl4, e0, -⟩ := id hrd4.1
    subst e0
    obtain ⟨aq4, cq4, e0, -⟩ := id hrd4.2.1
    subst e0
    obtain ⟨ab4, cb4, e0, -⟩ := id hrd4.2.2
    subst e0
    clear hrd4 hc4
    unfold wdC
    refine hK.out _ _ ?_ (fun hHeld => ?_)
    ·exact trivial
    clear hK K
    (try simp only [zP, zA, zB, zC])
    refine wpAnyH_ready (rs := [4]) (by kernel_rfl) (by simp) ?_
    refine AllReadyH.cons rfl (fun K hK => ?_) AllReadyH.nil
    have cn := rowCells hPr_2
    have fn := fun j => frozenHeap hPr_2 j
    go_simp
    refine hK.out _ _ ?_ (fun hHeld => ?_)
    ·exact trivial
    clear hK K
    (try simp only [zP, zA, zB, zC])
    refine wpAnyH_done (by kernel_rfl) ?_ _
    obtain ⟨W5, e5⟩ : ∃ W, W = putW w_2 q z (.slice al4 z.rows.length cl4) (.slice aq4 z.scores.length cq4) (.slice ab4 z.bods.length cb4) := ⟨_, rfl⟩
    have P5 := putW_heap hPr_2 rfl z (.slice al4 z.rows.length cl4) (.slice aq4 z.scores.length cq4) (.slice ab4 z.bods.length cb4)
    have b5 := putW_below bw_2 (c := q) hq2 z (.slice al4 z.rows.length cl4) (.slice aq4 z.scores.length cq4) (.slice ab4 z.bods.length cb4)
    have o5 := (ho4.apart (putW_farB w_2 q z (.slice al4 z.rows.length cl4) (.slice aq4 z.scores.length cq4) (.slice ab4 z.bods.length cb4)) (.inl (by have := bs_1.size; first | omega | (simp at this ⊢; omega)))).rd
    rw [← e5] at P5 b5 o5
    unfold putW at e5
    try dsimp only at e5
    rw [← e5]
    clear e5
    go_wp2_with (fail)
    go_roundw
    case rel => exact ⟨k + 1, z, _, _, _, by omega, by go_num, hIn, P5, o5, b5⟩
    case measure => simp [intOf]; omega
   ·go_simp
    obtain ⟨w_1, hw_1, oz_1, hb_1⟩ : ∃ W, (wr.alloc (.cells (madeCells #[.int .i64 0] N) 3)).drew = W ∧ OwnIn W wr.heap.size W.heap.size (.slice (some ⟨wr.heap.size, 0, none⟩) N N) (List.replicate N 0) ∧ Below wr.drew.heap.size wr.drew W := ⟨_, rfl, zeroRow wr N, below1 wr.drew _⟩
    try rw [hw_1]
    clear hw_1
    have hPr_1 := keepHeap hb_1 hPr_0
    have bs_1 := bs_0.trans (hb_1.mono bs_0.size)
    have sz_1 := hb_1.size
    have bw_1 := bw_0.trans (hb_1.mono bw_0.size)
    refine hK.out _ _ ?_ (fun hHeld => ?_)
    ·exact trivial
    clear hK K
    (try simp only [zP, zA, zB, zC])
    refine wpAnyH_ready (rs := [0]) (by kernel_rfl) (by simp) ?_
    refine AllReadyH.cons rfl (fun K hK => ?_) AllReadyH.nil
    have cx := rowCells hPr_1
    go_simp
    clear cx
    refine hK.out _ _ ?_ (fun hHeld => ?_)
    ·exact trivial
    clear hK K
    (try simp only [zP, zA, zB, zC])
    refine wpAnyH_ready (rs := [3]) (by kernel_rfl) (by simp) ?_
    refine AllReadyH.cons rfl (fun K hK => ?_) AllReadyH.nil
    go_simp
    refine (hst (hRd.keep bs_1) oz_1.rd).mono ?_
    rintro e w_2 ⟨vl4, vs4, vb4, rfl, ho4, hc4, hb_2⟩
    have hPr_2 := keepHeap hb_2 hPr_1
    have bs_2 := bs_1.trans (hb_2.mono bs_1.size)
    have sz_2 := hb_2.size
    have bw_2 := bw_1.trans (hb_2.mono bw_1.size)
    have hrd4 := ho4.rd
    obtain ⟨al4, cl4, e0, -⟩ := id hrd4.1
    subst e0
    obtain ⟨aq4, cq4, e0, -⟩ := id hrd4.2.1
    subst e0
    obtain ⟨ab4, cb4, e0, -⟩ := id hrd4.2.2
    subst e0
    clear hrd4 hc4
    unfold wdC
    refine hK.out _ _ ?_ (fun hHeld => ?_)
    ·exact trivial
    clear hK K
    (try simp only [zP, zA, zB, zC])
    refine wpAnyH_ready (rs := [4]) (by kernel_rfl) (by simp) ?_
    refine AllReadyH.cons rfl (fun K hK => ?_) AllReadyH.nil
    have cn := rowCells hPr_2
    have fn := fun j => frozenHeap hPr_2 j
    go_simp
    refine hK.out _ _ ?_ (fun hHeld => ?_)
    ·exact trivial
    clear hK K
    (try simp only [zP, zA, zB, zC])
    refine wpAnyH_done (by kernel_rfl) ?_ _
    obtain ⟨W5, e5⟩ : ∃ W, W = putW w_2 q z (.slice al4 z.rows.length cl4) (.slice aq4 z.scores.length cq4) (.slice ab4 z.bods.length cb4) := ⟨_, rfl⟩
    have P5 := putW_heap hPr_2 rfl z (.slice al4 z.rows.length cl4) (.slice aq4 z.scores.length cq4) (.slice ab4 z.bods.length cb4)
    have b5 := putW_below bw_2 (c := q) hq2 z (.slice al4 z.rows.length cl4) (.slice aq4 z.scores.length cq4) (.slice ab4 z.bods.length cb4)
    have o5 := (ho4.apart (putW_farB w_2 q z (.slice al4 z.rows.length cl4) (.slice aq4 z.scores.length cq4) (.slice ab4 z.bods.length cb4)) (.inl (by have := bs_1.size; first | omega | (simp at this ⊢; omega)))).rd
    rw [← e5] at P5 b5 o5
    unfold putW at e5
    try dsimp only at e5
    rw [← e5]
    clear e5
    go_wp2_with (fail)
    go_roundw
    case rel => exact ⟨k + 1, z, _, _, _, by omega, by go_num, hIn, P5, o5, b5⟩
    case measure => simp [intOf]; omega
  ·obtain rfl : k = 40 := by omega
   obtain ⟨hwb, hyr, hyt, hyn, O, hyb, hO⟩ := hI
   clear hys hyf hmk
   have hLv := (fineX_of hwb).1
   have hgd := levelB_facts hLv
   obtain ⟨M, hM⟩ : ∃ M, M = y.bods.length := ⟨_, rfl⟩
   have HM := Lib.hid hM
   have hMb : 1 ≤ M ∧ M ≤ 24 := by have := (fineX_of hwb).2.1; have := (fineX_of hwb).2.2.2.1; have := (fineX_of hwb).2.2.2.2.1; omega
   have hNM : N ≤ M := by have := (fineX_of hwb).2.2.2.1; omega
   have rl := hRd.1
   have HYR := Lib.hid hyr
   rw [hyr] at rl hgd
   have hbd := hRd.2.2
   obtain ⟨al2, cl2, e0, -⟩ := id (hRd).1
   subst e0
   obtain ⟨aq2, cq2, e0, -⟩ := id (hRd).2.1
   subst e0
   obtain ⟨ab2, cb2, e0, -⟩ := id (hRd).2.2
   subst e0
   obtain ⟨a', c', e', hbd⟩ := hbd
   obtain ⟨rfl, -, rfl⟩ := Value.slice.inj e'
   clear e'
   obtain ⟨bb, ob, e0, hcells⟩ := hbd.resolve_left (by intro e; have := HM.out; rw [e] at this; simp at this; omega)
   subst e0
   clear hbd
   have hbx := (rdx2.keep hbr).2.2
   obtain ⟨a', c', e', hbx⟩ := hbx
   obtain ⟨rfl, -, rfl⟩ := Value.slice.inj e'
   clear e'
   obtain ⟨bx, ox, e0, hcx⟩ := hbx.resolve_left (by intro e; have := hxb.out; rw [e] at this; have := congrArg List.length this; simp [frs] at this; omega)
   subst e0
   clear hbx
   have HX := hxb
   have HY := Lib.hid hyb
   have HT := Lib.hid hyt
   have hki : ¬ ((40 : Nat) : Int) < 40 := by omega
   unfold wdC at hPr
   rw [← HM.out, hyt] at hPr
   have Pq := hPr
   have Pp := keepHeap hbr P2
   have cq := rowCells Pq
   clear hxb hyb hyt hPr hyr hyn hM
   have bwr := bw2.trans (hbr.mono bw2.size)
   go_wp2_with (fail)
   go_loop [8, 9] (fun sh i => ∃ k : Nat, k ≤ M ∧ i = .int .i64 (k : Int) ∧ sh = .int .i64 0) (fun _ i => M - (intOf i).toNat)
   case atStart => exact ⟨0, Nat.zero_le _, rfl, rfl⟩
   case round =>
    obtain ⟨k, hk, rfl, rfl⟩ := hrel
    by_cases hkM : k < M
    ·have hkx : k < y.bods.length := by rw [← HM.out]; exact hkM
     have hki : (k : Int) < (M : Int) := by omega
     have hc0 := hcells k hkx
     have hkd : ¬ (y.bods[k]'hkx).kind = 1 := by
      have key : ∀ c, c ∈ y.bods → ¬ c.kind = 1 := by
       rw [HY.out]
       intro c hm
       rcases List.mem_append.1 hm with h | h
       ·obtain ⟨d, hd, e⟩ := List.mem_map.1 h; rw [← e, (fall_facts L 40 d).1, (frs_mem hd).1]; decide
       ·rw [hO _ h]; decide
      exact key _ (List.getElem_mem hkx)
     generalize y.bods[k] = b at *
     obtain ⟨d0, -⟩ := cells9 hc0
     have z1 : ((b.kind : Int) == 1) = false := by simpa using hkd
     clear hc0 hkd
     go_wp2_with (go_at_call 12; refine (btoi_w false _).mono ?_; rintro e w' ⟨rfl, rfl⟩)
     go_round
     case rel => exact ⟨k + 1, by omega, by go_num, by go_num⟩
     case measure => simp [intOf]; omega
    ·have hkn : ¬ (k : Int) < (M : Int) := by omega
     obtain ⟨v0, hv0⟩ : ∃ W, W = wr := ⟨_, rfl⟩
     subst hv0
     have hb0 := Below.refl v0.heap.size v0
     go_wp2_with (fail)
     clear cq
     go_loopw [10] (fun i wr => ∃ j : Nat, j ≤ N ∧ i = .int .i64 (j : Int) ∧ Below v0.heap.size v0 wr) (fun i _ => N - (intOf i).toNat)
     case atStart => exact ⟨0, Nat.zero_le _, rfl, hb0⟩
     case round =>
      clear hb0
      obtain ⟨j, hj, rfl, hbq⟩ := hrel
      have Pq' := keepHeap hbq Pq
      have Pp' := keepHeap hbq Pp
      have bwq := bwr.trans (hbq.mono bwr.size)
      by_cases hjN : j < N
      ·have hji : (j : Int) < (N : Int) := by omega
       have hjy : j < y.bods.length := by rw [← HM.out]; omega
       have hjx : j < x.bods.length := by rw [HX.out]; simp [frs]; exact hjN
       have hjM : (j : Int) < (M : Int) := by omega
       have hjX : (j : Int) < (x.bods.length : Int) := by omega
       obtain ⟨Y, V, hf, hs⟩ := falls h5 (show j < 4 by omega)
       have e1 : y.bods[j] = ⟨0, (j : Int), (freshB L j).x, Y, 0, V, 1, 3, 0⟩ := by
        rw [← hf]
        have : y.bods[j]? = some (fallN L 40 (freshB L j)) := by rw [HY.out, List.getElem?_append_left (by simp [frs]; exact hjN)]; simp [frs, hjN]
        rw [List.getElem?_eq_getElem hjy] at this; exact Option.some.inj this
       have e2 : x.bods[j] = freshB L j := by
        have : x.bods[j]? = some (freshB L j) := by rw [HX.out]; simp [frs, hjN]
        rw [List.getElem?_eq_getElem hjx] at this; exact Option.some.inj this
       have c1 := hcells j hjy
       have c2 := hcx j hjx
       rw [e1] at c1
       rw [e2] at c2
       have hXb : -10 ≤ (freshB L j).x ∧ (freshB L j).x ≤ 400 ∧ -10 ≤ Y ∧ Y ≤ 400 := by
        obtain ⟨p0, p1, p2, -⟩ := fit_parts ((fineX_of hwb).2.2.2.2.2 j hjy).1
        rw [e1] at p2
        rw [HYR.out] at p2
        have := blockB_place hgd (S := 12) p2
        dsimp only at this; omega
       have hsl : solidB L (freshB L j).x (Y + 1) 12 = true := by unfold solidB; rw [hs]; simp
       have hso := fun {W : World} (h1 : RdS W (.slice al2 y.rows.length cl2) L) => solidAt_impl h1 hLs (freshB L j).x (Y + 1) 12 ⟨by omega, by omega⟩ ⟨by omega, by omega⟩
       rw [hsl] at hso
       have g1 : ∀ {W : World}, Below v0.heap.size v0 W → W.rangeAt bb (ob + j * 9) (bdL ⟨0, (j : Int), (freshB L j).x, Y, 0, V, 1, 3, 0⟩) := fun hW jj u hu => (hW.cell (World.block_lt_of_cell? v0 _ (c1 jj u hu))).trans (c1 jj u hu)
       have g2 : ∀ {W : World}, Below v0.heap.size v0 W → W.rangeAt bx (ox + j * 9) (bdL (freshB L j)) := fun hW jj u hu => (hW.cell (World.block_lt_of_cell? v0 _ (c2 jj u hu))).trans (c2 jj u hu)
       have hwY : IntKind.i64.wrap (Y + 1) = Y + 1 := IntWalk.i64_in _ (by omega)
       generalize hFX : (freshB L j).x = FX at *
       clear e1 e2 c1 c2 hsl hs hf
       go_upto_region 18 with (fail)
       have bz_0 := hbq.trans ((belowDrew wr 1).mono hbq.size)
       have hS : ∀ {W : World}, Below v0.heap.size v0 W → W.heap[q]? = some (.cells #[Value.slice al2 y.rows.length cl2, .int .i64 ((40 : Nat) : Int), .int .i64 y.seed, .slice aq2 y.scores.length cq2, .slice (some ⟨bb, ob, none⟩) M cb2] 30 (0, 0)) → W.heap[p]? = some (.cells #[.slice al x.rows.length cl, .int .i64 x.tick, .int .i64 x.seed, .slice aq N cq, .slice (some ⟨bx, ox, none⟩) x.bods.length cb] 30 (0, 0)) → (fun w' => (∀ j, w'.cell? ⟨q, j, none⟩ = #[Value.slice al2 y.rows.length cl2, .int .i64 ((40 : Nat) : Int), .int .i64 y.seed, .slice aq2 y.scores.length cq2, .slice (some ⟨bb, ob, none⟩) M cb2][j]?) ∧ (∀ j, w'.cell? ⟨p, j, none⟩ = #[.slice al x.rows.length cl, .int .i64 x.tick, .int .i64 x.seed, .slice aq N cq, .slice (some ⟨bx, ox, none⟩) x.bods.length cb][j]?) ∧ (w'.cell? ⟨bb, ob + j * 9 + 2, none⟩ = some (.int .i64 FX) ∧ w'.cell? ⟨bb, ob + j * 9 + 3, none⟩ = some (.int .i64 Y) ∧ w'.cell? ⟨bb, ob + j * 9 + 7, none⟩ = some (.int .i64 3)) ∧ w'.cell? ⟨bx, ox + j * 9 + 2, none⟩ = some (.int .i64 FX)) W := fun hW hq hp => ⟨rowCells hq, rowCells hp, by have := cells9 (g1 hW); exact ⟨this.2.2.1, this.2.2.2.1, this.2.2.2.2.2.2.2.1⟩, by have := cells9 (g2 hW); rw [hFX] at this; exact this.2.2.1⟩
       have bs_0 : Below wr.heap.size wr wr.drew := belowDrew wr 1
       have Pq'_0 : wr.drew.heap[q]? = _ := Pq'
       have Pp'_0 : wr.drew.heap[p]? = _ := Pp'
       refine wp_region_held_drew (S := (fun w' => (∀ j, w'.cell? ⟨q, j, none⟩ = #[Value.slice al2 y.rows.length cl2, .int .i64 ((40 : Nat) : Int), .int .i64 y.seed, .slice aq2 y.scores.length cq2, .slice (some ⟨bb, ob, none⟩) M cb2][j]?) ∧ (∀ j, w'.cell? ⟨p, j, none⟩ = #[.slice al x.rows.length cl, .int .i64 x.tick, .int .i64 x.seed, .slice aq N cq, .slice (some ⟨bx, ox, none⟩) x.bods.length cb][j]?) ∧ (w'.cell? ⟨bb, ob + j * 9 + 2, none⟩ = some (.int .i64 FX) ∧ w'.cell? ⟨bb, ob + j * 9 + 3, none⟩ = some (.int .i64 Y) ∧ w'.cell? ⟨bb, ob + j * 9 + 7, none⟩ = some (.int .i64 3)) ∧ w'.cell? ⟨bx, ox + j * 9 + 2, none⟩ = some (.int .i64 FX))) (by kernel_rfl) ?_ (fun hHeld => ?_)
       ·exact hS bz_0 Pq'_0 Pp'_0
       refine tk 0 52 ?_
       (try simp only [zP, zA, zB, zC])
       refine tk 1 53 ?_
       (try simp only [zP, zA, zB, zC])
       refine tk 2 54 ?_
       (try simp only [zP, zA, zB, zC])
       refine tk 3 55 ?_
       (try simp only [zP, zA, zB, zC])
       refine tk 4 56 ?_
       (try simp only [zP, zA, zB, zC])
       refine tk 5 57 ?_
       (try simp only [zP, zA, zB, zC])
       refine tk 6 58 ?_
       (try simp only [zP, zA, zB, zC])
       refine tk 7 59 ?_
       (try simp only [zP, zA, zB, zC])
       refine tk 8 60 ?_
       (try simp only [zP, zA, zB, zC])
       refine tk 9 61 ?_
       (try simp only [zP, zA, zB, zC])
       refine tk 10 62 ?_
       (try simp only [zP, zA, zB, zC])
       refine tk 11 63 ?_
       (try simp only [zP, zA, zB, zC])
       refine tk 12 64 ?_
       (try simp only [zP, zA, zB, zC])
       refine tk 13 65 ?_
       (try simp only [zP, zA, zB, zC])
       refine tw 14 66 13 65 false ?_
       (try simp only [zP, zA, zB, zC])
       refine tw 15 67 13 65 false ?_
       (try simp only [zP, zA, zB, zC])
       refine tw 16 68 13 65 false ?_
       (try simp only [zP, zA, zB, zC])
       refine tw 17 69 13 65 false ?_
       (try simp only [zP, zA, zB, zC])
       refine tw 18 70 13 65 false ?_
       (try simp only [zP, zA, zB, zC])
       refine tw 19 71 13 65 false ?_
       (try simp only [zP, zA, zB, zC])
       refine tw 20 72 13 65 false ?_
       (try simp only [zP, zA, zB, zC])
       refine tk 21 73 ?_
       (try simp only [zP, zA, zB, zC])
       refine tk 22 74 ?_
       (try simp only [zP, zA, zB, zC])
       refine tw 23 75 22 74 false ?_
       (try simp only [zP, zA, zB, zC])
       refine tw 24 76 22 74 false ?_
       (try simp only [zP, zA, zB, zC])
       refine tw 25 77 22 74 false ?_
       (try simp only [zP, zA, zB, zC])
       refine tw 26 78 22 74 false ?_
       (try simp only [zP, zA, zB, zC])
       refine tw 27 79 22 74 false ?_
       (try simp only [zP, zA, zB, zC])
       refine tw 28 80 22 74 false ?_
       (try simp only [zP, zA, zB, zC])
       refine tw 29 81 22 74 false ?_
       (try simp only [zP, zA, zB, zC])
       refine tw 30 82 22 74 false ?_
       (try simp only [zP, zA, zB, zC])
       refine tw 31 83 22 74 false ?_
       (try simp only [zP, zA, zB, zC])
       refine tw 32 84 22 74 false ?_
       (try simp only [zP, zA, zB, zC])
       refine tw 33 85 22 74 false ?_
       (try simp only [zP, zA, zB, zC])
       refine tw 34 86 22 74 false ?_
       (try simp only [zP, zA, zB, zC])
       refine tw 35 87 22 74 false ?_
       (try simp only [zP, zA, zB, zC])
       refine tw 36 88 22 74 false ?_
       (try simp only [zP, zA, zB, zC])
       refine tw 37 89 22 74 false ?_
       (try simp only [zP, zA, zB, zC])
       refine wpAnyH_ready (rs := [38]) (by kernel_rfl) (by simp) ?_
       refine AllReadyH.cons rfl (fun K hK => ?_) AllReadyH.nil
       go_simp
       refine (hso (rl.keep bz_0)).mono ?_
       rintro e w_1 ⟨rfl, hb_1⟩
       have Pq'_1 := keepHeap hb_1 Pq'_0
       have Pp'_1 := keepHeap hb_1 Pp'_0
       have bs_1 := bs_0.trans (hb_1.mono bs_0.size)
       have sz_1 := hb_1.size
       have bz_1 := bz_0.trans (hb_1.mono bz_0.size)
       (try go_wp2_with (fail))
       refine hK.out _ _ ?_ (fun hHeld => ?_)
       ·exact hS bz_1 Pq'_1 Pp'_1
       clear hK K
       (try simp only [zP, zA, zB, zC])
       refine tw 39 91 22 74 false ?_
       (try simp only [zP, zA, zB, zC])
       refine tk 40 92 ?_
       (try simp only [zP, zA, zB, zC])
       refine wpAnyH_done (by kernel_rfl) ?_ _
       go_wp2_with (fail)
       go_roundw
       case rel => exact ⟨j + 1, by omega, by go_num, bz_1⟩
       case measure => simp [intOf]; omega
      ·have hjn : ¬ (j : Int) < (N : Int) := by omega
       have cq := rowCells Pq'
       have z3 : (((40 : Nat) : Int) == 40) = true := by decide
       go_wp2_with (fail)
       go_ret
       exact ⟨rfl, bwq⟩
end Go.Proofs.YtnlonkkbjkfkmaaDoor
