/-
  Texts of this proof: Lvl.
-/
import Derived.Test.YtehjafaobaoleaaDoorM43
import Derived.Test.YtehjafaobaoleaaDoorM46
import Derived.Test.YtehjafaobaoleaaDoorM41
import Derived.Test.YtehjafaobaoleaaDoorM47
import Derived.Test.YtehjafaobaoleaaDoorM15
import Derived.Test.YtehjafaobaoleaaDoorM21
import Derived.Test.YtehjafaobaoleaaDoorM09
namespace Go.Proofs.YtehjafaobaoleaaDoor
open Go.RowKit
set_option linter.all false
set_option maxRecDepth 100000 in
set_option maxHeartbeats 8000000 in
theorem lawLevels (a : Option Addr) (len cap : Nat) (zs : List Int) (w : World) (hr : IsRow .u8 w a len cap zs) (hm : ∃ m, w.cell? ⟨0, 0, none⟩ = some (.int .i64 m)) :
  Calls Tryd.prog 3 #[.slice a len cap] w fun e w' => e = .returned (.bool true) ∧ Below w.heap.size w w' := by
 obtain ⟨m, hm⟩ := hm
 obtain ⟨hrd, hl⟩ := RdC.of_row hr
 clear hr
 by_cases h : 1048576 < (len : Int)
 ·have b1 : decide (1048576 < (len : Int)) = true := by simpa using h
  clear hm
  go_enter Tryd.func3, Tryd.ntmps3
  go_wp2_with (go_at_call 4; refine (big_any hrd hl).mono ?_; rintro e w' ⟨rfl, rfl⟩)
  go_ret
  exact ⟨rfl, Below.refl _ _⟩
 have HM := Lib.hid hm
 clear hm
 have b1 : decide (1048576 < (len : Int)) = false := by simpa using h
 go_enter Tryd.func3, Tryd.ntmps3
 go_wp2_with (go_at_call 4; refine (big_any hrd hl).mono ?_; rintro e w' ⟨rfl, rfl⟩)
 refine (drawPlay_cap hrd (by omega)).mono ?_
 rintro e w1 ⟨L, n, s, vl, vs, vb, v, X, rfl, rdx, rdr, hb1, hok, hcap⟩
 obtain ⟨hnx, -⟩ := play_x hok
 have hLs : Sane L := hok.2.1
 have h5 : Lv5 L := hok.2.2.2.2.2.2
 have HXR : Hid ((nwX L n s).rows = L) := Lib.hid (by rw [hnx])
 generalize nwX L n s = x at *
 clear hnx hok rdr
 obtain ⟨l, hl5, hLc, hfm, hlv, hst, hsp, hspn, hcor⟩ := lv5_facts h5
 have hll := lv5_len hl5
 have HLC := Lib.hid hLc
 have HFM := Lib.hid hfm
 have HLV := Lib.hid hlv
 clear hLc hfm hlv h5 hl5
 obtain ⟨al, cl, e0, -⟩ := id rdx.1
 subst e0
 obtain ⟨aq, cq, e0, -⟩ := id rdx.2.1
 subst e0
 obtain ⟨ab, cb, e0, -⟩ := id rdx.2.2
 subst e0
 have rl : ∀ L', x.rows = L' → RdS w1 (.slice al x.rows.length cl) L' := fun _ e => by subst e; exact rdx.1
 have rl := rl L HXR.out
 have hL20 : L.length ≤ 1048576 := by have := (levelB_facts HLV.out).2.1; omega
 unfold wdC at ⊢
 go_upto_region 4 with (fail)
 obtain ⟨w2, hw2, P2, hb2⟩ : ∃ W, w1.alloc (.cells #[.slice al x.rows.length cl, .int .i64 x.tick, .int .i64 x.seed, .slice aq x.scores.length cq, .slice ab x.bods.length cb] 30) = W ∧ W.heap[w1.heap.size]? = some (.cells #[.slice al x.rows.length cl, .int .i64 x.tick, .int .i64 x.seed, .slice aq x.scores.length cq, .slice ab x.bods.length cb] 30 (0, 0)) ∧ Below w1.heap.size w1 W := ⟨_, rfl, heap_alloc_new w1 _, below1 w1 _⟩
 rw [hw2]
 clear hw2
 obtain ⟨p, hp⟩ : ∃ p, p = w1.heap.size := ⟨_, rfl⟩
 rw [← hp] at P2 ⊢
 have hs1 := hb1.size
 clear hp
 have bw2 := hb1.trans (hb2.mono hs1)
 have rl := rl.keep hb2
 have cP2 := rowCells P2
 have hfo := formatLevel_impl rl hLs (show CapOk _ from hcap)
 rw [HFM.out] at hfo
 clear hcap
 go_wp2_with (fail)
 refine hfo.mono ?_
 rintro e w3 ⟨rfl, hb3⟩
 have bw3 := bw2.trans (hb3.mono bw2.size)
 have P3 := keepHeap hb3 P2
 have rl := rl.keep hb3
 clear hfo cP2 P2 bw2 hb3 hb2
 have hpar : Calls Tryd.prog 7 #[.string ⟨l.toArray⟩] w3 (fun e w' => ∃ v, e = .returned (.tuple #[.agg #[v], .bool true]) ∧ WrS w' w3.heap.size v L ∧ Below w3.heap.size w3 w') := by
  have h := parseLevel_impl l w3 (by omega) m ((bw3.cell (World.block_lt_of_cell? w _ HM.out)).trans HM.out)
  unfold ParsePost at h
  rw [← HLC.out, HLV.out, if_pos rfl] at h
  exact h
 clear HM
 go_wp2_with (fail)
 refine hpar.mono ?_
 rintro e w4 ⟨v4, rfl, wr4, hb4⟩
 obtain ⟨a4, c4, rfl, -⟩ := id wr4.rd
 have bw4 := bw3.trans (hb4.mono bw3.size)
 have P4 := keepHeap hb4 P3
 have rl := rl.keep hb4
 have r4 := wr4.rd
 clear hpar P3 bw3 hb4 wr4
 go_upto_region 6 with (fail)
 obtain ⟨w5, hw5, Q5, hb5⟩ : ∃ W, w4.alloc (.cells #[Value.slice a4 L.length c4] 26) = W ∧ W.heap[w4.heap.size]? = some (.cells #[Value.slice a4 L.length c4] 26 (0, 0)) ∧ Below w4.heap.size w4 W := ⟨_, rfl, heap_alloc_new w4 _, below1 w4 _⟩
 rw [hw5]
 clear hw5
 obtain ⟨q, hq⟩ : ∃ q, q = w4.heap.size := ⟨_, rfl⟩
 rw [← hq] at Q5 ⊢
 clear hq
 have bw5 := bw4.trans (hb5.mono bw4.size)
 have P5 := keepHeap hb5 P4
 have rl := rl.keep hb5
 have r5 := r4.keep hb5
 clear P4 bw4 r4 hb5
 have cP := rowCells P5
 have cQ := rowCells Q5
 have hsm := sameTexts_same r5 rl (by omega)
 go_wp2_with (fail)
 refine hsm.mono ?_
 rintro e w6' ⟨rfl, nn, rfl⟩
 have hb6 : Below w5.heap.size w5 (w5.drewN nn) := belowDrew w5 nn
 generalize w5.drewN nn = w6 at *
 have bw6 := bw5.trans (hb6.mono bw5.size)
 have P6 := keepHeap hb6 P5
 have Q6 := keepHeap hb6 Q5
 have r6 := r5.keep hb6
 clear hsm cP cQ P5 Q5 bw5 r5 hb6 rl
 have cQ := rowCells Q6
 have hlo := levelOk_impl r6 hLs
 rw [HLV.out] at hlo
 go_wp2_with (fail)
 refine hlo.mono ?_
 rintro e w7 ⟨rfl, hb7⟩
 have bw7 := bw6.trans (hb7.mono bw6.size)
 have Q7 := keepHeap hb7 Q6
 have r7 := r6.keep hb7
 clear hlo cQ P6 Q6 bw6 r6 hb7
 have hb0 := Below.refl w7.heap.size w7
 go_wp2_with (fail)
 go_loopw [8] (fun i wr => ∃ k : Nat, k ≤ 4 ∧ i = .int .i64 (k : Int) ∧ Below w7.heap.size w7 wr) (fun i _ => 4 - (intOf i).toNat)
 case atStart => exact ⟨0, Nat.zero_le _, rfl, hb0⟩
 case round =>
  clear hb0
  obtain ⟨k, hk, rfl, hbr⟩ := hrel
  have Qr := keepHeap hbr Q7
  have bwr := bw7.trans (hbr.mono bw7.size)
  have rr := r7.keep hbr
  have cQ := rowCells Qr
  by_cases hk4 : k < 4
  ·have hki : (k : Int) < 4 := by omega
   obtain ⟨hso, ⟨hx0, hx1⟩, hy0, hy1⟩ := hst k hk4
   have hsr := startOf_impl rr hLs (k : Int)
   unfold retXY at hsr
   generalize hX : (startI L (k : Int)).1 = X0 at *
   generalize hY : (startI L (k : Int)).2 = Y0 at *
   clear hX hY
   go_wp2_with (fail)
   refine hsr.mono ?_
   rintro e v1 ⟨rfl, hbv⟩
   have Qv := keepHeap hbv Qr
   have rv := rr.keep hbv
   have bv := hbr.trans (hbv.mono hbr.size)
   clear hsr cQ
   have cQ := rowCells Qv
   go_upto_region 12 with (fail)
   clear cQ
   have hsol := fun {W : World} (h1 : RdS W (.slice a4 L.length c4) L) => solidAt_impl h1 hLs X0 Y0 12 ⟨by omega, by omega⟩ ⟨by omega, by omega⟩
   rw [hso] at hsol
   have hsz := fun W => sizeOf_impl 0 W
   rw [show sizeI 0 = 12 from rfl] at hsz
   have bs_0 : Below v1.heap.size v1 v1.drew := belowDrew v1 1
   have Qv_0 : v1.drew.heap[q]? = _ := Qv
   refine wp_region_held_drew (S := (fun w' => ∀ j, w'.cell? ⟨q, j, none⟩ = #[Value.slice a4 L.length c4][j]?)) (by kernel_rfl) ?_ (fun hHeld => ?_)
   ·exact rowCells Qv_0
   refine tk 0 54 ?_
   (try simp only [zP, zA, zB, zC])
   refine tk 1 55 ?_
   (try simp only [zP, zA, zB, zC])
   refine tk 2 56 ?_
   (try simp only [zP, zA, zB, zC])
   refine wpAnyH_ready (rs := [3]) (by kernel_rfl) (by simp) ?_
   refine AllReadyH.cons rfl (fun K hK => ?_) AllReadyH.nil
   go_simp
   refine (hsz _).mono ?_
   rintro e w_1 ⟨rfl, hb_1⟩
   have Qv_1 := keepHeap hb_1 Qv_0
   have bs_1 := bs_0.trans (hb_1.mono bs_0.size)
   have sz_1 := hb_1.size
   (try go_wp2_with (fail))
   refine hK.out _ _ ?_ (fun hHeld => ?_)
   ·exact rowCells Qv_1
   clear hK K
   (try simp only [zP, zA, zB, zC])
   refine wpAnyH_ready (rs := [4]) (by kernel_rfl) (by simp) ?_
   refine AllReadyH.cons rfl (fun K hK => ?_) AllReadyH.nil
   go_simp
   refine (hsol (rv.keep bs_1)).mono ?_
   rintro e w_2 ⟨rfl, hb_2⟩
   have Qv_2 := keepHeap hb_2 Qv_1
   have bs_2 := bs_1.trans (hb_2.mono bs_1.size)
   have sz_2 := hb_2.size
   (try go_wp2_with (fail))
   refine hK.out _ _ ?_ (fun hHeld => ?_)
   ·exact rowCells Qv_2
   clear hK K
   (try simp only [zP, zA, zB, zC])
   refine wpAnyH_done (by kernel_rfl) ?_ _
   go_wp2_with (fail)
   go_roundw
   case rel => exact ⟨k + 1, by omega, by go_num, bv.trans (bs_2.mono bv.size)⟩
   case measure => simp [intOf]; omega
  ·have hki : ¬ (k : Int) < 4 := by omega
   have hsp2 := spotsOf_impl rr hLs
   go_wp2_with (fail)
   refine hsp2.mono ?_
   rintro e v1 ⟨vp, rfl, op, hbv⟩
   have Qv := keepHeap hbv Qr
   have rv := rr.keep hbv
   have bv := bwr.trans (hbv.mono bwr.size)
   clear hsp2 cQ Qr rr hbv
   obtain ⟨ap, cp, rfl⟩ := op.shape
   obtain ⟨N, hN⟩ : ∃ N, N = (spotsP L).length := ⟨_, rfl⟩
   have HN := Lib.hid hN
   have hN1 : (N : Int) ≤ 100 := by omega
   rw [← hN]
   have op' := op
   clear hN
   have hb0 := Below.refl v1.heap.size v1
   go_wp2_with (fail)
   go_loopw [12] (fun i wr => ∃ j : Nat, j ≤ N ∧ i = .int .i64 (j : Int) ∧ Below v1.heap.size v1 wr) (fun i _ => N - (intOf i).toNat)
   case atStart => exact ⟨0, Nat.zero_le _, rfl, hb0⟩
   case round =>
    clear hb0
    obtain ⟨j, hj, rfl, hbq⟩ := hrel
    have Qq := keepHeap hbq Qv
    have bwq := bv.trans (hbq.mono bv.size)
    have rq := rv.keep hbq
    by_cases hjN : j < N
    ·have hji : (j : Int) < (N : Int) := by omega
     have hjs : j < (spotsP L).length := by rw [← HN.out]; exact hjN
     obtain ⟨hso, ⟨hx0, hx1⟩, hy0, hy1⟩ := hsp _ (List.getElem_mem hjs)
     obtain ⟨g, cp2, bs, e0, hBg, hgl, hin, hne, hcell, -⟩ := OwnP.cells op (by intro e; rw [e] at hjs; simp at hjs)
     obtain ⟨rfl, -, rfl⟩ := Value.slice.inj e0
     have hjb : j < bs.length := by rw [hin.1]; exact hjs
     have c1 := hcell j hjb
     have h2 := hin.2.2.2 j hjb hjs
     have hbb := (hin.2.2.1 _ (List.getElem_mem hjb)).2
     generalize bs[j] = bb at *
     generalize (spotsP L)[j] = pt at *
     obtain ⟨X0, Y0⟩ := pt
     dsimp only at hso hx0 hx1 hy0 hy1
     have r2 := InnP.rd h2
     dsimp only at r2
     unfold innV at c1 r2
     have c1 : ∀ {W : World}, Below v1.heap.size v1 W → W.cell? ⟨g, j, none⟩ = some (.slice (some ⟨bb, 0, none⟩) 2 2) := fun hW => (hW.cell (World.block_lt_of_cell? v1 _ c1)).trans c1
     have hg0 := fun {W : World} (hW : Below v1.heap.size v1 W) => get_any (r2.keep hW) (by simp) 0 (by simp)
     have hg1 := fun {W : World} (hW : Below v1.heap.size v1 W) => get_any (r2.keep hW) (by simp) 1 (by simp)
     simp only [List.getElem_cons_zero, List.getElem_cons_succ] at hg0 hg1
     rw [show ((0 : Nat) : Int) = 0 from rfl] at hg0
     rw [show ((1 : Nat) : Int) = 1 from rfl] at hg1
     have hsol := fun {W : World} (h1 : RdS W (.slice a4 L.length c4) L) => solidAt_impl h1 hLs X0 Y0 8 ⟨by omega, by omega⟩ ⟨by omega, by omega⟩
     rw [hso] at hsol
     have hsz := fun W => sizeOf_impl 2 W
     rw [show sizeI 2 = 8 from rfl] at hsz
     clear hin hne hcell h2 op op' r2
     go_upto_region 18 with (fail)
     have bz_0 := hbq.trans ((belowDrew wr 1).mono hbq.size)
     have bs_0 : Below wr.heap.size wr wr.drew := belowDrew wr 1
     have Qq_0 : wr.drew.heap[q]? = _ := Qq
     refine wp_region_held_drew (S := (fun w' => (∀ j, w'.cell? ⟨q, j, none⟩ = #[Value.slice a4 L.length c4][j]?) ∧ w'.cell? ⟨g, j, none⟩ = some (.slice (some ⟨bb, 0, none⟩) 2 2))) (by kernel_rfl) ?_ (fun hHeld => ?_)
     ·exact ⟨rowCells Qq_0, c1 bz_0⟩
     refine tk 0 67 ?_
     (try simp only [zP, zA, zB, zC])
     refine tk 1 68 ?_
     (try simp only [zP, zA, zB, zC])
     refine tk 2 69 ?_
     (try simp only [zP, zA, zB, zC])
     refine tk 3 70 ?_
     (try simp only [zP, zA, zB, zC])
     refine tk 4 71 ?_
     (try simp only [zP, zA, zB, zC])
     refine tk 6 73 ?_
     (try simp only [zP, zA, zB, zC])
     refine tk 7 74 ?_
     (try simp only [zP, zA, zB, zC])
     refine tk 8 75 ?_
     (try simp only [zP, zA, zB, zC])
     refine tk 9 76 ?_
     (try simp only [zP, zA, zB, zC])
     refine wpAnyH_ready (rs := [5]) (by kernel_rfl) (by simp) ?_
     refine AllReadyH.cons rfl (fun K hK => ?_) AllReadyH.nil
     go_simp
     refine (hg0 bz_0).mono ?_
     rintro e w' ⟨rfl, rfl⟩
     (try go_wp2_with (fail))
     refine hK.out _ _ ?_ (fun hHeld => ?_)
     ·exact ⟨rowCells Qq_0, c1 bz_0⟩
     clear hK K
     (try simp only [zP, zA, zB, zC])
     refine wpAnyH_ready (rs := [10]) (by kernel_rfl) (by simp) ?_
     refine AllReadyH.cons rfl (fun K hK => ?_) AllReadyH.nil
     go_simp
     refine (hg1 bz_0).mono ?_
     rintro e w' ⟨rfl, rfl⟩
     (try go_wp2_with (fail))
     refine hK.out _ _ ?_ (fun hHeld => ?_)
     ·exact ⟨rowCells Qq_0, c1 bz_0⟩
     clear hK K
     (try simp only [zP, zA, zB, zC])
     refine wpAnyH_ready (rs := [11]) (by kernel_rfl) (by simp) ?_
     refine AllReadyH.cons rfl (fun K hK => ?_) AllReadyH.nil
     go_simp
     refine (hsz _).mono ?_
     rintro e w_1 ⟨rfl, hb_1⟩
     have Qq_1 := keepHeap hb_1 Qq_0
     have bs_1 := bs_0.trans (hb_1.mono bs_0.size)
     have sz_1 := hb_1.size
     have bz_1 := bz_0.trans (hb_1.mono bz_0.size)
     (try go_wp2_with (fail))
     refine hK.out _ _ ?_ (fun hHeld => ?_)
     ·exact ⟨rowCells Qq_1, c1 bz_1⟩
     clear hK K
     (try simp only [zP, zA, zB, zC])
     refine wpAnyH_ready (rs := [12]) (by kernel_rfl) (by simp) ?_
     refine AllReadyH.cons rfl (fun K hK => ?_) AllReadyH.nil
     go_simp
     refine (hsol (rq.keep bs_1)).mono ?_
     rintro e w_2 ⟨rfl, hb_2⟩
     have Qq_2 := keepHeap hb_2 Qq_1
     have bs_2 := bs_1.trans (hb_2.mono bs_1.size)
     have sz_2 := hb_2.size
     have bz_2 := bz_1.trans (hb_2.mono bz_1.size)
     (try go_wp2_with (fail))
     refine hK.out _ _ ?_ (fun hHeld => ?_)
     ·exact ⟨rowCells Qq_2, c1 bz_2⟩
     clear hK K
     (try simp only [zP, zA, zB, zC])
     refine wpAnyH_done (by kernel_rfl) ?_ _
     go_wp2_with (fail)
     go_roundw
     case rel => exact ⟨j + 1, by omega, by go_num, bz_2⟩
     case measure => simp [intOf]; omega
    ·have hjn : ¬ (j : Int) < (N : Int) := by omega
     have hcn := solidAt_impl rq hLs 0 0 1 ⟨by omega, by omega⟩ ⟨by omega, by omega⟩
     rw [hcor] at hcn
     have cQ := rowCells Qq
     go_wp2_with (fail)
     refine hcn.mono ?_
     rintro e w9 ⟨rfl, hb9⟩
     go_wp2_with (fail)
     go_ret
     exact ⟨rfl, bwq.trans (hb9.mono bwq.size)⟩
end Go.Proofs.YtehjafaobaoleaaDoor
