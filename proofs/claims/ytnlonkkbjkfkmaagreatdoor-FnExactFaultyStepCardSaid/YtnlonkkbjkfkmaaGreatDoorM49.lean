/-
  Texts of this proof: FltL.
-/
import Derived.Test.YtnlonkkbjkfkmaaGreatDoorM48
import Derived.Test.YtnlonkkbjkfkmaaGreatDoorM37
namespace Go.Proofs.YtnlonkkbjkfkmaaGreatDoor
open Go.RowKit
set_option linter.all false
theorem OwnWIn.apartW {w w' : World} {lo hi l1 h1 : Nat} {x : Wd} {vl vs vb : Value} (h : OwnWIn w l1 h1 x vl vs vb) (hf : FarB lo hi w w') (hd : hi ≤ l1 ∨ h1 ≤ lo) : OwnWIn w' l1 h1 x vl vs vb := by
 obtain ⟨a1, b1, a2, b2, a3, b3, c1, c2, c3, d1, d2, d3, e1, e2, e3, e4⟩ := h
 exact ⟨a1, b1, a2, b2, a3, b3, c1, c2, c3, d1, d2, d3, e1.apart2 e2 hf (by omega), e2, e3.apart2 hf (by omega), e4.apart2 hf (by omega)⟩
theorem faultW_few {x : Wd} {row : List Int} {f : Ft} (h : x.few) : (faultW x row f).few := by
 have h1 := stepW_few (row := row) h
 unfold faultW
 split
 ·exact ⟨h1.1, by show (List.set _ _ _).length ≤ _; rw [List.length_set]; exact h1.2.1, h1.2.2⟩
 ·exact h1
set_option maxRecDepth 100000 in
set_option maxHeartbeats 8000000 in
theorem lawFaultyStep {w : World} (x : Wd) (vl vs vb : Value) (h : RdW w x vl vs vb) (hs : x.sane) (u : Value) (ys : List Int) (h' : RdI w u ys) (hs' : ys.length ≤ 9223372036854775807) (f : Ft) (wf : f.fits) :
  Calls Tryz.prog 4 #[.agg (wdC x vl vs vb), u, ftV f] w fun e w' => e = .returned (.bool true) ∧ Below w.heap.size w w' := by
 obtain ⟨ft, fp, fa⟩ := f
 have hft := fun W => toFault_any ⟨ft, fp, fa⟩ W
 have h0 := h
 obtain ⟨alA, clA, rfl, -⟩ := id h.1
 obtain ⟨aqA, cqA, rfl, -⟩ := id h.2.1
 obtain ⟨abA, cbA, rfl, -⟩ := id h.2.2
 obtain ⟨au, cu, rfl, -⟩ := id h'
 obtain ⟨w_1, hW, A_1, B_1, q0_1, -⟩ := rows2 w #[Value.slice alA x.rows.length clA, .int .i64 x.tick, .int .i64 x.seed, .slice aqA x.scores.length cqA, .slice abA x.bods.length cbA] #[.int .i64 ft, .int .i64 fp, .int .i64 fa] 46 48
 have sz_1 := q0_1.size
 have ltA : w.heap.size + 1 < w_1.heap.size := blockLt B_1
 have hly : (ys.length : Int) ≤ 9223372036854775807 := by omega
 unfold ftV at hft ⊢
 unfold wdC
 dsimp only at hft ⊢
 by_cases hbig : (1048576 : Int) < (ys.length : Int)
 ·have z0 : decide ((1048576 : Int) < (ys.length : Int)) = true := by simpa using hbig
  go_enter Tryz.func4, Tryz.ntmps4
  go_wp2_with (fail)
  go_ret
  exact ⟨rfl, q0_1⟩
 have z0 : decide ((1048576 : Int) < (ys.length : Int)) = false := by simpa using hbig
 have hyl : ys.length ≤ 1048576 := by omega
 go_enter Tryz.func4, Tryz.ntmps4
 have cA_1 := rowCells A_1
 have cB_1 := rowCells B_1
 go_wp2_with (fail)
 try rw [hW]
 clear hW
 refine (szWorld_any (h0.keep q0_1) hs 1048576 (by omega) (by omega)).mono ?_
 rintro e w_2 ⟨r, rfl, hr, hb_2⟩
 have q0_2 := q0_1.trans (hb_2.mono q0_1.size)
 have A_2 := keepHeap hb_2 A_1
 have B_2 := keepHeap hb_2 B_1
 have sz_2 := hb_2.size
 clear q0_1 A_1 B_1 cA_1 cB_1
 clear hb_2
 rcases hr with rfl | ⟨hr0, hr1⟩
 ·go_wp2_with (fail)
  go_ret
  exact ⟨rfl, q0_2⟩
 have zr : decide (r < 0) = false := by simpa using hr0
 have hn : x.few := ⟨by omega, by omega, by omega⟩
 have hX : x.marksN ≤ 100000000 := by unfold Wd.marksN; omega
 clear hr1 hbig
 have hto := fun {W : World} {vl vs vb : Value} (h1 : RdW W x vl vs vb) => toWorld_any h1 hn
 have hspec := fun {W : World} {vl vs vb u : Value} (h1 : RdW W x vl vs vb) (h2 : RdI W u ys) => faultyStep_spec h1 hs hn h2 hs' ⟨ft, fp, fa⟩
 have himpl := fun {W : World} {vl vs vb u : Value} (h1 : RdW W x vl vs vb) (h2 : RdI W u ys) => faultyStep_impl h1 hs hn h2 hs' ⟨ft, fp, fa⟩
 have hfy : (faultW x ys ⟨ft, fp, fa⟩).few := faultW_few hn
 generalize faultW x ys ⟨ft, fp, fa⟩ = y at hspec himpl hfy
 unfold ftV at hspec himpl
 dsimp only at hspec himpl
 have heqx := fun {W : World} {vl vs vb vl' vs' vb' : Value} (h1 : RdW W x vl vs vb) (h2 : RdW W x vl' vs' vb') => eqWorld_same h1 h2 hn
 have heq := fun {W : World} {vl vs vb vl' vs' vb' : Value} (h1 : RdW W y vl vs vb) (h2 : RdW W y vl' vs' vb') => eqWorld_same h1 h2 hfy
 have hmx := fun {W : World} {lo hi : Nat} {vl vs vb : Value} (h1 : OwnWIn W lo hi x vl vs vb) (h2 : hi ≤ W.heap.size) => markWorld_far h1 h2 hn 1 (by omega) (by omega)
 have hmk := fun {W : World} {lo hi : Nat} {vl vs vb : Value} (h1 : OwnWIn W lo hi y vl vs vb) (h2 : hi ≤ W.heap.size) => markWorld_far h1 h2 hfy 1 (by omega) (by omega)
 have hhd := fun {W : World} {vl vs vb : Value} (h1 : RdW W (y.marked 1) vl vs vb) => heldWorld_any y 1 h1 hfy (by omega) (by omega) y.tick y.seed
 rw [show ((1 : Nat) : Int) = 1 from rfl] at hmx hmk hhd
 unfold RetWd at hto
 unfold RetStW at hspec himpl
 unfold wdC at hto hspec himpl heqx heq hmx hmk
 obtain ⟨mX, hmX⟩ : ∃ m, m = 1 + x.marksN := ⟨_, rfl⟩
 obtain ⟨mN, hmN⟩ : ∃ m, m = 1 + y.marksN := ⟨_, rfl⟩
 rw [← hmX] at hmx
 rw [← hmN] at hmk hhd
 have hmx24 : (mX : Int) ≤ 1000000000 := by omega
 have zN : decide ((mN : Int) < 0) = false := by simp
 clear hmX hmN hX
 have cA_2 := rowCells A_2
 have cB_2 := rowCells B_2
 go_wp2_with (fail)
 go_cut [8] from 24 to 30 (fun q wq => ∃ (pt lo hi : Nat) (vl vs vb : Value), q = .pointer (some ⟨pt, 0, none⟩) ∧ wq.heap[pt]? = some (.cells (wdC y vl vs vb) 30 (0, 0)) ∧ OwnWIn wq lo hi y vl vs vb ∧ (pt < lo ∨ hi ≤ pt) ∧ w_2.heap.size ≤ lo ∧ hi ≤ wq.heap.size ∧ w_2.heap.size ≤ pt ∧ Below w_2.heap.size w_2 wq)
 case first =>
  have bs_0 : Below w_2.heap.size w_2 w_2.drew := belowDrew w_2 1
  refine wp_region_held_drew (S := (fun w' => (∀ j, w'.cell? ⟨w.heap.size, j, none⟩ = #[Value.slice alA x.rows.length clA, .int .i64 x.tick, .int .i64 x.seed, .slice aqA x.scores.length cqA, .slice abA x.bods.length cbA][j]?) ∧ (∀ j, w'.cell? ⟨w.heap.size + 1, j, none⟩ = #[Value.int .i64 ft, .int .i64 fp, .int .i64 fa][j]?))) (by kernel_rfl) ?_ (fun hHeld => ?_)
  ·exact ⟨rowCells (keepHeap bs_0 A_2), rowCells (keepHeap bs_0 B_2)⟩
  refine tk 0 24 ?_
  (try simp only [zP, zA, zB, zC])
  refine tk 2 26 ?_
  (try simp only [zP, zA, zB, zC])
  refine tk 4 28 ?_
  (try simp only [zP, zA, zB, zC])
  refine wpAnyH_ready (rs := [1, 7]) (by kernel_rfl) (by simp) ?_
  refine AllReadyH.cons rfl (fun K hK => ?_) (AllReadyH.cons rfl (fun K hK => ?_) AllReadyH.nil)
  ·go_simp
   refine (hto ((h0.keep q0_2).keep bs_0)).mono ?_
   rintro e u_1 ⟨vlt, vst, vbt, rfl, ot, -, hb_1⟩
   have bs_1 := bs_0.trans (hb_1.mono bs_0.size)
   have sz_1 := hb_1.size
   have qt_1 := Below.refl u_1.heap.size u_1
   have rdt := ot.rd
   obtain ⟨alt, clt, e0, -⟩ := id rdt.1
   subst e0
   obtain ⟨aqt, cqt, e0, -⟩ := id rdt.2.1
   subst e0
   obtain ⟨abt, cbt, e0, -⟩ := id rdt.2.2
   subst e0
   clear rdt
   (try go_wp2_with (fail))
   refine hK.out _ _ ?_ (fun hHeld => ?_)
   ·exact ⟨rowCells (keepHeap bs_1 A_2), rowCells (keepHeap bs_1 B_2)⟩
   clear hK K
   (try simp only [zP, zA, zB, zC])
   refine wpAnyH_ready (rs := [3, 7]) (by kernel_rfl) (by simp) ?_
   refine AllReadyH.cons rfl (fun K hK => ?_) (AllReadyH.cons rfl (fun K hK => ?_) AllReadyH.nil)
   ·go_simp
    refine (toIntS_cap ((h'.keep q0_2).keep bs_1) (by omega)).mono ?_
    rintro e u_2 ⟨vi, rfl, oi, -, hb_2⟩
    have bs_2 := bs_1.trans (hb_2.mono bs_1.size)
    have sz_2 := hb_2.size
    have qt_2 := qt_1.trans (hb_2.mono qt_1.size)
    have qi_2 := Below.refl u_2.heap.size u_2
    obtain ⟨ai, ci, e0, -⟩ := id oi.rd
    subst e0
    (try go_wp2_with (fail))
    refine hK.out _ _ ?_ (fun hHeld => ?_)
    ·exact ⟨rowCells (keepHeap bs_2 A_2), rowCells (keepHeap bs_2 B_2)⟩
    clear hK K
    (try simp only [zP, zA, zB, zC])
    refine wpAnyH_ready (rs := [5, 7]) (by kernel_rfl) (by simp) ?_
    refine AllReadyH.cons rfl (fun K hK => ?_) (AllReadyH.cons rfl (fun K hK => ?_) AllReadyH.nil)
    ·go_simp
     refine (hft _).mono ?_
     rintro e u_3 ⟨rfl, hb_3⟩
     have bs_3 := bs_2.trans (hb_3.mono bs_2.size)
     have sz_3 := hb_3.size
     have qt_3 := qt_2.trans (hb_3.mono qt_2.size)
     have qi_3 := qi_2.trans (hb_3.mono qi_2.size)
     (try go_wp2_with (fail))
     refine hK.out _ _ ?_ (fun hHeld => ?_)
     ·exact ⟨rowCells (keepHeap bs_3 A_2), rowCells (keepHeap bs_3 B_2)⟩
     clear hK K
     (try simp only [zP, zA, zB, zC])
     refine wpAnyH_ready (rs := [6, 7]) (by kernel_rfl) (by simp) ?_
     refine AllReadyH.cons rfl (fun K hK => ?_) (AllReadyH.cons rfl (fun K hK => ?_) AllReadyH.nil)
     ·go_simp
      refine (hspec (ot.rd.keep qt_3) (oi.rd.keep qi_3)).mono ?_
      rintro e u_4 ⟨vlz, vsz, vbz, rfl, ow_4, -, hb_4⟩
      have bs_4 := bs_3.trans (hb_4.mono bs_3.size)
      have sz_4 := hb_4.size
      have qt_4 := qt_3.trans (hb_4.mono qt_3.size)
      have qi_4 := qi_3.trans (hb_4.mono qi_3.size)
      obtain ⟨lo0, hi0, ow_4, hlo, hhi⟩ : ∃ lo hi, OwnWIn u_4 lo hi y vlz vsz vbz ∧ u_3.heap.size ≤ lo ∧ hi ≤ u_4.heap.size := ⟨_, _, ow_4, Nat.le_refl _, Nat.le_refl _⟩
      have rdz := ow_4.rd
      obtain ⟨alz, clz, e0, -⟩ := id rdz.1
      subst e0
      obtain ⟨aqz, cqz, e0, -⟩ := id rdz.2.1
      subst e0
      obtain ⟨abz, cbz, e0, -⟩ := id rdz.2.2
      subst e0
      clear rdz
      (try go_wp2_with (fail))
      refine hK.out _ _ ?_ (fun hHeld => ?_)
      ·exact ⟨rowCells (keepHeap bs_4 A_2), rowCells (keepHeap bs_4 B_2)⟩
      clear hK K
      (try simp only [zP, zA, zB, zC])
      refine wpAnyH_ready (rs := [7]) (by kernel_rfl) (by simp) ?_
      refine AllReadyH.cons rfl (fun K hK => ?_) AllReadyH.nil
      go_simp
      obtain ⟨u_5, hw_5, PZ_5, hb_5⟩ : ∃ W, u_4.alloc (.cells #[.slice none 0 0, .int .i64 0, .int .i64 0, .slice none 0 0, .slice none 0 0] 30) = W ∧ W.heap[u_4.heap.size]? = some (.cells #[.slice none 0 0, .int .i64 0, .int .i64 0, .slice none 0 0, .slice none 0 0] 30 (0, 0)) ∧ Below u_4.heap.size u_4 W := ⟨_, rfl, heap_alloc_new u_4 _, below1 u_4 _⟩
      try rw [hw_5]
      clear hw_5
      have bs_5 := bs_4.trans (hb_5.mono bs_4.size)
      have sz_5 := hb_5.size
      have qt_5 := qt_4.trans (hb_5.mono qt_4.size)
      have qi_5 := qi_4.trans (hb_5.mono qi_4.size)
      have ow_5 := ow_4.keep hb_5
      have hpl_5 := (Array.getElem?_eq_some_iff.1 PZ_5).1
      refine hK.out _ _ ?_ (fun hHeld => ?_)
      ·exact ⟨rowCells (keepHeap bs_5 A_2), rowCells (keepHeap bs_5 B_2)⟩
      clear hK K
      (try simp only [zP, zA, zB, zC])
      refine wpAnyH_ready (rs := [8]) (by kernel_rfl) (by simp) ?_
      refine AllReadyH.cons rfl (fun K hK => ?_) AllReadyH.nil
      have cn := rowCells PZ_5
      have fn := fun j => frozenHeap PZ_5 j
      go_simp
      have hsb := bs_5.size
      have hdr : w_2.drew.heap.size = w_2.heap.size := rfl
      have F_6 := putW_farB u_5 (u_4.heap.size) y (.slice alz y.rows.length clz) (.slice aqz y.scores.length cqz) (.slice abz y.bods.length cbz)
      have PZ_6 := putW_heap PZ_5 rfl y (.slice alz y.rows.length clz) (.slice aqz y.scores.length cqz) (.slice abz y.bods.length cbz)
      have bs_6 := putW_below bs_5 (c := u_4.heap.size) (by first | omega | (simp; done) | (simp; omega)) y (.slice alz y.rows.length clz) (.slice aqz y.scores.length cqz) (.slice abz y.bods.length cbz)
      have ow_6 := ow_5.apartW F_6 (by first | omega | (simp at *; omega))
      obtain ⟨u_6, hw_6⟩ : ∃ W, putW u_5 (u_4.heap.size) y (.slice alz y.rows.length clz) (.slice aqz y.scores.length cqz) (.slice abz y.bods.length cbz) = W := ⟨_, rfl⟩
      have hz_6 : u_6.heap.size = u_5.heap.size := by rw [← hw_6]; simp [putW]
      rw [hw_6] at PZ_6 bs_6 ow_6
      unfold putW at hw_6
      try rw [hw_6]
      clear hw_6 cn fn F_6
      refine hK.out _ _ ?_ (fun hHeld => ?_)
      ·exact ⟨rowCells (keepHeap bs_6 A_2), rowCells (keepHeap bs_6 B_2)⟩
      clear hK K
      (try simp only [zP, zA, zB, zC])
      refine wpAnyH_done (by kernel_rfl) ?_ _
      have hszf := bs_6.size
      go_wp2_with (fail)
      go_meet
      case rel => exact ⟨_, _, _, _, _, _, rfl, PZ_6, ow_6, by first | omega | (simp at *; omega), by first | omega | (simp at *; omega), by first | omega | (simp at *; omega), by first | omega | (simp at *; omega), bs_6⟩
     ·go_simp
      obtain ⟨u_4, hw_4, PZ_4, hb_4⟩ : ∃ W, u_3.alloc (.cells #[.slice none 0 0, .int .i64 0, .int .i64 0, .slice none 0 0, .slice none 0 0] 30) = W ∧ W.heap[u_3.heap.size]? = some (.cells #[.slice none 0 0, .int .i64 0, .int .i64 0, .slice none 0 0, .slice none 0 0] 30 (0, 0)) ∧ Below u_3.heap.size u_3 W := ⟨_, rfl, heap_alloc_new u_3 _, below1 u_3 _⟩
      try rw [hw_4]
      clear hw_4
      have bs_4 := bs_3.trans (hb_4.mono bs_3.size)
      have sz_4 := hb_4.size
      have qt_4 := qt_3.trans (hb_4.mono qt_3.size)
      have qi_4 := qi_3.trans (hb_4.mono qi_3.size)
      have hpl_4 := (Array.getElem?_eq_some_iff.1 PZ_4).1
      refine hK.out _ _ ?_ (fun hHeld => ?_)
      ·exact ⟨rowCells (keepHeap bs_4 A_2), rowCells (keepHeap bs_4 B_2)⟩
      clear hK K
      (try simp only [zP, zA, zB, zC])
      refine wpAnyH_ready (rs := [6]) (by kernel_rfl) (by simp) ?_
      refine AllReadyH.cons rfl (fun K hK => ?_) AllReadyH.nil
      go_simp
      refine (hspec (ot.rd.keep qt_4) (oi.rd.keep qi_4)).mono ?_
      rintro e u_5 ⟨vlz, vsz, vbz, rfl, ow_5, -, hb_5⟩
      have bs_5 := bs_4.trans (hb_5.mono bs_4.size)
      have sz_5 := hb_5.size
      have qt_5 := qt_4.trans (hb_5.mono qt_4.size)
      have qi_5 := qi_4.trans (hb_5.mono qi_4.size)
      have PZ_5 := keepHeap hb_5 PZ_4
      obtain ⟨lo0, hi0, ow_5, hlo, hhi⟩ : ∃ lo hi, OwnWIn u_5 lo hi y vlz vsz vbz ∧ u_4.heap.size ≤ lo ∧ hi ≤ u_5.heap.size := ⟨_, _, ow_5, Nat.le_refl _, Nat.le_refl _⟩
      have rdz := ow_5.rd
      obtain ⟨alz, clz, e0, -⟩ := id rdz.1
      subst e0
      obtain ⟨aqz, cqz, e0, -⟩ := id rdz.2.1
      subst e0
      obtain ⟨abz, cbz, e0, -⟩ := id rdz.2.2
      subst e0
      clear rdz
      (try go_wp2_with (fail))
      refine hK.out _ _ ?_ (fun hHeld => ?_)
      ·exact ⟨rowCells (keepHeap bs_5 A_2), rowCells (keepHeap bs_5 B_2)⟩
      clear hK K
      (try simp only [zP, zA, zB, zC])
      refine wpAnyH_ready (rs := [8]) (by kernel_rfl) (by simp) ?_
      refine AllReadyH.cons rfl (fun K hK => ?_) AllReadyH.nil
      have cn := rowCells PZ_5
      have fn := fun j => frozenHeap PZ_5 j
      go_simp
      have hsb := bs_5.size
      have hdr : w_2.drew.heap.size = w_2.heap.size := rfl
      have F_6 := putW_farB u_5 (u_3.heap.size) y (.slice alz y.rows.length clz) (.slice aqz y.scores.length cqz) (.slice abz y.bods.length cbz)
      have PZ_6 := putW_heap PZ_5 rfl y (.slice alz y.rows.length clz) (.slice aqz y.scores.length cqz) (.slice abz y.bods.length cbz)
      have bs_6 := putW_below bs_5 (c := u_3.heap.size) (by first | omega | (simp; done) | (simp; omega)) y (.slice alz y.rows.length clz) (.slice aqz y.scores.length cqz) (.slice abz y.bods.length cbz)
      have ow_6 := ow_5.apartW F_6 (by first | omega | (simp at *; omega))
      obtain ⟨u_6, hw_6⟩ : ∃ W, putW u_5 (u_3.heap.size) y (.slice alz y.rows.length clz) (.slice aqz y.scores.length cqz) (.slice abz y.bods.length cbz) = W := ⟨_, rfl⟩
      have hz_6 : u_6.heap.size = u_5.heap.size := by rw [← hw_6]; simp [putW]
      rw [hw_6] at PZ_6 bs_6 ow_6
      unfold putW at hw_6
      try rw [hw_6]
      clear hw_6 cn fn F_6
      refine hK.out _ _ ?_ (fun hHeld => ?_)
      ·exact ⟨rowCells (keepHeap bs_6 A_2), rowCells (keepHeap bs_6 B_2)⟩
      clear hK K
      (try simp only [zP, zA, zB, zC])
      refine wpAnyH_done (by kernel_rfl) ?_ _
      have hszf := bs_6.size
      go_wp2_with (fail)
      go_meet
      case rel => exact ⟨_, _, _, _, _, _, rfl, PZ_6, ow_6, by first | omega | (simp at *; omega), by first | omega | (simp at *; omega), by first | omega | (simp at *; omega), by first | omega | (simp at *; omega), bs_6⟩
    ·go_simp
     obtain ⟨u_3, hw_3, PZ_3, hb_3⟩ : ∃ W, u_2.alloc (.cells #[.slice none 0 0, .int .i64 0, .int .i64 0, .slice none 0 0, .slice none 0 0] 30) = W ∧ W.heap[u_2.heap.size]? = some (.cells #[.slice none 0 0, .int .i64 0, .int .i64 0, .slice none 0 0, .slice none 0 0] 30 (0, 0)) ∧ Below u_2.heap.size u_2 W := ⟨_, rfl, heap_alloc_new u_2 _, below1 u_2 _⟩
     try rw [hw_3]
     clear hw_3
     have bs_3 := bs_2.trans (hb_3.mono bs_2.size)
     have sz_3 := hb_3.size
     have qt_3 := qt_2.trans (hb_3.mono qt_2.size)
     have qi_3 := qi_2.trans (hb_3.mono qi_2.size)
     have hpl_3 := (Array.getElem?_eq_some_iff.1 PZ_3).1
     refine hK.out _ _ ?_ (fun hHeld => ?_)
     ·exact ⟨rowCells (keepHeap bs_3 A_2), rowCells (keepHeap bs_3 B_2)⟩
     clear hK K
     (try simp only [zP, zA, zB, zC])
     refine wpAnyH_ready (rs := [5]) (by kernel_rfl) (by simp) ?_
     refine AllReadyH.cons rfl (fun K hK => ?_) AllReadyH.nil
     go_simp
     refine (hft _).mono ?_
     rintro e u_4 ⟨rfl, hb_4⟩
     have bs_4 := bs_3.trans (hb_4.mono bs_3.size)
     have sz_4 := hb_4.size
     have qt_4 := qt_3.trans (hb_4.mono qt_3.size)
     have qi_4 := qi_3.trans (hb_4.mono qi_3.size)
     have PZ_4 := keepHeap hb_4 PZ_3
     (try go_wp2_with (fail))
     refine hK.out _ _ ?_ (fun hHeld => ?_)
     ·exact ⟨rowCells (keepHeap bs_4 A_2), rowCells (keepHeap bs_4 B_2)⟩
     clear hK K
     (try simp only [zP, zA, zB, zC])
     refine wpAnyH_ready (rs := [6]) (by kernel_rfl) (by simp) ?_
     refine AllReadyH.cons rfl (fun K hK => ?_) AllReadyH.nil
     go_simp
     refine (hspec (ot.rd.keep qt_4) (oi.rd.keep qi_4)).mono ?_
     rintro e u_5 ⟨vlz, vsz, vbz, rfl, ow_5, -, hb_5⟩
     have bs_5 := bs_4.trans (hb_5.mono bs_4.size)
     have sz_5 := hb_5.size
     have qt_5 := qt_4.trans (hb_5.mono qt_4.size)
     have qi_5 := qi_4.trans (hb_5.mono qi_4.size)
     have PZ_5 := keepHeap hb_5 PZ_4
     obtain ⟨lo0, hi0, ow_5, hlo, hhi⟩ : ∃ lo hi, OwnWIn u_5 lo hi y vlz vsz vbz ∧ u_4.heap.size ≤ lo ∧ hi ≤ u_5.heap.size := ⟨_, _, ow_5, Nat.le_refl _, Nat.le_refl _⟩
     have rdz := ow_5.rd
     obtain ⟨alz, clz, e0, -⟩ := id rdz.1
     subst e0
     obtain ⟨aqz, cqz, e0, -⟩ := id rdz.2.1
     subst e0
     obtain ⟨abz, cbz, e0, -⟩ := id rdz.2.2
     subst e0
     clear rdz
     (try go_wp2_with (fail))
     refine hK.out _ _ ?_ (fun hHeld => ?_)
     ·exact ⟨rowCells (keepHeap bs_5 A_2), rowCells (keepHeap bs_5 B_2)⟩
     clear hK K
     (try simp only [zP, zA, zB, zC])
     refine wpAnyH_ready (rs := [8]) (by kernel_rfl) (by simp) ?_
     refine AllReadyH.cons rfl (fun K hK => ?_) AllReadyH.nil
     have cn := rowCells PZ_5
     have fn := fun j => frozenHeap PZ_5 j
     go_simp
     have hsb := bs_5.size
     have hdr : w_2.drew.heap.size = w_2.heap.size := rfl
     have F_6 := putW_farB u_5 (u_2.heap.size) y (.slice alz y.rows.length clz) (.slice aqz y.scores.length cqz) (.slice abz y.bods.length cbz)
     have PZ_6 := putW_heap PZ_5 rfl y (.slice alz y.rows.length clz) (.slice aqz y.scores.length cqz) (.slice abz y.bods.length cbz)
     have bs_6 := putW_below bs_5 (c := u_2.heap.size) (by first | omega | (simp; done) | (simp; omega)) y (.slice alz y.rows.length clz) (.slice aqz y.scores.length cqz) (.slice abz y.bods.length cbz)
     have ow_6 := ow_5.apartW F_6 (by first | omega | (simp at *; omega))
     obtain ⟨u_6, hw_6⟩ : ∃ W, putW u_5 (u_2.heap.size) y (.slice alz y.rows.length clz) (.slice aqz y.scores.length cqz) (.slice abz y.bods.length cbz) = W := ⟨_, rfl⟩
     have hz_6 : u_6.heap.size = u_5.heap.size := by rw [← hw_6]; simp [putW]
     rw [hw_6] at PZ_6 bs_6 ow_6
     unfold putW at hw_6
     try rw [hw_6]
     clear hw_6 cn fn F_6
     refine hK.out _ _ ?_ (fun hHeld => ?_)
     ·exact ⟨rowCells (keepHeap bs_6 A_2), rowCells (keepHeap bs_6 B_2)⟩
     clear hK K
     (try simp only [zP, zA, zB, zC])
     refine wpAnyH_done (by kernel_rfl) ?_ _
     have hszf := bs_6.size
     go_wp2_with (fail)
     go_meet
     case rel => exact ⟨_, _, _, _, _, _, rfl, PZ_6, ow_6, by first | omega | (simp at *; omega), by first | omega | (simp at *; omega), by first | omega | (simp at *; omega), by first | omega | (simp at *; omega), bs_6⟩
   ·go_simp
    obtain ⟨u_2, hw_2, PZ_2, hb_2⟩ : ∃ W, u_1.alloc (.cells #[.slice none 0 0, .int .i64 0, .int .i64 0, .slice none 0 0, .slice none 0 0] 30) = W ∧ W.heap[u_1.heap.size]? = some (.cells #[.slice none 0 0, .int .i64 0, .int .i64 0, .slice none 0 0, .slice none 0 0] 30 (0, 0)) ∧ Below u_1.heap.size u_1 W := ⟨_, rfl, heap_alloc_new u_1 _, below1 u_1 _⟩
    try rw [hw_2]
    clear hw_2
    have bs_2 := bs_1.trans (hb_2.mono bs_1.size)
    have sz_2 := hb_2.size
    have qt_2 := qt_1.trans (hb_2.mono qt_1.size)
    have hpl_2 := (Array.getElem?_eq_some_iff.1 PZ_2).1
    refine hK.out _ _ ?_ (fun hHeld => ?_)
    ·exact ⟨rowCells (keepHeap bs_2 A_2), rowCells (keepHeap bs_2 B_2)⟩
    clear hK K
    (try simp only [zP, zA, zB, zC])
    refine wpAnyH_ready (rs := [3]) (by kernel_rfl) (by simp) ?_
    refine AllReadyH.cons rfl (fun K hK => ?_) AllReadyH.nil
    go_simp
    refine (toIntS_cap ((h'.keep q0_2).keep bs_2) (by omega)).mono ?_
    rintro e u_3 ⟨vi, rfl, oi, -, hb_3⟩
    have bs_3 := bs_2.trans (hb_3.mono bs_2.size)
    have sz_3 := hb_3.size
    have qt_3 := qt_2.trans (hb_3.mono qt_2.size)
    have PZ_3 := keepHeap hb_3 PZ_2
    have qi_3 := Below.refl u_3.heap.size u_3
    obtain ⟨ai, ci, e0, -⟩ := id oi.rd
    subst e0
    (try go_wp2_with (fail))
    refine hK.out _ _ ?_ (fun hHeld => ?_)
    ·exact ⟨rowCells (keepHeap bs_3 A_2), rowCells (keepHeap bs_3 B_2)⟩
    clear hK K
    (try simp only [zP, zA, zB, zC])
    refine wpAnyH_ready (rs := [5]) (by kernel_rfl) (by simp) ?_
    refine AllReadyH.cons rfl (fun K hK => ?_) AllReadyH.nil
    go_simp
    refine (hft _).mono ?_
    rintro e u_4 ⟨rfl, hb_4⟩
    have bs_4 := bs_3.trans (hb_4.mono bs_3.size)
    have sz_4 := hb_4.size
    have qt_4 := qt_3.trans (hb_4.mono qt_3.size)
    have qi_4 := qi_3.trans (hb_4.mono qi_3.size)
    have PZ_4 := keepHeap hb_4 PZ_3
    (try go_wp2_with (fail))
    refine hK.out _ _ ?_ (fun hHeld => ?_)
    ·exact ⟨rowCells (keepHeap bs_4 A_2), rowCells (keepHeap bs_4 B_2)⟩
    clear hK K
    (try simp only [zP, zA, zB, zC])
    refine wpAnyH_ready (rs := [6]) (by kernel_rfl) (by simp) ?_
    refine AllReadyH.cons rfl (fun K hK => ?_) AllReadyH.nil
    go_simp
    refine (hspec (ot.rd.keep qt_4) (oi.rd.keep qi_4)).mono ?_
    rintro e u_5 ⟨vlz, vsz, vbz, rfl, ow_5, -, hb_5⟩
    have bs_5 := bs_4.trans (hb_5.mono bs_4.size)
    have sz_5 := hb_5.size
    have qt_5 := qt_4.trans (hb_5.mono qt_4.size)
    have qi_5 := qi_4.trans (hb_5.mono qi_4.size)
    have PZ_5 := keepHeap hb_5 PZ_4
    obtain ⟨lo0, hi0, ow_5, hlo, hhi⟩ : ∃ lo hi, OwnWIn u_5 lo hi y vlz vsz vbz ∧ u_4.heap.size ≤ lo ∧ hi ≤ u_5.heap.size := ⟨_, _, ow_5, Nat.le_refl _, Nat.le_refl _⟩
    have rdz := ow_5.rd
    obtain ⟨alz, clz, e0, -⟩ := id rdz.1
    subst e0
    obtain ⟨aqz, cqz, e0, -⟩ := id rdz.2.1
    subst e0
    obtain ⟨abz, cbz, e0, -⟩ := id rdz.2.2
    subst e0
    clear rdz
    (try go_wp2_with (fail))
    refine hK.out _ _ ?_ (fun hHeld => ?_)
    ·exact ⟨rowCells (keepHeap bs_5 A_2), rowCells (keepHeap bs_5 B_2)⟩
    clear hK K
    (try simp only [zP, zA, zB, zC])
    refine wpAnyH_ready (rs := [8]) (by kernel_rfl) (by simp) ?_
    refine AllReadyH.cons rfl (fun K hK => ?_) AllReadyH.nil
    have cn := rowCells PZ_5
    have fn := fun j => frozenHeap PZ_5 j
    go_simp
    have hsb := bs_5.size
    have hdr : w_2.drew.heap.size = w_2.heap.size := rfl
    have F_6 := putW_farB u_5 (u_1.heap.size) y (.slice alz y.rows.length clz) (.slice aqz y.scores.length cqz) (.slice abz y.bods.length cbz)
    have PZ_6 := putW_heap PZ_5 rfl y (.slice alz y.rows.length clz) (.slice aqz y.scores.length cqz) (.slice abz y.bods.length cbz)
    have bs_6 := putW_below bs_5 (c := u_1.heap.size) (by first | omega | (simp; done) | (simp; omega)) y (.slice alz y.rows.length clz) (.slice aqz y.scores.length cqz) (.slice abz y.bods.length cbz)
    have ow_6 := ow_5.apartW F_6 (by first | omega | (simp at *; omega))
    obtain ⟨u_6, hw_6⟩ : ∃ W, putW u_5 (u_1.heap.size) y (.slice alz y.rows.length clz) (.slice aqz y.scores.length cqz) (.slice abz y.bods.length cbz) = W := ⟨_, rfl⟩
    have hz_6 : u_6.heap.size = u_5.heap.size := by rw [← hw_6]; simp [putW]
    rw [hw_6] at PZ_6 bs_6 ow_6
    unfold putW at hw_6
    try rw [hw_6]
    clear hw_6 cn fn F_6
    refine hK.out _ _ ?_ (fun hHeld => ?_)
    ·exact ⟨rowCells (keepHeap bs_6 A_2), rowCells (keepHeap bs_6 B_2)⟩
    clear hK K
    (try simp only [zP, zA, zB, zC])
    refine wpAnyH_done (by kernel_rfl) ?_ _
    have hszf := bs_6.size
    go_wp2_with (fail)
    go_meet
    case rel => exact ⟨_, _, _, _, _, _, rfl, PZ_6, ow_6, by first | omega | (simp at *; omega), by first | omega | (simp at *; omega), by first | omega | (simp at *; omega), by first | omega | (simp at *; omega), bs_6⟩
  ·go_simp
   obtain ⟨u_1, hw_1, PZ_1, hb_1⟩ : ∃ W, (w_2.alloc (.cells #[.slice none 0 0, .int .i64 0, .int .i64 0, .slice none 0 0, .slice none 0 0] 30)).drew = W ∧ W.heap[w_2.heap.size]? = some (.cells #[.slice none 0 0, .int .i64 0, .int .i64 0, .slice none 0 0, .slice none 0 0] 30 (0, 0)) ∧ Below w_2.drew.heap.size w_2.drew W := ⟨_, rfl, heap_alloc_new w_2.drew _, below1 w_2.drew _⟩
   try rw [hw_1]
   clear hw_1
   have bs_1 := bs_0.trans (hb_1.mono bs_0.size)
   have sz_1 := hb_1.size
   have hpl_1 := (Array.getElem?_eq_some_iff.1 PZ_1).1
   refine hK.out _ _ ?_ (fun hHeld => ?_)
   ·exact ⟨rowCells (keepHeap bs_1 A_2), rowCells (keepHeap bs_1 B_2)⟩
   clear hK K
   (try simp only [zP, zA, zB, zC])
   refine wpAnyH_ready (rs := [1]) (by kernel_rfl) (by simp) ?_
   refine AllReadyH.cons rfl (fun K hK => ?_) AllReadyH.nil
   go_simp
   refine (hto ((h0.keep q0_2).keep bs_1)).mono ?_
   rintro e u_2 ⟨vlt, vst, vbt, rfl, ot, -, hb_2⟩
   have bs_2 := bs_1.trans (hb_2.mono bs_1.size)
   have sz_2 := hb_2.size
   have PZ_2 := keepHeap hb_2 PZ_1
   have qt_2 := Below.refl u_2.heap.size u_2
   have rdt := ot.rd
   obtain ⟨alt, clt, e0, -⟩ := id rdt.1
   subst e0
   obtain ⟨aqt, cqt, e0, -⟩ := id rdt.2.1
   subst e0
   obtain ⟨abt, cbt, e0, -⟩ := id rdt.2.2
   subst e0
   clear rdt
   (try go_wp2_with (fail))
   refine hK.out _ _ ?_ (fun hHeld => ?_)
   ·exact ⟨rowCells (keepHeap bs_2 A_2), rowCells (keepHeap bs_2 B_2)⟩
   clear hK K
   (try simp only [zP, zA, zB, zC])
   refine wpAnyH_ready (rs := [3]) (by kernel_rfl) (by simp) ?_
   refine AllReadyH.cons rfl (fun K hK => ?_) AllReadyH.nil
   go_simp
   refine (toIntS_cap ((h'.keep q0_2).keep bs_2) (by omega)).mono ?_
   rintro e u_3 ⟨vi, rfl, oi, -, hb_3⟩
   have bs_3 := bs_2.trans (hb_3.mono bs_2.size)
   have sz_3 := hb_3.size
   have qt_3 := qt_2.trans (hb_3.mono qt_2.size)
   have PZ_3 := keepHeap hb_3 PZ_2
   have qi_3 := Below.refl u_3.heap.size u_3
   obtain ⟨ai, ci, e0, -⟩ := id oi.rd
   subst e0
   (try go_wp2_with (fail))
   refine hK.out _ _ ?_ (fun hHeld => ?_)
   ·exact ⟨rowCells (keepHeap bs_3 A_2), rowCells (keepHeap bs_3 B_2)⟩
   clear hK K
   (try simp only [zP, zA, zB, zC])
   refine wpAnyH_ready (rs := [5]) (by kernel_rfl) (by simp) ?_
   refine AllReadyH.cons rfl (fun K hK => ?_) AllReadyH.nil
   go_simp
   refine (hft _).mono ?_
   rintro e u_4 ⟨rfl, hb_4⟩
   have bs_4 := bs_3.trans (hb_4.mono bs_3.size)
   have sz_4 := hb_4.size
   have qt_4 := qt_3.trans (hb_4.mono qt_3.size)
   have qi_4 := qi_3.trans (hb_4.mono qi_3.size)
   have PZ_4 := keepHeap hb_4 PZ_3
   (try go_wp2_with (fail))
   refine hK.out _ _ ?_ (fun hHeld => ?_)
   ·exact ⟨rowCells (keepHeap bs_4 A_2), rowCells (keepHeap bs_4 B_2)⟩
   clear hK K
   (try simp only [zP, zA, zB, zC])
   refine wpAnyH_ready (rs := [6]) (by kernel_rfl) (by simp) ?_
   refine AllReadyH.cons rfl (fun K hK => ?_) AllReadyH.nil
   go_simp
   refine (hspec (ot.rd.keep qt_4) (oi.rd.keep qi_4)).mono ?_
   rintro e u_5 ⟨vlz, vsz, vbz, rfl, ow_5, -, hb_5⟩
   have bs_5 := bs_4.trans (hb_5.mono bs_4.size)
   have sz_5 := hb_5.size
   have qt_5 := qt_4.trans (hb_5.mono qt_4.size)
   have qi_5 := qi_4.trans (hb_5.mono qi_4.size)
   have PZ_5 := keepHeap hb_5 PZ_4
   obtain ⟨lo0, hi0, ow_5, hlo, hhi⟩ : ∃ lo hi, OwnWIn u_5 lo hi y vlz vsz vbz ∧ u_4.heap.size ≤ lo ∧ hi ≤ u_5.heap.size := ⟨_, _, ow_5, Nat.le_refl _, Nat.le_refl _⟩
   have rdz := ow_5.rd
   obtain ⟨alz, clz, e0, -⟩ := id rdz.1
   subst e0
   obtain ⟨aqz, cqz, e0, -⟩ := id rdz.2.1
   subst e0
   obtain ⟨abz, cbz, e0, -⟩ := id rdz.2.2
   subst e0
   clear rdz
   (try go_wp2_with (fail))
   refine hK.out _ _ ?_ (fun hHeld => ?_)
   ·exact ⟨rowCells (keepHeap bs_5 A_2), rowCells (keepHeap bs_5 B_2)⟩
   clear hK K
   (try simp only [zP, zA, zB, zC])
   refine wpAnyH_ready (rs := [8]) (by kernel_rfl) (by simp) ?_
   refine AllReadyH.cons rfl (fun K hK => ?_) AllReadyH.nil
   have cn := rowCells PZ_5
   have fn := fun j => frozenHeap PZ_5 j
   go_simp
   have hsb := bs_5.size
   have hdr : w_2.drew.heap.size = w_2.heap.size := rfl
   have F_6 := putW_farB u_5 (w_2.heap.size) y (.slice alz y.rows.length clz) (.slice aqz y.scores.length cqz) (.slice abz y.bods.length cbz)
   have PZ_6 := putW_heap PZ_5 rfl y (.slice alz y.rows.length clz) (.slice aqz y.scores.length cqz) (.slice abz y.bods.length cbz)
   have bs_6 := putW_below bs_5 (c := w_2.heap.size) (by first | omega | (simp; done) | (simp; omega)) y (.slice alz y.rows.length clz) (.slice aqz y.scores.length cqz) (.slice abz y.bods.length cbz)
   have ow_6 := ow_5.apartW F_6 (by first | omega | (simp at *; omega))
   obtain ⟨u_6, hw_6⟩ : ∃ W, putW u_5 (w_2.heap.size) y (.slice alz y.rows.length clz) (.slice aqz y.scores.length cqz) (.slice abz y.bods.length cbz) = W := ⟨_, rfl⟩
   have hz_6 : u_6.heap.size = u_5.heap.size := by rw [← hw_6]; simp [putW]
   rw [hw_6] at PZ_6 bs_6 ow_6
   unfold putW at hw_6
   try rw [hw_6]
   clear hw_6 cn fn F_6
   refine hK.out _ _ ?_ (fun hHeld => ?_)
   ·exact ⟨rowCells (keepHeap bs_6 A_2), rowCells (keepHeap bs_6 B_2)⟩
   clear hK K
   (try simp only [zP, zA, zB, zC])
   refine wpAnyH_done (by kernel_rfl) ?_ _
   have hszf := bs_6.size
   go_wp2_with (fail)
   go_meet
   case rel => exact ⟨_, _, _, _, _, _, rfl, PZ_6, ow_6, by first | omega | (simp at *; omega), by first | omega | (simp at *; omega), by first | omega | (simp at *; omega), by first | omega | (simp at *; omega), bs_6⟩
 obtain ⟨ptP, loP, hiP, vlP, vsP, vbP, rfl, P_C, oP, hdP, hloP, hhiP, hptP, hbCP⟩ := hcut
 obtain ⟨wCP, ew⟩ : ∃ W, W = wc := ⟨_, rfl⟩
 subst ew
 have q0_3 := q0_2.trans (hbCP.mono q0_2.size)
 have A_3 := keepHeap hbCP A_2
 have B_3 := keepHeap hbCP B_2
 have sz_3 := hbCP.size
 clear q0_2 A_2 B_2 cA_2 cB_2
 have rdP := oP.rd
 obtain ⟨alP, clP, rfl, -⟩ := id rdP.1
 obtain ⟨aqP, cqP, rfl, -⟩ := id rdP.2.1
 obtain ⟨abP, cbP, rfl, -⟩ := id rdP.2.2
 clear rdP
 unfold wdC at P_C
 have ltP := (Array.getElem?_eq_some_iff.1 P_C).1
 have qSP_3 : Below wCP.heap.size wCP wCP := Below.refl _ _
 have cA_3 := rowCells A_3
 go_wp2_with (fail)
 refine (hto (h0.keep q0_3)).mono ?_
 rintro e w_4 ⟨vlX, vsX, vbX, rfl, oX, kX, hb_4⟩
 have q0_4 := q0_3.trans (hb_4.mono q0_3.size)
 have qSP_4 := qSP_3.trans (hb_4.mono qSP_3.size)
 have A_4 := keepHeap hb_4 A_3
 have B_4 := keepHeap hb_4 B_3
 have P_4 := keepHeap hb_4 P_C
 have sz_4 := hb_4.size
 clear q0_3 qSP_3 A_3 B_3 P_C cA_3
 clear hb_4
 have qTX_4 : Below w_4.heap.size w_4 w_4 := Below.refl _ _
 have rdX := oX.rd
 obtain ⟨alX, clX, rfl, -⟩ := id rdX.1
 obtain ⟨aqX, cqX, rfl, -⟩ := id rdX.2.1
 obtain ⟨abX, cbX, rfl, -⟩ := id rdX.2.2
 clear rdX
 obtain ⟨w_5, hw_5, X_5, hb_5⟩ : ∃ W, w_4.alloc (.cells #[Value.slice alX x.rows.length clX, .int .i64 x.tick, .int .i64 x.seed, .slice aqX x.scores.length cqX, .slice abX x.bods.length cbX] 30) = W ∧ W.heap[w_4.heap.size]? = some (.cells #[Value.slice alX x.rows.length clX, .int .i64 x.tick, .int .i64 x.seed, .slice aqX x.scores.length cqX, .slice abX x.bods.length cbX] 30 (0, 0)) ∧ Below w_4.heap.size w_4 W := ⟨_, rfl, heap_alloc_new _ _, below1 _ _⟩
 have q0_5 := q0_4.trans (hb_5.mono q0_4.size)
 have qSP_5 := qSP_4.trans (hb_5.mono qSP_4.size)
 have qTX_5 := qTX_4.trans (hb_5.mono qTX_4.size)
 have A_5 := keepHeap hb_5 A_4
 have B_5 := keepHeap hb_5 B_4
 have P_5 := keepHeap hb_5 P_4
 have sz_5 := hb_5.size
 clear q0_4 qSP_4 qTX_4 A_4 B_4 P_4
 clear hb_5
 have ltX : w_4.heap.size < w_5.heap.size := blockLt X_5
 have cA_5 := rowCells A_5
 have cB_5 := rowCells B_5
 have cP_5 := rowCells P_5
 have cX_5 := rowCells X_5
 go_wp2_with (fail)
 try rw [hw_5]
 clear hw_5
 refine (toIntS_cap (h'.keep q0_5) (by omega)).mono ?_
 rintro e w_6 ⟨vy, rfl, oy, ky, hb_6⟩
 have q0_6 := q0_5.trans (hb_6.mono q0_5.size)
 have qSP_6 := qSP_5.trans (hb_6.mono qSP_5.size)
 have qTX_6 := qTX_5.trans (hb_6.mono qTX_5.size)
 have A_6 := keepHeap hb_6 A_5
 have B_6 := keepHeap hb_6 B_5
 have P_6 := keepHeap hb_6 P_5
 have X_6 := keepHeap hb_6 X_5
 have sz_6 := hb_6.size
 clear q0_5 qSP_5 qTX_5 A_5 B_5 P_5 X_5 cA_5 cB_5 cP_5 cX_5
 clear hb_6
 have qTy_6 : Below w_6.heap.size w_6 w_6 := Below.refl _ _
 obtain ⟨ay, cy, rfl, -⟩ := id oy.rd
 have cA_6 := rowCells A_6
 have cB_6 := rowCells B_6
 have cP_6 := rowCells P_6
 have cX_6 := rowCells X_6
 go_wp2_with (fail)
 go_cut [11] from 35 to 39 (fun q wq => ∃ (pt lo hi : Nat) (vl vs vb : Value), q = .pointer (some ⟨pt, 0, none⟩) ∧ wq.heap[pt]? = some (.cells (wdC y vl vs vb) 30 (0, 0)) ∧ OwnWIn wq lo hi y vl vs vb ∧ (pt < lo ∨ hi ≤ pt) ∧ w_6.heap.size ≤ lo ∧ hi ≤ wq.heap.size ∧ w_6.heap.size ≤ pt ∧ Below w_6.heap.size w_6 wq)
 case first =>
  have bs_0 : Below w_6.heap.size w_6 w_6.drew := belowDrew w_6 1
  refine wp_region_held_drew (S := (fun w' => (∀ j, w'.cell? ⟨w_4.heap.size, j, none⟩ = #[Value.slice alX x.rows.length clX, .int .i64 x.tick, .int .i64 x.seed, .slice aqX x.scores.length cqX, .slice abX x.bods.length cbX][j]?) ∧ (∀ j, w'.cell? ⟨w.heap.size + 1, j, none⟩ = #[Value.int .i64 ft, .int .i64 fp, .int .i64 fa][j]?))) (by kernel_rfl) ?_ (fun hHeld => ?_)
  ·exact ⟨rowCells (keepHeap bs_0 X_6), rowCells (keepHeap bs_0 B_6)⟩
  refine tk 0 35 ?_
  (try simp only [zP, zA, zB, zC])
  refine tk 1 36 ?_
  (try simp only [zP, zA, zB, zC])
  refine tk 2 37 ?_
  (try simp only [zP, zA, zB, zC])
  refine wpAnyH_ready (rs := [3, 5]) (by kernel_rfl) (by simp) ?_
  refine AllReadyH.cons rfl (fun K hK => ?_) (AllReadyH.cons rfl (fun K hK => ?_) AllReadyH.nil)
  ·go_simp
   refine (hft _).mono ?_
   rintro e u_1 ⟨rfl, hb_1⟩
   have bs_1 := bs_0.trans (hb_1.mono bs_0.size)
   have sz_1 := hb_1.size
   (try go_wp2_with (fail))
   refine hK.out _ _ ?_ (fun hHeld => ?_)
   ·exact ⟨rowCells (keepHeap bs_1 X_6), rowCells (keepHeap bs_1 B_6)⟩
   clear hK K
   (try simp only [zP, zA, zB, zC])
   refine wpAnyH_ready (rs := [4, 5]) (by kernel_rfl) (by simp) ?_
   refine AllReadyH.cons rfl (fun K hK => ?_) (AllReadyH.cons rfl (fun K hK => ?_) AllReadyH.nil)
   ·go_simp
    refine (himpl ((oX.rd.keep qTX_6).keep bs_1) ((oy.rd.keep qTy_6).keep bs_1)).mono ?_
    rintro e u_2 ⟨vlz, vsz, vbz, rfl, ow_2, -, hb_2⟩
    have bs_2 := bs_1.trans (hb_2.mono bs_1.size)
    have sz_2 := hb_2.size
    obtain ⟨lo0, hi0, ow_2, hlo, hhi⟩ : ∃ lo hi, OwnWIn u_2 lo hi y vlz vsz vbz ∧ u_1.heap.size ≤ lo ∧ hi ≤ u_2.heap.size := ⟨_, _, ow_2, Nat.le_refl _, Nat.le_refl _⟩
    have rdz := ow_2.rd
    obtain ⟨alz, clz, e0, -⟩ := id rdz.1
    subst e0
    obtain ⟨aqz, cqz, e0, -⟩ := id rdz.2.1
    subst e0
    obtain ⟨abz, cbz, e0, -⟩ := id rdz.2.2
    subst e0
    clear rdz
    (try go_wp2_with (fail))
    refine hK.out _ _ ?_ (fun hHeld => ?_)
    ·exact ⟨rowCells (keepHeap bs_2 X_6), rowCells (keepHeap bs_2 B_6)⟩
    clear hK K
    (try simp only [zP, zA, zB, zC])
    refine wpAnyH_ready (rs := [5]) (by kernel_rfl) (by simp) ?_
    refine AllReadyH.cons rfl (fun K hK => ?_) AllReadyH.nil
    go_simp
    obtain ⟨u_3, hw_3, PZ_3, hb_3⟩ : ∃ W, u_2.alloc (.cells #[.slice none 0 0, .int .i64 0, .int .i64 0, .slice none 0 0, .slice none 0 0] 30) = W ∧ W.heap[u_2.heap.size]? = some (.cells #[.slice none 0 0, .int .i64 0, .int .i64 0, .slice none 0 0, .slice none 0 0] 30 (0, 0)) ∧ Below u_2.heap.size u_2 W := ⟨_, rfl, heap_alloc_new u_2 _, below1 u_2 _⟩
    try rw [hw_3]
    clear hw_3
    have bs_3 := bs_2.trans (hb_3.mono bs_2.size)
    have sz_3 := hb_3.size
    have ow_3 := ow_2.keep hb_3
    have hpl_3 := (Array.getElem?_eq_some_iff.1 PZ_3).1
    refine hK.out _ _ ?_ (fun hHeld => ?_)
    ·exact ⟨rowCells (keepHeap bs_3 X_6), rowCells (keepHeap bs_3 B_6)⟩
    clear hK K
    (try simp only [zP, zA, zB, zC])
    refine wpAnyH_ready (rs := [6]) (by kernel_rfl) (by simp) ?_
    refine AllReadyH.cons rfl (fun K hK => ?_) AllReadyH.nil
    have cn := rowCells PZ_3
    have fn := fun j => frozenHeap PZ_3 j
    go_simp
    have hsb := bs_3.size
    have hdr : w_6.drew.heap.size = w_6.heap.size := rfl
    have F_4 := putW_farB u_3 (u_2.heap.size) y (.slice alz y.rows.length clz) (.slice aqz y.scores.length cqz) (.slice abz y.bods.length cbz)
    have PZ_4 := putW_heap PZ_3 rfl y (.slice alz y.rows.length clz) (.slice aqz y.scores.length cqz) (.slice abz y.bods.length cbz)
    have bs_4 := putW_below bs_3 (c := u_2.heap.size) (by first | omega | (simp; done) | (simp; omega)) y (.slice alz y.rows.length clz) (.slice aqz y.scores.length cqz) (.slice abz y.bods.length cbz)
    have ow_4 := ow_3.apartW F_4 (by first | omega | (simp at *; omega))
    obtain ⟨u_4, hw_4⟩ : ∃ W, putW u_3 (u_2.heap.size) y (.slice alz y.rows.length clz) (.slice aqz y.scores.length cqz) (.slice abz y.bods.length cbz) = W := ⟨_, rfl⟩
    have hz_4 : u_4.heap.size = u_3.heap.size := by rw [← hw_4]; simp [putW]
    rw [hw_4] at PZ_4 bs_4 ow_4
    unfold putW at hw_4
    try rw [hw_4]
    clear hw_4 cn fn F_4
    refine hK.out _ _ ?_ (fun hHeld => ?_)
    ·exact ⟨rowCells (keepHeap bs_4 X_6), rowCells (keepHeap bs_4 B_6)⟩
    clear hK K
    (try simp only [zP, zA, zB, zC])
    refine wpAnyH_done (by kernel_rfl) ?_ _
    have hszf := bs_4.size
    go_wp2_with (fail)
    go_meet
    case rel => exact ⟨_, _, _, _, _, _, rfl, PZ_4, ow_4, by first | omega | (simp at *; omega), by first | omega | (simp at *; omega), by first | omega | (simp at *; omega), by first | omega | (simp at *; omega), bs_4⟩
   ·go_simp
    obtain ⟨u_2, hw_2, PZ_2, hb_2⟩ : ∃ W, u_1.alloc (.cells #[.slice none 0 0, .int .i64 0, .int .i64 0, .slice none 0 0, .slice none 0 0] 30) = W ∧ W.heap[u_1.heap.size]? = some (.cells #[.slice none 0 0, .int .i64 0, .int .i64 0, .slice none 0 0, .slice none 0 0] 30 (0, 0)) ∧ Below u_1.heap.size u_1 W := ⟨_, rfl, heap_alloc_new u_1 _, below1 u_1 _⟩
    try rw [hw_2]
    clear hw_2
    have bs_2 := bs_1.trans (hb_2.mono bs_1.size)
    have sz_2 := hb_2.size
    have hpl_2 := (Array.getElem?_eq_some_iff.1 PZ_2).1
    refine hK.out _ _ ?_ (fun hHeld => ?_)
    ·exact ⟨rowCells (keepHeap bs_2 X_6), rowCells (keepHeap bs_2 B_6)⟩
    clear hK K
    (try simp only [zP, zA, zB, zC])
    refine wpAnyH_ready (rs := [4]) (by kernel_rfl) (by simp) ?_
    refine AllReadyH.cons rfl (fun K hK => ?_) AllReadyH.nil
    go_simp
    refine (himpl ((oX.rd.keep qTX_6).keep bs_2) ((oy.rd.keep qTy_6).keep bs_2)).mono ?_
    rintro e u_3 ⟨vlz, vsz, vbz, rfl, ow_3, -, hb_3⟩
    have bs_3 := bs_2.trans (hb_3.mono bs_2.size)
    have sz_3 := hb_3.size
    have PZ_3 := keepHeap hb_3 PZ_2
    obtain ⟨lo0, hi0, ow_3, hlo, hhi⟩ : ∃ lo hi, OwnWIn u_3 lo hi y vlz vsz vbz ∧ u_2.heap.size ≤ lo ∧ hi ≤ u_3.heap.size := ⟨_, _, ow_3, Nat.le_refl _, Nat.le_refl _⟩
    have rdz := ow_3.rd
    obtain ⟨alz, clz, e0, -⟩ := id rdz.1
    subst e0
    obtain ⟨aqz, cqz, e0, -⟩ := id rdz.2.1
    subst e0
    obtain ⟨abz, cbz, e0, -⟩ := id rdz.2.2
    subst e0
    clear rdz
    (try go_wp2_with (fail))
    refine hK.out _ _ ?_ (fun hHeld => ?_)
    ·exact ⟨rowCells (keepHeap bs_3 X_6), rowCells (keepHeap bs_3 B_6)⟩
    clear hK K
    (try simp only [zP, zA, zB, zC])
    refine wpAnyH_ready (rs := [6]) (by kernel_rfl) (by simp) ?_
    refine AllReadyH.cons rfl (fun K hK => ?_) AllReadyH.nil
    have cn := rowCells PZ_3
    have fn := fun j => frozenHeap PZ_3 j
    go_simp
    have hsb := bs_3.size
    have hdr : w_6.drew.heap.size = w_6.heap.size := rfl
    have F_4 := putW_farB u_3 (u_1.heap.size) y (.slice alz y.rows.length clz) (.slice aqz y.scores.length cqz) (.slice abz y.bods.length cbz)
    have PZ_4 := putW_heap PZ_3 rfl y (.slice alz y.rows.length clz) (.slice aqz y.scores.length cqz) (.slice abz y.bods.length cbz)
    have bs_4 := putW_below bs_3 (c := u_1.heap.size) (by first | omega | (simp; done) | (simp; omega)) y (.slice alz y.rows.length clz) (.slice aqz y.scores.length cqz) (.slice abz y.bods.length cbz)
    have ow_4 := ow_3.apartW F_4 (by first | omega | (simp at *; omega))
    obtain ⟨u_4, hw_4⟩ : ∃ W, putW u_3 (u_1.heap.size) y (.slice alz y.rows.length clz) (.slice aqz y.scores.length cqz) (.slice abz y.bods.length cbz) = W := ⟨_, rfl⟩
    have hz_4 : u_4.heap.size = u_3.heap.size := by rw [← hw_4]; simp [putW]
    rw [hw_4] at PZ_4 bs_4 ow_4
    unfold putW at hw_4
    try rw [hw_4]
    clear hw_4 cn fn F_4
    refine hK.out _ _ ?_ (fun hHeld => ?_)
    ·exact ⟨rowCells (keepHeap bs_4 X_6), rowCells (keepHeap bs_4 B_6)⟩
    clear hK K
    (try simp only [zP, zA, zB, zC])
    refine wpAnyH_done (by kernel_rfl) ?_ _
    have hszf := bs_4.size
    go_wp2_with (fail)
    go_meet
    case rel => exact ⟨_, _, _, _, _, _, rfl, PZ_4, ow_4, by first | omega | (simp at *; omega), by first | omega | (simp at *; omega), by first | omega | (simp at *; omega), by first | omega | (simp at *; omega), bs_4⟩
  ·go_simp
   obtain ⟨u_1, hw_1, PZ_1, hb_1⟩ : ∃ W, (w_6.alloc (.cells #[.slice none 0 0, .int .i64 0, .int .i64 0, .slice none 0 0, .slice none 0 0] 30)).drew = W ∧ W.heap[w_6.heap.size]? = some (.cells #[.slice none 0 0, .int .i64 0, .int .i64 0, .slice none 0 0, .slice none 0 0] 30 (0, 0)) ∧ Below w_6.drew.heap.size w_6.drew W := ⟨_, rfl, heap_alloc_new w_6.drew _, below1 w_6.drew _⟩
   try rw [hw_1]
   clear hw_1
   have bs_1 := bs_0.trans (hb_1.mono bs_0.size)
   have sz_1 := hb_1.size
   have hpl_1 := (Array.getElem?_eq_some_iff.1 PZ_1).1
   refine hK.out _ _ ?_ (fun hHeld => ?_)
   ·exact ⟨rowCells (keepHeap bs_1 X_6), rowCells (keepHeap bs_1 B_6)⟩
   clear hK K
   (try simp only [zP, zA, zB, zC])
   refine wpAnyH_ready (rs := [3]) (by kernel_rfl) (by simp) ?_
   refine AllReadyH.cons rfl (fun K hK => ?_) AllReadyH.nil
   go_simp
   refine (hft _).mono ?_
   rintro e u_2 ⟨rfl, hb_2⟩
   have bs_2 := bs_1.trans (hb_2.mono bs_1.size)
   have sz_2 := hb_2.size
   have PZ_2 := keepHeap hb_2 PZ_1
   (try go_wp2_with (fail))
   refine hK.out _ _ ?_ (fun hHeld => ?_)
   ·exact ⟨rowCells (keepHeap bs_2 X_6), rowCells (keepHeap bs_2 B_6)⟩
   clear hK K
   (try simp only [zP, zA, zB, zC])
   refine wpAnyH_ready (rs := [4]) (by kernel_rfl) (by simp) ?_
   refine AllReadyH.cons rfl (fun K hK => ?_) AllReadyH.nil
   go_simp
   refine (himpl ((oX.rd.keep qTX_6).keep bs_2) ((oy.rd.keep qTy_6).keep bs_2)).mono ?_
   rintro e u_3 ⟨vlz, vsz, vbz, rfl, ow_3, -, hb_3⟩
   have bs_3 := bs_2.trans (hb_3.mono bs_2.size)
   have sz_3 := hb_3.size
   have PZ_3 := keepHeap hb_3 PZ_2
   obtain ⟨lo0, hi0, ow_3, hlo, hhi⟩ : ∃ lo hi, OwnWIn u_3 lo hi y vlz vsz vbz ∧ u_2.heap.size ≤ lo ∧ hi ≤ u_3.heap.size := ⟨_, _, ow_3, Nat.le_refl _, Nat.le_refl _⟩
   have rdz := ow_3.rd
   obtain ⟨alz, clz, e0, -⟩ := id rdz.1
   subst e0
   obtain ⟨aqz, cqz, e0, -⟩ := id rdz.2.1
   subst e0
   obtain ⟨abz, cbz, e0, -⟩ := id rdz.2.2
   subst e0
   clear rdz
   (try go_wp2_with (fail))
   refine hK.out _ _ ?_ (fun hHeld => ?_)
   ·exact ⟨rowCells (keepHeap bs_3 X_6), rowCells (keepHeap bs_3 B_6)⟩
   clear hK K
   (try simp only [zP, zA, zB, zC])
   refine wpAnyH_ready (rs := [6]) (by kernel_rfl) (by simp) ?_
   refine AllReadyH.cons rfl (fun K hK => ?_) AllReadyH.nil
   have cn := rowCells PZ_3
   have fn := fun j => frozenHeap PZ_3 j
   go_simp
   have hsb := bs_3.size
   have hdr : w_6.drew.heap.size = w_6.heap.size := rfl
   have F_4 := putW_farB u_3 (w_6.heap.size) y (.slice alz y.rows.length clz) (.slice aqz y.scores.length cqz) (.slice abz y.bods.length cbz)
   have PZ_4 := putW_heap PZ_3 rfl y (.slice alz y.rows.length clz) (.slice aqz y.scores.length cqz) (.slice abz y.bods.length cbz)
   have bs_4 := putW_below bs_3 (c := w_6.heap.size) (by first | omega | (simp; done) | (simp; omega)) y (.slice alz y.rows.length clz) (.slice aqz y.scores.length cqz) (.slice abz y.bods.length cbz)
   have ow_4 := ow_3.apartW F_4 (by first | omega | (simp at *; omega))
   obtain ⟨u_4, hw_4⟩ : ∃ W, putW u_3 (w_6.heap.size) y (.slice alz y.rows.length clz) (.slice aqz y.scores.length cqz) (.slice abz y.bods.length cbz) = W := ⟨_, rfl⟩
   have hz_4 : u_4.heap.size = u_3.heap.size := by rw [← hw_4]; simp [putW]
   rw [hw_4] at PZ_4 bs_4 ow_4
   unfold putW at hw_4
   try rw [hw_4]
   clear hw_4 cn fn F_4
   refine hK.out _ _ ?_ (fun hHeld => ?_)
   ·exact ⟨rowCells (keepHeap bs_4 X_6), rowCells (keepHeap bs_4 B_6)⟩
   clear hK K
   (try simp only [zP, zA, zB, zC])
   refine wpAnyH_done (by kernel_rfl) ?_ _
   have hszf := bs_4.size
   go_wp2_with (fail)
   go_meet
   case rel => exact ⟨_, _, _, _, _, _, rfl, PZ_4, ow_4, by first | omega | (simp at *; omega), by first | omega | (simp at *; omega), by first | omega | (simp at *; omega), by first | omega | (simp at *; omega), bs_4⟩
 obtain ⟨ptG, loG, hiG, vlG, vsG, vbG, rfl, G_C, oG, hdG, hloG, hhiG, hptG, hbCG⟩ := hcut
 obtain ⟨wCG, ew⟩ : ∃ W, W = wc := ⟨_, rfl⟩
 subst ew
 have q0_7 := q0_6.trans (hbCG.mono q0_6.size)
 have qSP_7 := qSP_6.trans (hbCG.mono qSP_6.size)
 have qTX_7 := qTX_6.trans (hbCG.mono qTX_6.size)
 have qTy_7 := qTy_6.trans (hbCG.mono qTy_6.size)
 have A_7 := keepHeap hbCG A_6
 have B_7 := keepHeap hbCG B_6
 have P_7 := keepHeap hbCG P_6
 have X_7 := keepHeap hbCG X_6
 have sz_7 := hbCG.size
 clear q0_6 qSP_6 qTX_6 qTy_6 A_6 B_6 P_6 X_6 cA_6 cB_6 cP_6 cX_6
 have rdG := oG.rd
 obtain ⟨alG, clG, rfl, -⟩ := id rdG.1
 obtain ⟨aqG, cqG, rfl, -⟩ := id rdG.2.1
 obtain ⟨abG, cbG, rfl, -⟩ := id rdG.2.2
 clear rdG
 unfold wdC at G_C
 have ltG := (Array.getElem?_eq_some_iff.1 G_C).1
 have qSG_7 : Below wCG.heap.size wCG wCG := Below.refl _ _
 have cP_7 := rowCells P_7
 have cG_C := rowCells G_C
 go_wp2_with (fail)
 refine (heq (oG.rd.keep qSG_7) (oP.rd.keep qSP_7)).mono ?_
 rintro e w_8 ⟨rfl, hb_8⟩
 have q0_8 := q0_7.trans (hb_8.mono q0_7.size)
 have qSP_8 := qSP_7.trans (hb_8.mono qSP_7.size)
 have qTX_8 := qTX_7.trans (hb_8.mono qTX_7.size)
 have qTy_8 := qTy_7.trans (hb_8.mono qTy_7.size)
 have qSG_8 := qSG_7.trans (hb_8.mono qSG_7.size)
 have A_8 := keepHeap hb_8 A_7
 have B_8 := keepHeap hb_8 B_7
 have P_8 := keepHeap hb_8 P_7
 have X_8 := keepHeap hb_8 X_7
 have G_8 := keepHeap hb_8 G_C
 have sz_8 := hb_8.size
 clear q0_7 qSP_7 qTX_7 qTy_7 qSG_7 A_7 B_7 P_7 X_7 G_C cP_7 cG_C
 clear hb_8
 have cA_8 := rowCells A_8
 have cX_8 := rowCells X_8
 go_wp2_with (fail)
 have ra := (h0.keep q0_8)
 have rx := (oX.rd.keep qTX_8)
 go_region_held3 (fun w' => (∀ j, w'.cell? ⟨w.heap.size, j, none⟩ = #[Value.slice alA x.rows.length clA, .int .i64 x.tick, .int .i64 x.seed, .slice aqA x.scores.length cqA, .slice abA x.bods.length cbA][j]?) ∧ (∀ j, w'.cell? ⟨w_4.heap.size, j, none⟩ = #[Value.slice alX x.rows.length clX, .int .i64 x.tick, .int .i64 x.seed, .slice aqX x.scores.length cqX, .slice abX x.bods.length cbX][j]?)) (first | go_keep | (exact ⟨cA8, cX8⟩) | exact ⟨cA9, cX9⟩)
  (first
  | (go_at_call 23; refine (hto (RdW.keep ra (belowDrew _ 1))).mono ?_; rintro e w8 ⟨vl8, vs8, vb8, rfl, o8, -, hb8⟩; have hA8 := keepHeap hb8 (keepHeap (belowDrew _ 1) A_8); have hX8 := keepHeap hb8 (keepHeap (belowDrew _ 1) X_8); have cA8 := rowCells hA8; have cX8 := rowCells hX8; have rd8 := o8.rd; obtain ⟨al8, cl8, rfl, -⟩ := id rd8.1; obtain ⟨aq8, cq8, rfl, -⟩ := id rd8.2.1; obtain ⟨ab8, cb8, rfl, -⟩ := id rd8.2.2; have rdx8 := (RdW.keep rx (belowDrew _ 1)).keep hb8; have hb18 := (belowDrew w_8 1).trans (hb8.mono (by simp)))
  | (go_at_call 27; refine (heqx rdx8 rd8).mono ?_; rintro e w9 ⟨rfl, hb9⟩; have cA9 := rowCells (keepHeap hb9 hA8); have cX9 := rowCells (keepHeap hb9 hX8); have hb19 := hb18.trans (hb9.mono hb18.size)))
 clear ra rx cA8 cX8 cA9 cX9 hA8 hX8 hb9 hb18 rdx8 rd8 o8 hb8
 have q0_9 := q0_8.trans (hb19.mono q0_8.size)
 have qSP_9 := qSP_8.trans (hb19.mono qSP_8.size)
 have qTX_9 := qTX_8.trans (hb19.mono qTX_8.size)
 have qTy_9 := qTy_8.trans (hb19.mono qTy_8.size)
 have qSG_9 := qSG_8.trans (hb19.mono qSG_8.size)
 have A_9 := keepHeap hb19 A_8
 have B_9 := keepHeap hb19 B_8
 have P_9 := keepHeap hb19 P_8
 have X_9 := keepHeap hb19 X_8
 have G_9 := keepHeap hb19 G_8
 have sz_9 := hb19.size
 clear q0_8 qSP_8 qTX_8 qTy_8 qSG_8 A_8 B_8 P_8 X_8 G_8 cA_8 cX_8
 clear hb19
 go_wp2_with (fail)
 refine (toIntS_cap (h'.keep q0_9) (by omega)).mono ?_
 rintro e w_10 ⟨vz, rfl, oz, kz, hb_10⟩
 have q0_10 := q0_9.trans (hb_10.mono q0_9.size)
 have qSP_10 := qSP_9.trans (hb_10.mono qSP_9.size)
 have qTX_10 := qTX_9.trans (hb_10.mono qTX_9.size)
 have qTy_10 := qTy_9.trans (hb_10.mono qTy_9.size)
 have qSG_10 := qSG_9.trans (hb_10.mono qSG_9.size)
 have A_10 := keepHeap hb_10 A_9
 have B_10 := keepHeap hb_10 B_9
 have P_10 := keepHeap hb_10 P_9
 have X_10 := keepHeap hb_10 X_9
 have G_10 := keepHeap hb_10 G_9
 have sz_10 := hb_10.size
 clear q0_9 qSP_9 qTX_9 qTy_9 qSG_9 A_9 B_9 P_9 X_9 G_9
 clear hb_10
 have qZ_10 : Below w_10.heap.size w_10 w_10 := Below.refl _ _
 obtain ⟨az, cz, rfl, -⟩ := id oz.rd
 go_wp2_with (fail)
 refine (eqIntS_same (oy.rd.keep qTy_10) (oz.rd.keep qZ_10) (by omega)).mono ?_
 rintro e w_11 ⟨rfl, m_11, hw_11⟩
 have hb_11 : Below w_10.heap.size w_10 w_11 := by rw [hw_11]; exact belowDrew _ _
 clear hw_11
 have q0_11 := q0_10.trans (hb_11.mono q0_10.size)
 have qSP_11 := qSP_10.trans (hb_11.mono qSP_10.size)
 have qTX_11 := qTX_10.trans (hb_11.mono qTX_10.size)
 have qTy_11 := qTy_10.trans (hb_11.mono qTy_10.size)
 have qSG_11 := qSG_10.trans (hb_11.mono qSG_10.size)
 have qZ_11 := qZ_10.trans (hb_11.mono qZ_10.size)
 have A_11 := keepHeap hb_11 A_10
 have B_11 := keepHeap hb_11 B_10
 have P_11 := keepHeap hb_11 P_10
 have X_11 := keepHeap hb_11 X_10
 have G_11 := keepHeap hb_11 G_10
 have sz_11 := hb_11.size
 clear q0_10 qSP_10 qTX_10 qTy_10 qSG_10 qZ_10 A_10 B_10 P_10 X_10 G_10
 clear hb_11
 clear oz kz qZ_11
 have mx := (OwnWIn.of oX).keep qTX_11
 have my : OwnIn w_11 w_5.heap.size w_6.heap.size (.slice ay ys.length cy) ys := (OwnIn.of oy).keep qTy_11
 have mg := oG.keep qSG_11
 clear oX kX oy ky oG qTX_11 qTy_11 qSG_11
 have cX_11 := rowCells X_11
 go_wp2_with (fail)
 refine (hmx mx (by omega)).mono ?_
 rintro e w_12 ⟨rfl, -, far_12⟩
 have q0_12 := q0_11.trans (far_12.1.mono (by omega))
 have qSP_12 := qSP_11.trans (far_12.1.mono (by omega))
 have A_12 := keepHeapFar far_12 A_11 (by omega)
 have B_12 := keepHeapFar far_12 B_11 (by omega)
 have P_12 := keepHeapFar far_12 P_11 (by omega)
 have G_12 := keepHeapFar far_12 G_11 (by omega)
 have my := my.afar far_12 (by omega)
 have mg := mg.afar far_12 (by omega)
 have sz_12 := far_12.1.size
 clear q0_11 qSP_11 A_11 B_11 P_11 X_11 G_11 cX_11 far_12
 have zk : decide ((mX : Int) + (ys.length : Int) < 0) = false := by simp; omega
 clear mx
 go_wp2_with (fail)
 refine (markIntS_far my hyl (mX : Int) (by omega) (by omega)).mono ?_
 rintro e w_13 ⟨rfl, -, far_13⟩
 have q0_13 := q0_12.trans (far_13.1.mono (by omega))
 have qSP_13 := qSP_12.trans (far_13.1.mono (by omega))
 have A_13 := keepHeapFar far_13 A_12 (by omega)
 have B_13 := keepHeapFar far_13 B_12 (by omega)
 have P_13 := keepHeapFar far_13 P_12 (by omega)
 have G_13 := keepHeapFar far_13 G_12 (by omega)
 have mg := mg.afar far_13 (by omega)
 have sz_13 := far_13.1.size
 clear q0_12 qSP_12 A_12 B_12 P_12 G_12 far_13
 clear my
 have cP_13 := rowCells P_13
 have cG_13 := rowCells G_13
 go_wp2_with (fail)
 refine (heq mg.rd (oP.rd.keep qSP_13)).mono ?_
 rintro e w_14 ⟨rfl, hb_14⟩
 have q0_14 := q0_13.trans (hb_14.mono q0_13.size)
 have qSP_14 := qSP_13.trans (hb_14.mono qSP_13.size)
 have A_14 := keepHeap hb_14 A_13
 have B_14 := keepHeap hb_14 B_13
 have P_14 := keepHeap hb_14 P_13
 have G_14 := keepHeap hb_14 G_13
 have sz_14 := hb_14.size
 clear q0_13 qSP_13 A_13 B_13 P_13 G_13 cP_13 cG_13
 have mg := mg.keep hb_14
 clear hb_14
 have cG_14 := rowCells G_14
 go_wp2_with (fail)
 refine (hmk mg (by omega)).mono ?_
 rintro e w_15 ⟨rfl, mg, far_15⟩
 have q0_15 := q0_14.trans (far_15.1.mono (by omega))
 have qSP_15 := qSP_14.trans (far_15.1.mono (by omega))
 have A_15 := keepHeapFar far_15 A_14 (by omega)
 have B_15 := keepHeapFar far_15 B_14 (by omega)
 have P_15 := keepHeapFar far_15 P_14 (by omega)
 have G_15 := keepHeapFar far_15 G_14 (by omega)
 have sz_15 := far_15.1.size
 clear q0_14 qSP_14 A_14 B_14 P_14 G_14 cG_14 far_15
 have cG_15 := rowCells G_15
 go_wp2_with (fail)
 refine (hhd mg.rd).mono ?_
 rintro e w_16 ⟨rfl, hb_16⟩
 have q0_16 := q0_15.trans (hb_16.mono q0_15.size)
 have qSP_16 := qSP_15.trans (hb_16.mono qSP_15.size)
 have A_16 := keepHeap hb_16 A_15
 have B_16 := keepHeap hb_16 B_15
 have P_16 := keepHeap hb_16 P_15
 have G_16 := keepHeap hb_16 G_15
 have sz_16 := hb_16.size
 clear q0_15 qSP_15 A_15 B_15 P_15 G_15 cG_15
 have mg := mg.keep hb_16
 clear hb_16
 have qM_16 : Below w_16.heap.size w_16 w_16 := Below.refl _ _
 have cA_16 := rowCells A_16
 go_wp2_with (fail)
 go_cut [15] from 79 to 85 (fun q wq => ∃ (pt lo hi : Nat) (vl vs vb : Value), q = .pointer (some ⟨pt, 0, none⟩) ∧ wq.heap[pt]? = some (.cells (wdC y vl vs vb) 30 (0, 0)) ∧ OwnWIn wq lo hi y vl vs vb ∧ (pt < lo ∨ hi ≤ pt) ∧ w_16.heap.size ≤ lo ∧ hi ≤ wq.heap.size ∧ w_16.heap.size ≤ pt ∧ Below w_16.heap.size w_16 wq)
 case first =>
  have bs_0 : Below w_16.heap.size w_16 w_16.drew := belowDrew w_16 1
  refine wp_region_held_drew (S := (fun w' => (∀ j, w'.cell? ⟨w.heap.size, j, none⟩ = #[Value.slice alA x.rows.length clA, .int .i64 x.tick, .int .i64 x.seed, .slice aqA x.scores.length cqA, .slice abA x.bods.length cbA][j]?) ∧ (∀ j, w'.cell? ⟨w.heap.size + 1, j, none⟩ = #[Value.int .i64 ft, .int .i64 fp, .int .i64 fa][j]?))) (by kernel_rfl) ?_ (fun hHeld => ?_)
  ·exact ⟨rowCells (keepHeap bs_0 A_16), rowCells (keepHeap bs_0 B_16)⟩
  refine tk 0 79 ?_
  (try simp only [zP, zA, zB, zC])
  refine tk 2 81 ?_
  (try simp only [zP, zA, zB, zC])
  refine tk 4 83 ?_
  (try simp only [zP, zA, zB, zC])
  refine wpAnyH_ready (rs := [1, 7]) (by kernel_rfl) (by simp) ?_
  refine AllReadyH.cons rfl (fun K hK => ?_) (AllReadyH.cons rfl (fun K hK => ?_) AllReadyH.nil)
  ·go_simp
   refine (hto ((h0.keep q0_16).keep bs_0)).mono ?_
   rintro e u_1 ⟨vlt, vst, vbt, rfl, ot, -, hb_1⟩
   have bs_1 := bs_0.trans (hb_1.mono bs_0.size)
   have sz_1 := hb_1.size
   have qt_1 := Below.refl u_1.heap.size u_1
   have rdt := ot.rd
   obtain ⟨alt, clt, e0, -⟩ := id rdt.1
   subst e0
   obtain ⟨aqt, cqt, e0, -⟩ := id rdt.2.1
   subst e0
   obtain ⟨abt, cbt, e0, -⟩ := id rdt.2.2
   subst e0
   clear rdt
   (try go_wp2_with (fail))
   refine hK.out _ _ ?_ (fun hHeld => ?_)
   ·exact ⟨rowCells (keepHeap bs_1 A_16), rowCells (keepHeap bs_1 B_16)⟩
   clear hK K
   (try simp only [zP, zA, zB, zC])
   refine wpAnyH_ready (rs := [3, 7]) (by kernel_rfl) (by simp) ?_
   refine AllReadyH.cons rfl (fun K hK => ?_) (AllReadyH.cons rfl (fun K hK => ?_) AllReadyH.nil)
   ·go_simp
    refine (toIntS_cap ((h'.keep q0_16).keep bs_1) (by omega)).mono ?_
    rintro e u_2 ⟨vi, rfl, oi, -, hb_2⟩
    have bs_2 := bs_1.trans (hb_2.mono bs_1.size)
    have sz_2 := hb_2.size
    have qt_2 := qt_1.trans (hb_2.mono qt_1.size)
    have qi_2 := Below.refl u_2.heap.size u_2
    obtain ⟨ai, ci, e0, -⟩ := id oi.rd
    subst e0
    (try go_wp2_with (fail))
    refine hK.out _ _ ?_ (fun hHeld => ?_)
    ·exact ⟨rowCells (keepHeap bs_2 A_16), rowCells (keepHeap bs_2 B_16)⟩
    clear hK K
    (try simp only [zP, zA, zB, zC])
    refine wpAnyH_ready (rs := [5, 7]) (by kernel_rfl) (by simp) ?_
    refine AllReadyH.cons rfl (fun K hK => ?_) (AllReadyH.cons rfl (fun K hK => ?_) AllReadyH.nil)
    ·go_simp
     refine (hft _).mono ?_
     rintro e u_3 ⟨rfl, hb_3⟩
     have bs_3 := bs_2.trans (hb_3.mono bs_2.size)
     have sz_3 := hb_3.size
     have qt_3 := qt_2.trans (hb_3.mono qt_2.size)
     have qi_3 := qi_2.trans (hb_3.mono qi_2.size)
     (try go_wp2_with (fail))
     refine hK.out _ _ ?_ (fun hHeld => ?_)
     ·exact ⟨rowCells (keepHeap bs_3 A_16), rowCells (keepHeap bs_3 B_16)⟩
     clear hK K
     (try simp only [zP, zA, zB, zC])
     refine wpAnyH_ready (rs := [6, 7]) (by kernel_rfl) (by simp) ?_
     refine AllReadyH.cons rfl (fun K hK => ?_) (AllReadyH.cons rfl (fun K hK => ?_) AllReadyH.nil)
     ·go_simp
      refine (himpl (ot.rd.keep qt_3) (oi.rd.keep qi_3)).mono ?_
      rintro e u_4 ⟨vlz, vsz, vbz, rfl, ow_4, -, hb_4⟩
      have bs_4 := bs_3.trans (hb_4.mono bs_3.size)
      have sz_4 := hb_4.size
      have qt_4 := qt_3.trans (hb_4.mono qt_3.size)
      have qi_4 := qi_3.trans (hb_4.mono qi_3.size)
      obtain ⟨lo0, hi0, ow_4, hlo, hhi⟩ : ∃ lo hi, OwnWIn u_4 lo hi y vlz vsz vbz ∧ u_3.heap.size ≤ lo ∧ hi ≤ u_4.heap.size := ⟨_, _, ow_4, Nat.le_refl _, Nat.le_refl _⟩
      have rdz := ow_4.rd
      obtain ⟨alz, clz, e0, -⟩ := id rdz.1
      subst e0
      obtain ⟨aqz, cqz, e0, -⟩ := id rdz.2.1
      subst e0
      obtain ⟨abz, cbz, e0, -⟩ := id rdz.2.2
      subst e0
      clear rdz
      (try go_wp2_with (fail))
      refine hK.out _ _ ?_ (fun hHeld => ?_)
      ·exact ⟨rowCells (keepHeap bs_4 A_16), rowCells (keepHeap bs_4 B_16)⟩
      clear hK K
      (try simp only [zP, zA, zB, zC])
      refine wpAnyH_ready (rs := [7]) (by kernel_rfl) (by simp) ?_
      refine AllReadyH.cons rfl (fun K hK => ?_) AllReadyH.nil
      go_simp
      obtain ⟨u_5, hw_5, PZ_5, hb_5⟩ : ∃ W, u_4.alloc (.cells #[.slice none 0 0, .int .i64 0, .int .i64 0, .slice none 0 0, .slice none 0 0] 30) = W ∧ W.heap[u_4.heap.size]? = some (.cells #[.slice none 0 0, .int .i64 0, .int .i64 0, .slice none 0 0, .slice none 0 0] 30 (0, 0)) ∧ Below u_4.heap.size u_4 W := ⟨_, rfl, heap_alloc_new u_4 _, below1 u_4 _⟩
      try rw [hw_5]
      clear hw_5
      have bs_5 := bs_4.trans (hb_5.mono bs_4.size)
      have sz_5 := hb_5.size
      have qt_5 := qt_4.trans (hb_5.mono qt_4.size)
      have qi_5 := qi_4.trans (hb_5.mono qi_4.size)
      have ow_5 := ow_4.keep hb_5
      have hpl_5 := (Array.getElem?_eq_some_iff.1 PZ_5).1
      refine hK.out _ _ ?_ (fun hHeld => ?_)
      ·exact ⟨rowCells (keepHeap bs_5 A_16), rowCells (keepHeap bs_5 B_16)⟩
      clear hK K
      (try simp only [zP, zA, zB, zC])
      refine wpAnyH_ready (rs := [8]) (by kernel_rfl) (by simp) ?_
      refine AllReadyH.cons rfl (fun K hK => ?_) AllReadyH.nil
      have cn := rowCells PZ_5
      have fn := fun j => frozenHeap PZ_5 j
      go_simp
      have hsb := bs_5.size
      have hdr : w_16.drew.heap.size = w_16.heap.size := rfl
      have F_6 := putW_farB u_5 (u_4.heap.size) y (.slice alz y.rows.length clz) (.slice aqz y.scores.length cqz) (.slice abz y.bods.length cbz)
      have PZ_6 := putW_heap PZ_5 rfl y (.slice alz y.rows.length clz) (.slice aqz y.scores.length cqz) (.slice abz y.bods.length cbz)
      have bs_6 := putW_below bs_5 (c := u_4.heap.size) (by first | omega | (simp; done) | (simp; omega)) y (.slice alz y.rows.length clz) (.slice aqz y.scores.length cqz) (.slice abz y.bods.length cbz)
      have ow_6 := ow_5.apartW F_6 (by first | omega | (simp at *; omega))
      obtain ⟨u_6, hw_6⟩ : ∃ W, putW u_5 (u_4.heap.size) y (.slice alz y.rows.length clz) (.slice aqz y.scores.length cqz) (.slice abz y.bods.length cbz) = W := ⟨_, rfl⟩
      have hz_6 : u_6.heap.size = u_5.heap.size := by rw [← hw_6]; simp [putW]
      rw [hw_6] at PZ_6 bs_6 ow_6
      unfold putW at hw_6
      try rw [hw_6]
      clear hw_6 cn fn F_6
      refine hK.out _ _ ?_ (fun hHeld => ?_)
      ·exact ⟨rowCells (keepHeap bs_6 A_16), rowCells (keepHeap bs_6 B_16)⟩
      clear hK K
      (try simp only [zP, zA, zB, zC])
      refine wpAnyH_done (by kernel_rfl) ?_ _
      have hszf := bs_6.size
      go_wp2_with (fail)
      go_meet
      case rel => exact ⟨_, _, _, _, _, _, rfl, PZ_6, ow_6, by first | omega | (simp at *; omega), by first | omega | (simp at *; omega), by first | omega | (simp at *; omega), by first | omega | (simp at *; omega), bs_6⟩
     ·go_simp
      obtain ⟨u_4, hw_4, PZ_4, hb_4⟩ : ∃ W, u_3.alloc (.cells #[.slice none 0 0, .int .i64 0, .int .i64 0, .slice none 0 0, .slice none 0 0] 30) = W ∧ W.heap[u_3.heap.size]? = some (.cells #[.slice none 0 0, .int .i64 0, .int .i64 0, .slice none 0 0, .slice none 0 0] 30 (0, 0)) ∧ Below u_3.heap.size u_3 W := ⟨_, rfl, heap_alloc_new u_3 _, below1 u_3 _⟩
      try rw [hw_4]
      clear hw_4
      have bs_4 := bs_3.trans (hb_4.mono bs_3.size)
      have sz_4 := hb_4.size
      have qt_4 := qt_3.trans (hb_4.mono qt_3.size)
      have qi_4 := qi_3.trans (hb_4.mono qi_3.size)
      have hpl_4 := (Array.getElem?_eq_some_iff.1 PZ_4).1
      refine hK.out _ _ ?_ (fun hHeld => ?_)
      ·exact ⟨rowCells (keepHeap bs_4 A_16), rowCells (keepHeap bs_4 B_16)⟩
      clear hK K
      (try simp only [zP, zA, zB, zC])
      refine wpAnyH_ready (rs := [6]) (by kernel_rfl) (by simp) ?_
      refine AllReadyH.cons rfl (fun K hK => ?_) AllReadyH.nil
      go_simp
      refine (himpl (ot.rd.keep qt_4) (oi.rd.keep qi_4)).mono ?_
      rintro e u_5 ⟨vlz, vsz, vbz, rfl, ow_5, -, hb_5⟩
      have bs_5 := bs_4.trans (hb_5.mono bs_4.size)
      have sz_5 := hb_5.size
      have qt_5 := qt_4.trans (hb_5.mono qt_4.size)
      have qi_5 := qi_4.trans (hb_5.mono qi_4.size)
      have PZ_5 := keepHeap hb_5 PZ_4
      obtain ⟨lo0, hi0, ow_5, hlo, hhi⟩ : ∃ lo hi, OwnWIn u_5 lo hi y vlz vsz vbz ∧ u_4.heap.size ≤ lo ∧ hi ≤ u_5.heap.size := ⟨_, _, ow_5, Nat.le_refl _, Nat.le_refl _⟩
      have rdz := ow_5.rd
      obtain ⟨alz, clz, e0, -⟩ := id rdz.1
      subst e0
      obtain ⟨aqz, cqz, e0, -⟩ := id rdz.2.1
      subst e0
      obtain ⟨abz, cbz, e0, -⟩ := id rdz.2.2
      subst e0
      clear rdz
      (try go_wp2_with (fail))
      refine hK.out _ _ ?_ (fun hHeld => ?_)
      ·exact ⟨rowCells (keepHeap bs_5 A_16), rowCells (keepHeap bs_5 B_16)⟩
      clear hK K
      (try simp only [zP, zA, zB, zC])
      refine wpAnyH_ready (rs := [8]) (by kernel_rfl) (by simp) ?_
      refine AllReadyH.cons rfl (fun K hK => ?_) AllReadyH.nil
      have cn := rowCells PZ_5
      have fn := fun j => frozenHeap PZ_5 j
      go_simp
      have hsb := bs_5.size
      have hdr : w_16.drew.heap.size = w_16.heap.size := rfl
      have F_6 := putW_farB u_5 (u_3.heap.size) y (.slice alz y.rows.length clz) (.slice aqz y.scores.length cqz) (.slice abz y.bods.length cbz)
      have PZ_6 := putW_heap PZ_5 rfl y (.slice alz y.rows.length clz) (.slice aqz y.scores.length cqz) (.slice abz y.bods.length cbz)
      have bs_6 := putW_below bs_5 (c := u_3.heap.size) (by first | omega | (simp; done) | (simp; omega)) y (.slice alz y.rows.length clz) (.slice aqz y.scores.length cqz) (.slice abz y.bods.length cbz)
      have ow_6 := ow_5.apartW F_6 (by first | omega | (simp at *; omega))
      obtain ⟨u_6, hw_6⟩ : ∃ W, putW u_5 (u_3.heap.size) y (.slice alz y.rows.length clz) (.slice aqz y.scores.length cqz) (.slice abz y.bods.length cbz) = W := ⟨_, rfl⟩
      have hz_6 : u_6.heap.size = u_5.heap.size := by rw [← hw_6]; simp [putW]
      rw [hw_6] at PZ_6 bs_6 ow_6
      unfold putW at hw_6
      try rw [hw_6]
      clear hw_6 cn fn F_6
      refine hK.out _ _ ?_ (fun hHeld => ?_)
      ·exact ⟨rowCells (keepHeap bs_6 A_16), rowCells (keepHeap bs_6 B_16)⟩
      clear hK K
      (try simp only [zP, zA, zB, zC])
      refine wpAnyH_done (by kernel_rfl) ?_ _
      have hszf := bs_6.size
      go_wp2_with (fail)
      go_meet
      case rel => exact ⟨_, _, _, _, _, _, rfl, PZ_6, ow_6, by first | omega | (simp at *; omega), by first | omega | (simp at *; omega), by first | omega | (simp at *; omega), by first | omega | (simp at *; omega), bs_6⟩
    ·go_simp
     obtain ⟨u_3, hw_3, PZ_3, hb_3⟩ : ∃ W, u_2.alloc (.cells #[.slice none 0 0, .int .i64 0, .int .i64 0, .slice none 0 0, .slice none 0 0] 30) = W ∧ W.heap[u_2.heap.size]? = some (.cells #[.slice none 0 0, .int .i64 0, .int .i64 0, .slice none 0 0, .slice none 0 0] 30 (0, 0)) ∧ Below u_2.heap.size u_2 W := ⟨_, rfl, heap_alloc_new u_2 _, below1 u_2 _⟩
     try rw [hw_3]
     clear hw_3
     have bs_3 := bs_2.trans (hb_3.mono bs_2.size)
     have sz_3 := hb_3.size
     have qt_3 := qt_2.trans (hb_3.mono qt_2.size)
     have qi_3 := qi_2.trans (hb_3.mono qi_2.size)
     have hpl_3 := (Array.getElem?_eq_some_iff.1 PZ_3).1
     refine hK.out _ _ ?_ (fun hHeld => ?_)
     ·exact ⟨rowCells (keepHeap bs_3 A_16), rowCells (keepHeap bs_3 B_16)⟩
     clear hK K
     (try simp only [zP, zA, zB, zC])
     refine wpAnyH_ready (rs := [5]) (by kernel_rfl) (by simp) ?_
     refine AllReadyH.cons rfl (fun K hK => ?_) AllReadyH.nil
     go_simp
     refine (hft _).mono ?_
     rintro e u_4 ⟨rfl, hb_4⟩
     have bs_4 := bs_3.trans (hb_4.mono bs_3.size)
     have sz_4 := hb_4.size
     have qt_4 := qt_3.trans (hb_4.mono qt_3.size)
     have qi_4 := qi_3.trans (hb_4.mono qi_3.size)
     have PZ_4 := keepHeap hb_4 PZ_3
     (try go_wp2_with (fail))
     refine hK.out _ _ ?_ (fun hHeld => ?_)
     ·exact ⟨rowCells (keepHeap bs_4 A_16), rowCells (keepHeap bs_4 B_16)⟩
     clear hK K
     (try simp only [zP, zA, zB, zC])
     refine wpAnyH_ready (rs := [6]) (by kernel_rfl) (by simp) ?_
     refine AllReadyH.cons rfl (fun K hK => ?_) AllReadyH.nil
     go_simp
     refine (himpl (ot.rd.keep qt_4) (oi.rd.keep qi_4)).mono ?_
     rintro e u_5 ⟨vlz, vsz, vbz, rfl, ow_5, -, hb_5⟩
     have bs_5 := bs_4.trans (hb_5.mono bs_4.size)
     have sz_5 := hb_5.size
     have qt_5 := qt_4.trans (hb_5.mono qt_4.size)
     have qi_5 := qi_4.trans (hb_5.mono qi_4.size)
     have PZ_5 := keepHeap hb_5 PZ_4
     obtain ⟨lo0, hi0, ow_5, hlo, hhi⟩ : ∃ lo hi, OwnWIn u_5 lo hi y vlz vsz vbz ∧ u_4.heap.size ≤ lo ∧ hi ≤ u_5.heap.size := ⟨_, _, ow_5, Nat.le_refl _, Nat.le_refl _⟩
     have rdz := ow_5.rd
     obtain ⟨alz, clz, e0, -⟩ := id rdz.1
     subst e0
     obtain ⟨aqz, cqz, e0, -⟩ := id rdz.2.1
     subst e0
     obtain ⟨abz, cbz, e0, -⟩ := id rdz.2.2
     subst e0
     clear rdz
     (try go_wp2_with (fail))
     refine hK.out _ _ ?_ (fun hHeld => ?_)
     ·exact ⟨rowCells (keepHeap bs_5 A_16), rowCells (keepHeap bs_5 B_16)⟩
     clear hK K
     (try simp only [zP, zA, zB, zC])
     refine wpAnyH_ready (rs := [8]) (by kernel_rfl) (by simp) ?_
     refine AllReadyH.cons rfl (fun K hK => ?_) AllReadyH.nil
     have cn := rowCells PZ_5
     have fn := fun j => frozenHeap PZ_5 j
     go_simp
     have hsb := bs_5.size
     have hdr : w_16.drew.heap.size = w_16.heap.size := rfl
     have F_6 := putW_farB u_5 (u_2.heap.size) y (.slice alz y.rows.length clz) (.slice aqz y.scores.length cqz) (.slice abz y.bods.length cbz)
     have PZ_6 := putW_heap PZ_5 rfl y (.slice alz y.rows.length clz) (.slice aqz y.scores.length cqz) (.slice abz y.bods.length cbz)
     have bs_6 := putW_below bs_5 (c := u_2.heap.size) (by first | omega | (simp; done) | (simp; omega)) y (.slice alz y.rows.length clz) (.slice aqz y.scores.length cqz) (.slice abz y.bods.length cbz)
     have ow_6 := ow_5.apartW F_6 (by first | omega | (simp at *; omega))
     obtain ⟨u_6, hw_6⟩ : ∃ W, putW u_5 (u_2.heap.size) y (.slice alz y.rows.length clz) (.slice aqz y.scores.length cqz) (.slice abz y.bods.length cbz) = W := ⟨_, rfl⟩
     have hz_6 : u_6.heap.size = u_5.heap.size := by rw [← hw_6]; simp [putW]
     rw [hw_6] at PZ_6 bs_6 ow_6
     unfold putW at hw_6
     try rw [hw_6]
     clear hw_6 cn fn F_6
     refine hK.out _ _ ?_ (fun hHeld => ?_)
     ·exact ⟨rowCells (keepHeap bs_6 A_16), rowCells (keepHeap bs_6 B_16)⟩
     clear hK K
     (try simp only [zP, zA, zB, zC])
     refine wpAnyH_done (by kernel_rfl) ?_ _
     have hszf := bs_6.size
     go_wp2_with (fail)
     go_meet
     case rel => exact ⟨_, _, _, _, _, _, rfl, PZ_6, ow_6, by first | omega | (simp at *; omega), by first | omega | (simp at *; omega), by first | omega | (simp at *; omega), by first | omega | (simp at *; omega), bs_6⟩
   ·go_simp
    obtain ⟨u_2, hw_2, PZ_2, hb_2⟩ : ∃ W, u_1.alloc (.cells #[.slice none 0 0, .int .i64 0, .int .i64 0, .slice none 0 0, .slice none 0 0] 30) = W ∧ W.heap[u_1.heap.size]? = some (.cells #[.slice none 0 0, .int .i64 0, .int .i64 0, .slice none 0 0, .slice none 0 0] 30 (0, 0)) ∧ Below u_1.heap.size u_1 W := ⟨_, rfl, heap_alloc_new u_1 _, below1 u_1 _⟩
    try rw [hw_2]
    clear hw_2
    have bs_2 := bs_1.trans (hb_2.mono bs_1.size)
    have sz_2 := hb_2.size
    have qt_2 := qt_1.trans (hb_2.mono qt_1.size)
    have hpl_2 := (Array.getElem?_eq_some_iff.1 PZ_2).1
    refine hK.out _ _ ?_ (fun hHeld => ?_)
    ·exact ⟨rowCells (keepHeap bs_2 A_16), rowCells (keepHeap bs_2 B_16)⟩
    clear hK K
    (try simp only [zP, zA, zB, zC])
    refine wpAnyH_ready (rs := [3]) (by kernel_rfl) (by simp) ?_
    refine AllReadyH.cons rfl (fun K hK => ?_) AllReadyH.nil
    go_simp
    refine (toIntS_cap ((h'.keep q0_16).keep bs_2) (by omega)).mono ?_
    rintro e u_3 ⟨vi, rfl, oi, -, hb_3⟩
    have bs_3 := bs_2.trans (hb_3.mono bs_2.size)
    have sz_3 := hb_3.size
    have qt_3 := qt_2.trans (hb_3.mono qt_2.size)
    have PZ_3 := keepHeap hb_3 PZ_2
    have qi_3 := Below.refl u_3.heap.size u_3
    obtain ⟨ai, ci, e0, -⟩ := id oi.rd
    subst e0
    (try go_wp2_with (fail))
    refine hK.out _ _ ?_ (fun hHeld => ?_)
    ·exact ⟨rowCells (keepHeap bs_3 A_16), rowCells (keepHeap bs_3 B_16)⟩
    clear hK K
    (try simp only [zP, zA, zB, zC])
    refine wpAnyH_ready (rs := [5]) (by kernel_rfl) (by simp) ?_
    refine AllReadyH.cons rfl (fun K hK => ?_) AllReadyH.nil
    go_simp
    refine (hft _).mono ?_
    rintro e u_4 ⟨rfl, hb_4⟩
    have bs_4 := bs_3.trans (hb_4.mono bs_3.size)
    have sz_4 := hb_4.size
    have qt_4 := qt_3.trans (hb_4.mono qt_3.size)
    have qi_4 := qi_3.trans (hb_4.mono qi_3.size)
    have PZ_4 := keepHeap hb_4 PZ_3
    (try go_wp2_with (fail))
    refine hK.out _ _ ?_ (fun hHeld => ?_)
    ·exact ⟨rowCells (keepHeap bs_4 A_16), rowCells (keepHeap bs_4 B_16)⟩
    clear hK K
    (try simp only [zP, zA, zB, zC])
    refine wpAnyH_ready (rs := [6]) (by kernel_rfl) (by simp) ?_
    refine AllReadyH.cons rfl (fun K hK => ?_) AllReadyH.nil
    go_simp
    refine (himpl (ot.rd.keep qt_4) (oi.rd.keep qi_4)).mono ?_
    rintro e u_5 ⟨vlz, vsz, vbz, rfl, ow_5, -, hb_5⟩
    have bs_5 := bs_4.trans (hb_5.mono bs_4.size)
    have sz_5 := hb_5.size
    have qt_5 := qt_4.trans (hb_5.mono qt_4.size)
    have qi_5 := qi_4.trans (hb_5.mono qi_4.size)
    have PZ_5 := keepHeap hb_5 PZ_4
    obtain ⟨lo0, hi0, ow_5, hlo, hhi⟩ : ∃ lo hi, OwnWIn u_5 lo hi y vlz vsz vbz ∧ u_4.heap.size ≤ lo ∧ hi ≤ u_5.heap.size := ⟨_, _, ow_5, Nat.le_refl _, Nat.le_refl _⟩
    have rdz := ow_5.rd
    obtain ⟨alz, clz, e0, -⟩ := id rdz.1
    subst e0
    obtain ⟨aqz, cqz, e0, -⟩ := id rdz.2.1
    subst e0
    obtain ⟨abz, cbz, e0, -⟩ := id rdz.2.2
    subst e0
    clear rdz
    (try go_wp2_with (fail))
    refine hK.out _ _ ?_ (fun hHeld => ?_)
    ·exact ⟨rowCells (keepHeap bs_5 A_16), rowCells (keepHeap bs_5 B_16)⟩
    clear hK K
    (try simp only [zP, zA, zB, zC])
    refine wpAnyH_ready (rs := [8]) (by kernel_rfl) (by simp) ?_
    refine AllReadyH.cons rfl (fun K hK => ?_) AllReadyH.nil
    have cn := rowCells PZ_5
    have fn := fun j => frozenHeap PZ_5 j
    go_simp
    have hsb := bs_5.size
    have hdr : w_16.drew.heap.size = w_16.heap.size := rfl
    have F_6 := putW_farB u_5 (u_1.heap.size) y (.slice alz y.rows.length clz) (.slice aqz y.scores.length cqz) (.slice abz y.bods.length cbz)
    have PZ_6 := putW_heap PZ_5 rfl y (.slice alz y.rows.length clz) (.slice aqz y.scores.length cqz) (.slice abz y.bods.length cbz)
    have bs_6 := putW_below bs_5 (c := u_1.heap.size) (by first | omega | (simp; done) | (simp; omega)) y (.slice alz y.rows.length clz) (.slice aqz y.scores.length cqz) (.slice abz y.bods.length cbz)
    have ow_6 := ow_5.apartW F_6 (by first | omega | (simp at *; omega))
    obtain ⟨u_6, hw_6⟩ : ∃ W, putW u_5 (u_1.heap.size) y (.slice alz y.rows.length clz) (.slice aqz y.scores.length cqz) (.slice abz y.bods.length cbz) = W := ⟨_, rfl⟩
    have hz_6 : u_6.heap.size = u_5.heap.size := by rw [← hw_6]; simp [putW]
    rw [hw_6] at PZ_6 bs_6 ow_6
    unfold putW at hw_6
    try rw [hw_6]
    clear hw_6 cn fn F_6
    refine hK.out _ _ ?_ (fun hHeld => ?_)
    ·exact ⟨rowCells (keepHeap bs_6 A_16), rowCells (keepHeap bs_6 B_16)⟩
    clear hK K
    (try simp only [zP, zA, zB, zC])
    refine wpAnyH_done (by kernel_rfl) ?_ _
    have hszf := bs_6.size
    go_wp2_with (fail)
    go_meet
    case rel => exact ⟨_, _, _, _, _, _, rfl, PZ_6, ow_6, by first | omega | (simp at *; omega), by first | omega | (simp at *; omega), by first | omega | (simp at *; omega), by first | omega | (simp at *; omega), bs_6⟩
  ·go_simp
   obtain ⟨u_1, hw_1, PZ_1, hb_1⟩ : ∃ W, (w_16.alloc (.cells #[.slice none 0 0, .int .i64 0, .int .i64 0, .slice none 0 0, .slice none 0 0] 30)).drew = W ∧ W.heap[w_16.heap.size]? = some (.cells #[.slice none 0 0, .int .i64 0, .int .i64 0, .slice none 0 0, .slice none 0 0] 30 (0, 0)) ∧ Below w_16.drew.heap.size w_16.drew W := ⟨_, rfl, heap_alloc_new w_16.drew _, below1 w_16.drew _⟩
   try rw [hw_1]
   clear hw_1
   have bs_1 := bs_0.trans (hb_1.mono bs_0.size)
   have sz_1 := hb_1.size
   have hpl_1 := (Array.getElem?_eq_some_iff.1 PZ_1).1
   refine hK.out _ _ ?_ (fun hHeld => ?_)
   ·exact ⟨rowCells (keepHeap bs_1 A_16), rowCells (keepHeap bs_1 B_16)⟩
   clear hK K
   (try simp only [zP, zA, zB, zC])
   refine wpAnyH_ready (rs := [1]) (by kernel_rfl) (by simp) ?_
   refine AllReadyH.cons rfl (fun K hK => ?_) AllReadyH.nil
   go_simp
   refine (hto ((h0.keep q0_16).keep bs_1)).mono ?_
   rintro e u_2 ⟨vlt, vst, vbt, rfl, ot, -, hb_2⟩
   have bs_2 := bs_1.trans (hb_2.mono bs_1.size)
   have sz_2 := hb_2.size
   have PZ_2 := keepHeap hb_2 PZ_1
   have qt_2 := Below.refl u_2.heap.size u_2
   have rdt := ot.rd
   obtain ⟨alt, clt, e0, -⟩ := id rdt.1
   subst e0
   obtain ⟨aqt, cqt, e0, -⟩ := id rdt.2.1
   subst e0
   obtain ⟨abt, cbt, e0, -⟩ := id rdt.2.2
   subst e0
   clear rdt
   (try go_wp2_with (fail))
   refine hK.out _ _ ?_ (fun hHeld => ?_)
   ·exact ⟨rowCells (keepHeap bs_2 A_16), rowCells (keepHeap bs_2 B_16)⟩
   clear hK K
   (try simp only [zP, zA, zB, zC])
   refine wpAnyH_ready (rs := [3]) (by kernel_rfl) (by simp) ?_
   refine AllReadyH.cons rfl (fun K hK => ?_) AllReadyH.nil
   go_simp
   refine (toIntS_cap ((h'.keep q0_16).keep bs_2) (by omega)).mono ?_
   rintro e u_3 ⟨vi, rfl, oi, -, hb_3⟩
   have bs_3 := bs_2.trans (hb_3.mono bs_2.size)
   have sz_3 := hb_3.size
   have qt_3 := qt_2.trans (hb_3.mono qt_2.size)
   have PZ_3 := keepHeap hb_3 PZ_2
   have qi_3 := Below.refl u_3.heap.size u_3
   obtain ⟨ai, ci, e0, -⟩ := id oi.rd
   subst e0
   (try go_wp2_with (fail))
   refine hK.out _ _ ?_ (fun hHeld => ?_)
   ·exact ⟨rowCells (keepHeap bs_3 A_16), rowCells (keepHeap bs_3 B_16)⟩
   clear hK K
   (try simp only [zP, zA, zB, zC])
   refine wpAnyH_ready (rs := [5]) (by kernel_rfl) (by simp) ?_
   refine AllReadyH.cons rfl (fun K hK => ?_) AllReadyH.nil
   go_simp
   refine (hft _).mono ?_
   rintro e u_4 ⟨rfl, hb_4⟩
   have bs_4 := bs_3.trans (hb_4.mono bs_3.size)
   have sz_4 := hb_4.size
   have qt_4 := qt_3.trans (hb_4.mono qt_3.size)
   have qi_4 := qi_3.trans (hb_4.mono qi_3.size)
   have PZ_4 := keepHeap hb_4 PZ_3
   (try go_wp2_with (fail))
   refine hK.out _ _ ?_ (fun hHeld => ?_)
   ·exact ⟨rowCells (keepHeap bs_4 A_16), rowCells (keepHeap bs_4 B_16)⟩
   clear hK K
   (try simp only [zP, zA, zB, zC])
   refine wpAnyH_ready (rs := [6]) (by kernel_rfl) (by simp) ?_
   refine AllReadyH.cons rfl (fun K hK => ?_) AllReadyH.nil
   go_simp
   refine (himpl (ot.rd.keep qt_4) (oi.rd.keep qi_4)).mono ?_
   rintro e u_5 ⟨vlz, vsz, vbz, rfl, ow_5, -, hb_5⟩
   have bs_5 := bs_4.trans (hb_5.mono bs_4.size)
   have sz_5 := hb_5.size
   have qt_5 := qt_4.trans (hb_5.mono qt_4.size)
   have qi_5 := qi_4.trans (hb_5.mono qi_4.size)
   have PZ_5 := keepHeap hb_5 PZ_4
   obtain ⟨lo0, hi0, ow_5, hlo, hhi⟩ : ∃ lo hi, OwnWIn u_5 lo hi y vlz vsz vbz ∧ u_4.heap.size ≤ lo ∧ hi ≤ u_5.heap.size := ⟨_, _, ow_5, Nat.le_refl _, Nat.le_refl _⟩
   have rdz := ow_5.rd
   obtain ⟨alz, clz, e0, -⟩ := id rdz.1
   subst e0
   obtain ⟨aqz, cqz, e0, -⟩ := id rdz.2.1
   subst e0
   obtain ⟨abz, cbz, e0, -⟩ := id rdz.2.2
   subst e0
   clear rdz
   (try go_wp2_with (fail))
   refine hK.out _ _ ?_ (fun hHeld => ?_)
   ·exact ⟨rowCells (keepHeap bs_5 A_16), rowCells (keepHeap bs_5 B_16)⟩
   clear hK K
   (try simp only [zP, zA, zB, zC])
   refine wpAnyH_ready (rs := [8]) (by kernel_rfl) (by simp) ?_
   refine AllReadyH.cons rfl (fun K hK => ?_) AllReadyH.nil
   have cn := rowCells PZ_5
   have fn := fun j => frozenHeap PZ_5 j
   go_simp
   have hsb := bs_5.size
   have hdr : w_16.drew.heap.size = w_16.heap.size := rfl
   have F_6 := putW_farB u_5 (w_16.heap.size) y (.slice alz y.rows.length clz) (.slice aqz y.scores.length cqz) (.slice abz y.bods.length cbz)
   have PZ_6 := putW_heap PZ_5 rfl y (.slice alz y.rows.length clz) (.slice aqz y.scores.length cqz) (.slice abz y.bods.length cbz)
   have bs_6 := putW_below bs_5 (c := w_16.heap.size) (by first | omega | (simp; done) | (simp; omega)) y (.slice alz y.rows.length clz) (.slice aqz y.scores.length cqz) (.slice abz y.bods.length cbz)
   have ow_6 := ow_5.apartW F_6 (by first | omega | (simp at *; omega))
   obtain ⟨u_6, hw_6⟩ : ∃ W, putW u_5 (w_16.heap.size) y (.slice alz y.rows.length clz) (.slice aqz y.scores.length cqz) (.slice abz y.bods.length cbz) = W := ⟨_, rfl⟩
   have hz_6 : u_6.heap.size = u_5.heap.size := by rw [← hw_6]; simp [putW]
   rw [hw_6] at PZ_6 bs_6 ow_6
   unfold putW at hw_6
   try rw [hw_6]
   clear hw_6 cn fn F_6
   refine hK.out _ _ ?_ (fun hHeld => ?_)
   ·exact ⟨rowCells (keepHeap bs_6 A_16), rowCells (keepHeap bs_6 B_16)⟩
   clear hK K
   (try simp only [zP, zA, zB, zC])
   refine wpAnyH_done (by kernel_rfl) ?_ _
   have hszf := bs_6.size
   go_wp2_with (fail)
   go_meet
   case rel => exact ⟨_, _, _, _, _, _, rfl, PZ_6, ow_6, by first | omega | (simp at *; omega), by first | omega | (simp at *; omega), by first | omega | (simp at *; omega), by first | omega | (simp at *; omega), bs_6⟩
 obtain ⟨ptH, loH, hiH, vlH, vsH, vbH, rfl, H_C, oH, hdH, hloH, hhiH, hptH, hbCH⟩ := hcut
 obtain ⟨wCH, ew⟩ : ∃ W, W = wc := ⟨_, rfl⟩
 subst ew
 have q0_17 := q0_16.trans (hbCH.mono q0_16.size)
 have qSP_17 := qSP_16.trans (hbCH.mono qSP_16.size)
 have qM_17 := qM_16.trans (hbCH.mono qM_16.size)
 have A_17 := keepHeap hbCH A_16
 have B_17 := keepHeap hbCH B_16
 have P_17 := keepHeap hbCH P_16
 have G_17 := keepHeap hbCH G_16
 have sz_17 := hbCH.size
 clear q0_16 qSP_16 qM_16 A_16 B_16 P_16 G_16 cA_16
 have rdH := oH.rd
 obtain ⟨alH, clH, rfl, -⟩ := id rdH.1
 obtain ⟨aqH, cqH, rfl, -⟩ := id rdH.2.1
 obtain ⟨abH, cbH, rfl, -⟩ := id rdH.2.2
 clear rdH
 unfold wdC at H_C
 have ltH := (Array.getElem?_eq_some_iff.1 H_C).1
 have qSH_17 : Below wCH.heap.size wCH wCH := Below.refl _ _
 have cP_17 := rowCells P_17
 have cH_C := rowCells H_C
 go_wp2_with (fail)
 refine (heq (oH.rd.keep qSH_17) (oP.rd.keep qSP_17)).mono ?_
 rintro e w_18 ⟨rfl, hb_18⟩
 have q0_18 := q0_17.trans (hb_18.mono q0_17.size)
 have qSP_18 := qSP_17.trans (hb_18.mono qSP_17.size)
 have qM_18 := qM_17.trans (hb_18.mono qM_17.size)
 have qSH_18 := qSH_17.trans (hb_18.mono qSH_17.size)
 have A_18 := keepHeap hb_18 A_17
 have B_18 := keepHeap hb_18 B_17
 have P_18 := keepHeap hb_18 P_17
 have G_18 := keepHeap hb_18 G_17
 have H_18 := keepHeap hb_18 H_C
 have sz_18 := hb_18.size
 clear q0_17 qSP_17 qM_17 qSH_17 A_17 B_17 P_17 G_17 H_C cP_17 cH_C
 clear hb_18
 have cG_18 := rowCells G_18
 go_wp2_with (fail)
 refine (hhd (mg.rd.keep qM_18)).mono ?_
 rintro e w_19 ⟨rfl, hb_19⟩
 have q0_19 := q0_18.trans (hb_19.mono q0_18.size)
 have qSP_19 := qSP_18.trans (hb_19.mono qSP_18.size)
 have qM_19 := qM_18.trans (hb_19.mono qM_18.size)
 have qSH_19 := qSH_18.trans (hb_19.mono qSH_18.size)
 have A_19 := keepHeap hb_19 A_18
 have B_19 := keepHeap hb_19 B_18
 have P_19 := keepHeap hb_19 P_18
 have G_19 := keepHeap hb_19 G_18
 have H_19 := keepHeap hb_19 H_18
 have sz_19 := hb_19.size
 clear q0_18 qSP_18 qM_18 qSH_18 A_18 B_18 P_18 G_18 H_18 cG_18
 clear hb_19
 go_wp2_with (fail)
 go_ret
 exact ⟨rfl, q0_19⟩
end Go.Proofs.YtnlonkkbjkfkmaaGreatDoor
