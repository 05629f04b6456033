/-
  Texts of this proof: Flt.
-/
import Derived.Test.YtnlonkkbjkfkmaaGreatDoorM47
import Derived.Test.YtnlonkkbjkfkmaaGreatDoorM37
namespace Go.Proofs.YtnlonkkbjkfkmaaGreatDoor
open Go.RowKit
set_option linter.all false
def faultW (x : Wd) (row : List Int) (f : Ft) : Wd :=
 if faultB f (x.scores.length : Int) = true ∧ (stepW x row).tick = f.tick ∧ x.tick < (stepW x row).tick then ⟨(stepW x row).rows, (stepW x row).tick, (stepW x row).seed, (stepW x row).scores.set f.player.toNat (min ((stepW x row).scores.getD f.player.toNat 0 + f.add) 1000000), (stepW x row).bods⟩ else stepW x row
theorem stepW_len (x : Wd) (row : List Int) : (stepW x row).scores.length = x.scores.length := by
 cases hq : worldB x with
 | false => rw [step_no (sok_w hq)]
 | true =>
  unfold stepW
  split
  ·have h0 := fineX_of hq
   have h1 := steerX_fine h0 row
   have h2 := moveXW_fine h1
   obtain ⟨h3, l3⟩ := meetX_fine h2 1
   obtain ⟨h4, l4⟩ := meetX_fine h3 2
   have e : (stepV x row).scores = (meetX 2 (meetX 1 (moveXW (steerX x row)))).scores := by unfold stepV timeX; split <;> rfl
   rw [e, l4, l3]; rfl
  ·rfl
theorem stepW_go (x : Wd) (row : List Int) (h : x.tick < (stepW x row).tick) : worldB (stepW x row) = true ∧ worldB x = true := by
 cases hq : worldB x with
 | false => rw [step_no (sok_w hq)] at h; omega
 | true => exact ⟨stepW_ok hq, rfl⟩
theorem faultB_parts {f : Ft} {n : Int} (h : faultB f n = true) : (0 ≤ f.player ∧ f.player ≤ n - 1) ∧ (0 ≤ f.add ∧ f.add ≤ 9) := by
 unfold faultB at h
 simp only [Bool.and_eq_true, inR_iff] at h
 exact ⟨h.2.1, h.2.2⟩
theorem OwnWIn.score {w : World} {lo hi : Nat} {y : Wd} {vl vs vb : Value} (h : OwnWIn w lo hi y vl vs vb) {k : Nat} (hk : k < y.scores.length) :
  ∃ (g c : Nat), vs = .slice (some ⟨g, 0, none⟩) y.scores.length c ∧ lo ≤ g ∧ g < hi ∧ w.cell? ⟨g, k, none⟩ = some (.int .i64 y.scores[k]) ∧ w.frozen? ⟨g, k, none⟩ = false ∧ ∀ v : Int, OwnWIn (w.setCell ⟨g, k, none⟩ (.int .i64 v)) lo hi ⟨y.rows, y.tick, y.seed, y.scores.set k v, y.bods⟩ vl vs vb := by
 obtain ⟨a1, b1, a2, b2, a3, b3, c1, c2, c3, d1, d2, d3, e1, e2, e3, e4⟩ := h
 obtain ⟨a, c, hv, hr⟩ := e3
 obtain ⟨g, hg1, hg2, rfl, hrow⟩ := hr.resolve_left (by intro e; rw [e] at hk; simp at hk)
 refine ⟨g, c, hv, by omega, by omega, hrow.1 k hk, hrow.2 k hk, fun v => ?_⟩
 have hf : FarB g (g + 1) w (w.setCell ⟨g, k, none⟩ (.int .i64 v)) := ⟨(Below.refl _ _).setCell (p := ⟨g, k, none⟩) (Nat.le_refl _) _, fun j hj _ => Below.heap_setCell _ _ _ j (by show j ≠ g; omega)⟩
 exact ⟨a1, b1, a2, b2, a3, b3, c1, c2, c3, d1, d2, d3, e1.apart2 e2 hf (by omega), e2, ⟨_, c, by rw [hv, List.length_set], .inr ⟨g, hg1, hg2, rfl, hrow.set k hk v⟩⟩, e4.apart2 hf (by omega)⟩
set_option maxRecDepth 100000 in
set_option maxHeartbeats 8000000 in
theorem faultyStep_impl {w : World} {x : Wd} {vl vs vb : Value} (h : RdW w x vl vs vb) (hs : x.sane) (hn : x.few) {vr : Value} {row : List Int} (hr : RdI w vr row) (hrl : row.length ≤ 9223372036854775807) (f : Ft) :
  Calls Tryz.prog 26 #[.agg (wdC x vl vs vb), vr, ftV f] w (RetStW w (faultW x row f)) := by
 unfold ftV
 obtain ⟨ft, fp, fa⟩ := f
 have h0 := h
 obtain ⟨al, cl, e0, -⟩ := id h.1
 subst e0
 obtain ⟨aq, cq, e0, -⟩ := id h.2.1
 subst e0
 obtain ⟨ab, cb, e0, -⟩ := id h.2.2
 subst e0
 obtain ⟨ar, cr, e0, -⟩ := id hr
 subst e0
 obtain ⟨W0, hW, hA, hF, hR, hB0, hS0⟩ := rows3 w #[Value.slice al x.rows.length cl, .int .i64 x.tick, .int .i64 x.seed, .slice aq x.scores.length cq, .slice ab x.bods.length cb] #[Value.int .i64 ft, .int .i64 fp, .int .i64 fa] #[.slice none 0 0, .int .i64 0, .int .i64 0, .slice none 0 0, .slice none 0 0] 30 53 30
 have cA := rowCells hA
 have hst := stepWorld_impl (h0.keep hB0) hs hn (hr.keep hB0) hrl
 have hfo := fun W => faultOk_impl ⟨ft, fp, fa⟩ (x.scores.length : Int) W
 unfold ftV at hfo
 dsimp only at hfo
 have HYS := Lib.hid (stepW_len x row)
 have hyk := stepW_go x row
 have hFW := Lib.hid (rfl : faultW x row ⟨ft, fp, fa⟩ = faultW x row ⟨ft, fp, fa⟩)
 have HW : Hid (faultW x row ⟨ft, fp, fa⟩ = if faultB ⟨ft, fp, fa⟩ (x.scores.length : Int) = true ∧ (stepW x row).tick = ft ∧ x.tick < (stepW x row).tick then ⟨(stepW x row).rows, (stepW x row).tick, (stepW x row).seed, (stepW x row).scores.set fp.toNat (min ((stepW x row).scores.getD fp.toNat 0 + fa) 1000000), (stepW x row).bods⟩ else stepW x row) := Lib.hid rfl
 unfold wdC at hst ⊢
 clear hFW
 generalize stepW x row = y at *
 generalize faultW x row ⟨ft, fp, fa⟩ = z at *
 go_enter Tryz.func26, Tryz.ntmps26
 go_wp2_with (fail)
 try rw [hW]
 clear hW
 refine hst.mono ?_
 rintro e w1 ⟨vl1, vs1, vb1, rfl, ow1, hc1, hb1⟩
 have hrd1 := ow1.rd
 obtain ⟨al1, cl1, e0, -⟩ := id hrd1.1
 subst e0
 obtain ⟨aq1, cq1, e0, -⟩ := id hrd1.2.1
 subst e0
 obtain ⟨ab1, cb1, e0, -⟩ := id hrd1.2.2
 subst e0
 have HC := Lib.hid hc1
 have hA1 := keepHeap hb1 hA
 have hF1 := keepHeap hb1 hF
 have hR1 := keepHeap hb1 hR
 have hb01 := hB0.trans (hb1.mono hB0.size)
 have hs1 := hb1.size
 unfold wdC
 have hRl := (Array.getElem?_eq_some_iff.1 hR).1
 clear cA hst hA hF hR hc1 hrd1
 go_upto_region 2 with (fail)
 obtain ⟨w2, hw2, P2, hb2⟩ : ∃ W, w1.alloc (.cells #[Value.slice al1 y.rows.length cl1, .int .i64 y.tick, .int .i64 y.seed, .slice aq1 y.scores.length cq1, .slice ab1 y.bods.length cb1] 30) = W ∧ W.heap[w1.heap.size]? = some (.cells #[Value.slice al1 y.rows.length cl1, .int .i64 y.tick, .int .i64 y.seed, .slice aq1 y.scores.length cq1, .slice ab1 y.bods.length cb1] 30 (0, 0)) ∧ Below w1.heap.size w1 W := ⟨_, rfl, heap_alloc_new w1 _, below1 w1 _⟩
 rw [hw2]
 clear hw2
 obtain ⟨p, hp⟩ : ∃ p, p = w1.heap.size := ⟨_, rfl⟩
 rw [← hp] at P2 ⊢
 have hpw : w.heap.size + 3 ≤ p := by omega
 have ow2 : OwnWIn w2 W0.heap.size p y (.slice al1 y.rows.length cl1) (.slice aq1 y.scores.length cq1) (.slice ab1 y.bods.length cb1) := by rw [hp]; exact ow1.keep hb2
 have b2 := hb01.trans (hb2.mono hb01.size)
 have A2 := keepHeap hb2 hA1
 have F2 := keepHeap hb2 hF1
 have R2 := keepHeap hb2 hR1
 have hs2 := hb2.size
 have hW0 : w.heap.size + 3 ≤ W0.heap.size := by omega
 have cA2 := rowCells A2
 have cF2 := rowCells F2
 clear hp hA1 hF1 hR1 hb01 hb2 ow1 hb1
 go_wp2_with (fail)
 refine (hfo _).mono ?_
 rintro e w3 ⟨rfl, hb3⟩
 have P3 := keepHeap hb3 P2
 have A3 := keepHeap hb3 A2
 have F3 := keepHeap hb3 F2
 have R3 := keepHeap hb3 R2
 have b3 := b2.trans (hb3.mono b2.size)
 have ow3 := ow2.keep hb3
 have hs3 := hb3.size
 have cA3 := rowCells A3
 have cF3 := rowCells F3
 have cP3 := rowCells P3
 clear cA2 cF2 A2 F2 R2 P2 b2 ow2 hfo hb3
 have hp3 := (Array.getElem?_eq_some_iff.1 P3).1
 cases qf : faultB ⟨ft, fp, fa⟩ (x.scores.length : Int) with
 | false =>
  have HQ : Hid (z = y) := Lib.hid (by rw [HW.out, qf]; rfl)
  clear qf HW hyk
  have cPe := rowCells P3
  have cRe := rowCells R3
  have fRe := fun j => frozenHeap R3 j
  go_wp2_with (fail)
  have hPP := putW_heap R3 rfl y (.slice al1 y.rows.length cl1) (.slice aq1 y.scores.length cq1) (.slice ab1 y.bods.length cb1)
  have hbP := putW_below b3 (c := w.heap.size + 2) (by omega) y (.slice al1 y.rows.length cl1) (.slice aq1 y.scores.length cq1) (.slice ab1 y.bods.length cb1)
  have hOwn := ((ow3).afar (putW_farB w3 (w.heap.size + 2) y (.slice al1 y.rows.length cl1) (.slice aq1 y.scores.length cq1) (.slice ab1 y.bods.length cb1)) (by omega)).wide (lo' := w.heap.size) (hi' := (putW w3 (w.heap.size + 2) y (.slice al1 y.rows.length cl1) (.slice aq1 y.scores.length cq1) (.slice ab1 y.bods.length cb1)).heap.size) (by omega) (by simp [putW]; omega)
  unfold putW at hPP hbP hOwn
  refine bodyPost_ret (results_cell_row rfl _ _ (w.heap.size + 2) 30 (wdC y (.slice al1 y.rows.length cl1) (.slice aq1 y.scores.length cq1) (.slice ab1 y.bods.length cb1)) (0, 0) ?zd ?zp ?zg ?zu ?zf ?zi) rfl ?_
  case zp => rfl
  case zg => exact hPP
  case zu => exact Tryz.underlying30
  case zf => rfl
  case zi => kernel_rfl
  exact ⟨_, _, _, by first | (rw [HQ.out]; done) | (rw [HQ.out]; rfl), by rw [HQ.out]; exact hOwn, HC.out, hbP⟩
 | true =>
  have HQF := Lib.hid qf
  clear qf
  by_cases ht : y.tick = ft
  ·have z1 : ((y.tick : Int) == ft) = true := by simpa using ht
   by_cases hg : x.tick < y.tick
   ·have z2 : decide (x.tick < y.tick) = true := decide_eq_true hg
    have z3 : decide (x.tick < ft) = true := by rw [← ht]; exact z2
    have hgf : x.tick < ft := by rw [← ht]; exact hg
    obtain ⟨hyb, hyt⟩ := hyk hg
    have hfb := faultB_parts HQF.out
    dsimp only at hfb
    obtain ⟨k, rfl⟩ := Int.eq_ofNat_of_zero_le hfb.1.1
    have hkn : k < y.scores.length := by rw [HYS.out]; have := hfb.1.2; omega
    have hki : (k : Int) < (y.scores.length : Int) := by omega
    have hsc := (fineX_of hyb).2.2.1.2 k hkn
    obtain ⟨g, c9, e9, hg1, hg2, hcell, hfrz, hown⟩ := ow3.score hkn
    obtain ⟨rfl, -, rfl⟩ := Value.slice.inj e9
    have HE : Hid (z = ⟨y.rows, y.tick, y.seed, y.scores.set k (min (y.scores[k] + fa) 1000000), y.bods⟩) := Lib.hid (by rw [HW.out, if_pos ⟨HQF.out, ht, hg⟩, Int.toNat_natCast, List.getD_eq_getElem?_getD, List.getElem?_eq_getElem hkn]; rfl)
    obtain ⟨hfa0, hfa9⟩ := hfb.2
    generalize y.scores[k] = sc at *
    obtain ⟨M, hM⟩ : ∃ M, M = min (sc + fa) 1000000 := ⟨_, rfl⟩
    rw [← hM] at HE
    have hMs := hM.symm
    have hsum : sc + fa ≤ 1000009 ∧ 0 ≤ sc + fa := by omega
    have hwr : IntKind.i64.wrap (sc + fa) = sc + fa := IntWalk.i64_in _ (by omega)
    have HT := Lib.hid ht
    clear ht hyb hyt hyk HW hM hfb e9
    go_upto_region 3 with (fail)
    clear cA3 cF3 cP3
    obtain ⟨wk, ew⟩ : ∃ W, W = w3 := ⟨_, rfl⟩
    rw [← ew] at hcell hfrz P3 F3 R3 b3 ⊢
    have hown := hown M
    rw [← ew] at hown
    have hwk : wk.heap.size = w3.heap.size := by rw [ew]
    clear ew ow3
    have hP := P3
    have hF := F3
    have hcd : wk.drew.cell? ⟨g, k, none⟩ = some (.int .i64 sc) := hcell
    have hfd : wk.drew.frozen? ⟨g, k, none⟩ = false := hfrz
    have bs_0 : Below wk.heap.size wk wk.drew := belowDrew wk 1
    have hP_0 : wk.drew.heap[p]? = _ := hP
    have hF_0 : wk.drew.heap[w.heap.size + 1]? = _ := hF
    refine wp_region_held_drew (S := (fun w' => (∀ j, w'.cell? ⟨p, j, none⟩ = #[Value.slice al1 y.rows.length cl1, .int .i64 y.tick, .int .i64 y.seed, .slice (some ⟨g, 0, none⟩) y.scores.length cq1, .slice ab1 y.bods.length cb1][j]?) ∧ (∀ j, w'.cell? ⟨w.heap.size + 1, j, none⟩ = #[Value.int .i64 ft, .int .i64 (k : Int), .int .i64 fa][j]?))) (by kernel_rfl) ?_ (fun hHeld => ?_)
    ·exact ⟨rowCells hP_0, rowCells hF_0⟩
    refine tk 0 30 ?_
    (try simp only [zP, zA, zB, zC])
    refine tk 1 31 ?_
    (try simp only [zP, zA, zB, zC])
    refine tk 2 32 ?_
    (try simp only [zP, zA, zB, zC])
    refine tk 3 33 ?_
    (try simp only [zP, zA, zB, zC])
    refine tk 4 34 ?_
    (try simp only [zP, zA, zB, zC])
    refine tk 5 35 ?_
    (try simp only [zP, zA, zB, zC])
    refine tk 6 36 ?_
    (try simp only [zP, zA, zB, zC])
    refine tk 7 37 ?_
    (try simp only [zP, zA, zB, zC])
    refine tk 8 38 ?_
    (try simp only [zP, zA, zB, zC])
    refine tk 10 40 ?_
    (try simp only [zP, zA, zB, zC])
    refine tk 11 41 ?_
    (try simp only [zP, zA, zB, zC])
    refine wpAnyH_ready (rs := [9]) (by kernel_rfl) (by simp) ?_
    refine AllReadyH.cons rfl (fun K hK => ?_) AllReadyH.nil
    go_simp
    refine hK.out _ _ ?_ (fun hHeld => ?_)
    ·exact ⟨rowCells hP_0, rowCells hF_0⟩
    clear hK K
    (try simp only [zP, zA, zB, zC])
    refine tk 12 42 ?_
    (try simp only [zP, zA, zB, zC])
    refine tk 13 43 ?_
    (try simp only [zP, zA, zB, zC])
    refine tk 14 44 ?_
    (try simp only [zP, zA, zB, zC])
    refine wpAnyH_ready (rs := [15]) (by kernel_rfl) (by simp) ?_
    refine AllReadyH.cons rfl (fun K hK => ?_) AllReadyH.nil
    go_simp
    try rw [hwr]
    try rw [hMs]
    have hP_1 : (wk.setCell ⟨g, k, none⟩ (.int .i64 M)).drew.heap[p]? = _ := farHeap (p := ⟨g, k, none⟩) P3 (by show p ≠ g; omega) (.int .i64 M)
    have hF_1 : (wk.setCell ⟨g, k, none⟩ (.int .i64 M)).drew.heap[w.heap.size + 1]? = _ := farHeap (p := ⟨g, k, none⟩) F3 (by show w.heap.size + 1 ≠ g; omega) (.int .i64 M)
    refine hK.out _ _ ?_ (fun hHeld => ?_)
    ·exact ⟨rowCells hP_1, rowCells hF_1⟩
    clear hK K
    (try simp only [zP, zA, zB, zC])
    refine wpAnyH_done (by kernel_rfl) ?_ _
    clear hcd hfd hcell hfrz
    have hOO : OwnWIn ((wk.setCell ⟨g, k, none⟩ (.int .i64 M)).drew) W0.heap.size p ⟨y.rows, y.tick, y.seed, y.scores.set k M, y.bods⟩ (.slice al1 y.rows.length cl1) (.slice (some ⟨g, 0, none⟩) y.scores.length cq1) (.slice ab1 y.bods.length cb1) := hown.keep (belowDrew _ 1)
    have bO : Below w.heap.size w ((wk.setCell ⟨g, k, none⟩ (.int .i64 M)).drew) := (b3.setCell (p := ⟨g, k, none⟩) (by show w.heap.size ≤ g; omega) (.int .i64 M)).trans ((belowDrew _ 1).mono (by have := b3.size; simp; omega))
    have RO : ((wk.setCell ⟨g, k, none⟩ (.int .i64 M)).drew).heap[w.heap.size + 2]? = _ := farHeap (p := ⟨g, k, none⟩) R3 (by show w.heap.size + 2 ≠ g; omega) (.int .i64 M)
    have hzO : ((wk.setCell ⟨g, k, none⟩ (.int .i64 M)).drew).heap.size = wk.heap.size := by show (wk.setCell ⟨g, k, none⟩ (.int .i64 M)).heap.size = wk.heap.size; simp
    obtain ⟨wz, ez⟩ : ∃ W, W = (wk.setCell ⟨g, k, none⟩ (.int .i64 M)).drew := ⟨_, rfl⟩
    rw [← ez] at hOO bO RO hzO hP_1 hF_1 ⊢
    have hyl : (y.scores.set k M).length = y.scores.length := List.length_set
    obtain ⟨S, hS⟩ : ∃ S, S = y.scores.set k M := ⟨_, rfl⟩
    rw [← hS] at hOO HE hyl
    have hP2 : wz.heap[p]? = some (.cells #[Value.slice al1 y.rows.length cl1, .int .i64 y.tick, .int .i64 y.seed, .slice (some ⟨g, 0, none⟩) S.length cq1, .slice ab1 y.bods.length cb1] 30 (0, 0)) := by rw [hyl]; exact hP_1
    rw [← hyl] at hOO
    have HCC : Hid (CapW (.slice al1 y.rows.length cl1) (.slice (some ⟨g, 0, none⟩) S.length cq1) (.slice ab1 y.bods.length cb1)) := Lib.hid (by rw [hyl]; exact HC.out)
    clear HC
    have HC := HCC
    clear HCC hS hown hP_1 ez
    have hyl2 := hyl
    clear hyl
    obtain ⟨Y, hY⟩ : ∃ Y : Wd, Y = ⟨y.rows, y.tick, y.seed, S, y.bods⟩ := ⟨_, rfl⟩
    clear hyl2
    have cPe := rowCells hP2
    have cRe := rowCells RO
    have fRe := fun j => frozenHeap RO j
    go_wp2_with (fail)
    have hPP := putW_heap RO rfl ⟨y.rows, y.tick, y.seed, S, y.bods⟩ (.slice al1 y.rows.length cl1) (.slice (some ⟨g, 0, none⟩) S.length cq1) (.slice ab1 y.bods.length cb1)
    have hbP := putW_below bO (c := w.heap.size + 2) (by omega) ⟨y.rows, y.tick, y.seed, S, y.bods⟩ (.slice al1 y.rows.length cl1) (.slice (some ⟨g, 0, none⟩) S.length cq1) (.slice ab1 y.bods.length cb1)
    have hOwn := ((hOO).afar (putW_farB wz (w.heap.size + 2) ⟨y.rows, y.tick, y.seed, S, y.bods⟩ (.slice al1 y.rows.length cl1) (.slice (some ⟨g, 0, none⟩) S.length cq1) (.slice ab1 y.bods.length cb1)) (by omega)).wide (lo' := w.heap.size) (hi' := (putW wz (w.heap.size + 2) ⟨y.rows, y.tick, y.seed, S, y.bods⟩ (.slice al1 y.rows.length cl1) (.slice (some ⟨g, 0, none⟩) S.length cq1) (.slice ab1 y.bods.length cb1)).heap.size) (by omega) (by simp [putW]; omega)
    unfold putW at hPP hbP hOwn
    dsimp only at hPP hbP hOwn
    refine bodyPost_ret (results_cell_row rfl _ _ (w.heap.size + 2) 30 (wdC ⟨y.rows, y.tick, y.seed, S, y.bods⟩ (.slice al1 y.rows.length cl1) (.slice (some ⟨g, 0, none⟩) S.length cq1) (.slice ab1 y.bods.length cb1)) (0, 0) ?zd ?zp ?zg ?zu ?zf ?zi) rfl ?_
    case zp => rfl
    case zg => exact hPP
    case zu => exact Tryz.underlying30
    case zf => rfl
    case zi => kernel_rfl
    exact ⟨_, _, _, by first | (rw [HE.out]; done) | (rw [HE.out]; rfl), by rw [HE.out]; exact hOwn, HC.out, hbP⟩
   ·have z2 : decide (x.tick < y.tick) = false := decide_eq_false hg
    have z3 : decide (x.tick < ft) = false := by rw [← ht]; exact z2
    have hgf : ¬ x.tick < ft := by rw [← ht]; exact hg
    have HQ : Hid (z = y) := Lib.hid (by rw [HW.out, if_neg (fun e => hg e.2.2)])
    clear HW hyk ht
    have cPe := rowCells P3
    have cRe := rowCells R3
    have fRe := fun j => frozenHeap R3 j
    go_wp2_with (fail)
    have hPP := putW_heap R3 rfl y (.slice al1 y.rows.length cl1) (.slice aq1 y.scores.length cq1) (.slice ab1 y.bods.length cb1)
    have hbP := putW_below b3 (c := w.heap.size + 2) (by omega) y (.slice al1 y.rows.length cl1) (.slice aq1 y.scores.length cq1) (.slice ab1 y.bods.length cb1)
    have hOwn := ((ow3).afar (putW_farB w3 (w.heap.size + 2) y (.slice al1 y.rows.length cl1) (.slice aq1 y.scores.length cq1) (.slice ab1 y.bods.length cb1)) (by omega)).wide (lo' := w.heap.size) (hi' := (putW w3 (w.heap.size + 2) y (.slice al1 y.rows.length cl1) (.slice aq1 y.scores.length cq1) (.slice ab1 y.bods.length cb1)).heap.size) (by omega) (by simp [putW]; omega)
    unfold putW at hPP hbP hOwn
    refine bodyPost_ret (results_cell_row rfl _ _ (w.heap.size + 2) 30 (wdC y (.slice al1 y.rows.length cl1) (.slice aq1 y.scores.length cq1) (.slice ab1 y.bods.length cb1)) (0, 0) ?zd ?zp ?zg ?zu ?zf ?zi) rfl ?_
    case zp => rfl
    case zg => exact hPP
    case zu => exact Tryz.underlying30
    case zf => rfl
    case zi => kernel_rfl
    exact ⟨_, _, _, by first | (rw [HQ.out]; done) | (rw [HQ.out]; rfl), by rw [HQ.out]; exact hOwn, HC.out, hbP⟩
  ·have z1 : ((y.tick : Int) == ft) = false := by simpa using ht
   have HQ : Hid (z = y) := Lib.hid (by rw [HW.out, if_neg (fun e => ht e.2.1)])
   clear HW hyk
   have cPe := rowCells P3
   have cRe := rowCells R3
   have fRe := fun j => frozenHeap R3 j
   go_wp2_with (fail)
   have hPP := putW_heap R3 rfl y (.slice al1 y.rows.length cl1) (.slice aq1 y.scores.length cq1) (.slice ab1 y.bods.length cb1)
   have hbP := putW_below b3 (c := w.heap.size + 2) (by omega) y (.slice al1 y.rows.length cl1) (.slice aq1 y.scores.length cq1) (.slice ab1 y.bods.length cb1)
   have hOwn := ((ow3).afar (putW_farB w3 (w.heap.size + 2) y (.slice al1 y.rows.length cl1) (.slice aq1 y.scores.length cq1) (.slice ab1 y.bods.length cb1)) (by omega)).wide (lo' := w.heap.size) (hi' := (putW w3 (w.heap.size + 2) y (.slice al1 y.rows.length cl1) (.slice aq1 y.scores.length cq1) (.slice ab1 y.bods.length cb1)).heap.size) (by omega) (by simp [putW]; omega)
   unfold putW at hPP hbP hOwn
   refine bodyPost_ret (results_cell_row rfl _ _ (w.heap.size + 2) 30 (wdC y (.slice al1 y.rows.length cl1) (.slice aq1 y.scores.length cq1) (.slice ab1 y.bods.length cb1)) (0, 0) ?zd ?zp ?zg ?zu ?zf ?zi) rfl ?_
   case zp => rfl
   case zg => exact hPP
   case zu => exact Tryz.underlying30
   case zf => rfl
   case zi => kernel_rfl
   exact ⟨_, _, _, by first | (rw [HQ.out]; done) | (rw [HQ.out]; rfl), by rw [HQ.out]; exact hOwn, HC.out, hbP⟩
set_option maxRecDepth 100000 in
set_option maxHeartbeats 8000000 in
theorem faultyStep_spec {w : World} {x : Wd} {vl vs vb : Value} (h : RdW w x vl vs vb) (hs : x.sane) (hn : x.few) {vr : Value} {row : List Int} (hr : RdI w vr row) (hrl : row.length ≤ 9223372036854775807) (f : Ft) :
  Calls Tryz.prog 22 #[.agg (wdC x vl vs vb), vr, ftV f] w (RetStW w (faultW x row f)) := by
 unfold ftV
 obtain ⟨ft, fp, fa⟩ := f
 have h0 := h
 obtain ⟨al, cl, e0, -⟩ := id h.1
 subst e0
 obtain ⟨aq, cq, e0, -⟩ := id h.2.1
 subst e0
 obtain ⟨ab, cb, e0, -⟩ := id h.2.2
 subst e0
 obtain ⟨ar, cr, e0, -⟩ := id hr
 subst e0
 obtain ⟨W0, hW, hA, hF, hR, hB0, hS0⟩ := rows3 w #[Value.slice al x.rows.length cl, .int .i64 x.tick, .int .i64 x.seed, .slice aq x.scores.length cq, .slice ab x.bods.length cb] #[Value.int .i64 ft, .int .i64 fp, .int .i64 fa] #[.slice none 0 0, .int .i64 0, .int .i64 0, .slice none 0 0, .slice none 0 0] 30 53 30
 have cA := rowCells hA
 have hst := stepWorld_spec (h0.keep hB0) hs hn (hr.keep hB0) hrl
 have hfo := fun W => faultOk_spec ⟨ft, fp, fa⟩ (x.scores.length : Int) W (by have := hs.2.1; omega)
 unfold ftV at hfo
 dsimp only at hfo
 have HYS := Lib.hid (stepW_len x row)
 have hyk := stepW_go x row
 have hFW := Lib.hid (rfl : faultW x row ⟨ft, fp, fa⟩ = faultW x row ⟨ft, fp, fa⟩)
 have HW : Hid (faultW x row ⟨ft, fp, fa⟩ = if faultB ⟨ft, fp, fa⟩ (x.scores.length : Int) = true ∧ (stepW x row).tick = ft ∧ x.tick < (stepW x row).tick then ⟨(stepW x row).rows, (stepW x row).tick, (stepW x row).seed, (stepW x row).scores.set fp.toNat (min ((stepW x row).scores.getD fp.toNat 0 + fa) 1000000), (stepW x row).bods⟩ else stepW x row) := Lib.hid rfl
 unfold wdC at hst ⊢
 clear hFW
 generalize stepW x row = y at *
 generalize faultW x row ⟨ft, fp, fa⟩ = z at *
 go_enter Tryz.func22, Tryz.ntmps22
 go_wp2_with (fail)
 try rw [hW]
 clear hW
 refine hst.mono ?_
 rintro e w1 ⟨vl1, vs1, vb1, rfl, ow1, hc1, hb1⟩
 have hrd1 := ow1.rd
 obtain ⟨al1, cl1, e0, -⟩ := id hrd1.1
 subst e0
 obtain ⟨aq1, cq1, e0, -⟩ := id hrd1.2.1
 subst e0
 obtain ⟨ab1, cb1, e0, -⟩ := id hrd1.2.2
 subst e0
 have HC := Lib.hid hc1
 have hA1 := keepHeap hb1 hA
 have hF1 := keepHeap hb1 hF
 have hR1 := keepHeap hb1 hR
 have hb01 := hB0.trans (hb1.mono hB0.size)
 have hs1 := hb1.size
 unfold wdC
 have hRl := (Array.getElem?_eq_some_iff.1 hR).1
 clear cA hst hA hF hR hc1 hrd1
 go_upto_region 2 with (fail)
 obtain ⟨w2, hw2, P2, hb2⟩ : ∃ W, w1.alloc (.cells #[Value.slice al1 y.rows.length cl1, .int .i64 y.tick, .int .i64 y.seed, .slice aq1 y.scores.length cq1, .slice ab1 y.bods.length cb1] 30) = W ∧ W.heap[w1.heap.size]? = some (.cells #[Value.slice al1 y.rows.length cl1, .int .i64 y.tick, .int .i64 y.seed, .slice aq1 y.scores.length cq1, .slice ab1 y.bods.length cb1] 30 (0, 0)) ∧ Below w1.heap.size w1 W := ⟨_, rfl, heap_alloc_new w1 _, below1 w1 _⟩
 rw [hw2]
 clear hw2
 obtain ⟨p, hp⟩ : ∃ p, p = w1.heap.size := ⟨_, rfl⟩
 rw [← hp] at P2 ⊢
 have hpw : w.heap.size + 3 ≤ p := by omega
 have ow2 : OwnWIn w2 W0.heap.size p y (.slice al1 y.rows.length cl1) (.slice aq1 y.scores.length cq1) (.slice ab1 y.bods.length cb1) := by rw [hp]; exact ow1.keep hb2
 have b2 := hb01.trans (hb2.mono hb01.size)
 have A2 := keepHeap hb2 hA1
 have F2 := keepHeap hb2 hF1
 have R2 := keepHeap hb2 hR1
 have hs2 := hb2.size
 have hW0 : w.heap.size + 3 ≤ W0.heap.size := by omega
 have cA2 := rowCells A2
 have cF2 := rowCells F2
 clear hp hA1 hF1 hR1 hb01 hb2 ow1 hb1
 go_wp2_with (fail)
 refine (hfo _).mono ?_
 rintro e w3 ⟨rfl, hb3⟩
 have P3 := keepHeap hb3 P2
 have A3 := keepHeap hb3 A2
 have F3 := keepHeap hb3 F2
 have R3 := keepHeap hb3 R2
 have b3 := b2.trans (hb3.mono b2.size)
 have ow3 := ow2.keep hb3
 have hs3 := hb3.size
 have cA3 := rowCells A3
 have cF3 := rowCells F3
 have cP3 := rowCells P3
 clear cA2 cF2 A2 F2 R2 P2 b2 ow2 hfo hb3
 have hp3 := (Array.getElem?_eq_some_iff.1 P3).1
 cases qf : faultB ⟨ft, fp, fa⟩ (x.scores.length : Int) with
 | false =>
  have HQ : Hid (z = y) := Lib.hid (by rw [HW.out, qf]; rfl)
  clear qf HW hyk
  have cPe := rowCells P3
  have cRe := rowCells R3
  have fRe := fun j => frozenHeap R3 j
  go_wp2_with (fail)
  have hPP := putW_heap R3 rfl y (.slice al1 y.rows.length cl1) (.slice aq1 y.scores.length cq1) (.slice ab1 y.bods.length cb1)
  have hbP := putW_below b3 (c := w.heap.size + 2) (by omega) y (.slice al1 y.rows.length cl1) (.slice aq1 y.scores.length cq1) (.slice ab1 y.bods.length cb1)
  have hOwn := ((ow3).afar (putW_farB w3 (w.heap.size + 2) y (.slice al1 y.rows.length cl1) (.slice aq1 y.scores.length cq1) (.slice ab1 y.bods.length cb1)) (by omega)).wide (lo' := w.heap.size) (hi' := (putW w3 (w.heap.size + 2) y (.slice al1 y.rows.length cl1) (.slice aq1 y.scores.length cq1) (.slice ab1 y.bods.length cb1)).heap.size) (by omega) (by simp [putW]; omega)
  unfold putW at hPP hbP hOwn
  refine bodyPost_ret (results_cell_row rfl _ _ (w.heap.size + 2) 30 (wdC y (.slice al1 y.rows.length cl1) (.slice aq1 y.scores.length cq1) (.slice ab1 y.bods.length cb1)) (0, 0) ?zd ?zp ?zg ?zu ?zf ?zi) rfl ?_
  case zp => rfl
  case zg => exact hPP
  case zu => exact Tryz.underlying30
  case zf => rfl
  case zi => kernel_rfl
  exact ⟨_, _, _, by first | (rw [HQ.out]; done) | (rw [HQ.out]; rfl), by rw [HQ.out]; exact hOwn, HC.out, hbP⟩
 | true =>
  have HQF := Lib.hid qf
  clear qf
  by_cases ht : y.tick = ft
  ·have z1 : ((y.tick : Int) == ft) = true := by simpa using ht
   by_cases hg : x.tick < y.tick
   ·have z2 : decide (x.tick < y.tick) = true := decide_eq_true hg
    have z3 : decide (x.tick < ft) = true := by rw [← ht]; exact z2
    have hgf : x.tick < ft := by rw [← ht]; exact hg
    obtain ⟨hyb, hyt⟩ := hyk hg
    have hfb := faultB_parts HQF.out
    dsimp only at hfb
    obtain ⟨k, rfl⟩ := Int.eq_ofNat_of_zero_le hfb.1.1
    have hkn : k < y.scores.length := by rw [HYS.out]; have := hfb.1.2; omega
    have hki : (k : Int) < (y.scores.length : Int) := by omega
    have hsc := (fineX_of hyb).2.2.1.2 k hkn
    obtain ⟨g, c9, e9, hg1, hg2, hcell, hfrz, hown⟩ := ow3.score hkn
    obtain ⟨rfl, -, rfl⟩ := Value.slice.inj e9
    have HE : Hid (z = ⟨y.rows, y.tick, y.seed, y.scores.set k (min (y.scores[k] + fa) 1000000), y.bods⟩) := Lib.hid (by rw [HW.out, if_pos ⟨HQF.out, ht, hg⟩, Int.toNat_natCast, List.getD_eq_getElem?_getD, List.getElem?_eq_getElem hkn]; rfl)
    obtain ⟨hfa0, hfa9⟩ := hfb.2
    generalize y.scores[k] = sc at *
    obtain ⟨M, hM⟩ : ∃ M, M = min (sc + fa) 1000000 := ⟨_, rfl⟩
    rw [← hM] at HE
    have hMs := hM.symm
    have hsum : sc + fa ≤ 1000009 ∧ 0 ≤ sc + fa := by omega
    have hwr : IntKind.i64.wrap (sc + fa) = sc + fa := IntWalk.i64_in _ (by omega)
    have HT := Lib.hid ht
    clear ht hyb hyt hyk HW hM hfb e9
    go_upto_region 3 with (fail)
    clear cA3 cF3 cP3
    obtain ⟨wk, ew⟩ : ∃ W, W = w3 := ⟨_, rfl⟩
    rw [← ew] at hcell hfrz P3 F3 R3 b3 ⊢
    have hown := hown M
    rw [← ew] at hown
    have hwk : wk.heap.size = w3.heap.size := by rw [ew]
    clear ew ow3
    have hP := P3
    have hF := F3
    have hcd : wk.drew.cell? ⟨g, k, none⟩ = some (.int .i64 sc) := hcell
    have hfd : wk.drew.frozen? ⟨g, k, none⟩ = false := hfrz
    have bs_0 : Below wk.heap.size wk wk.drew := belowDrew wk 1
    have hP_0 : wk.drew.heap[p]? = _ := hP
    have hF_0 : wk.drew.heap[w.heap.size + 1]? = _ := hF
    refine wp_region_held_drew (S := (fun w' => (∀ j, w'.cell? ⟨p, j, none⟩ = #[Value.slice al1 y.rows.length cl1, .int .i64 y.tick, .int .i64 y.seed, .slice (some ⟨g, 0, none⟩) y.scores.length cq1, .slice ab1 y.bods.length cb1][j]?) ∧ (∀ j, w'.cell? ⟨w.heap.size + 1, j, none⟩ = #[Value.int .i64 ft, .int .i64 (k : Int), .int .i64 fa][j]?))) (by kernel_rfl) ?_ (fun hHeld => ?_)
    ·exact ⟨rowCells hP_0, rowCells hF_0⟩
    refine tk 0 30 ?_
    (try simp only [zP, zA, zB, zC])
    refine tk 1 31 ?_
    (try simp only [zP, zA, zB, zC])
    refine tk 2 32 ?_
    (try simp only [zP, zA, zB, zC])
    refine tk 3 33 ?_
    (try simp only [zP, zA, zB, zC])
    refine tk 4 34 ?_
    (try simp only [zP, zA, zB, zC])
    refine tk 5 35 ?_
    (try simp only [zP, zA, zB, zC])
    refine tk 6 36 ?_
    (try simp only [zP, zA, zB, zC])
    refine tk 7 37 ?_
    (try simp only [zP, zA, zB, zC])
    refine tk 8 38 ?_
    (try simp only [zP, zA, zB, zC])
    refine tk 10 40 ?_
    (try simp only [zP, zA, zB, zC])
    refine tk 11 41 ?_
    (try simp only [zP, zA, zB, zC])
    refine wpAnyH_ready (rs := [9]) (by kernel_rfl) (by simp) ?_
    refine AllReadyH.cons rfl (fun K hK => ?_) AllReadyH.nil
    go_simp
    refine hK.out _ _ ?_ (fun hHeld => ?_)
    ·exact ⟨rowCells hP_0, rowCells hF_0⟩
    clear hK K
    (try simp only [zP, zA, zB, zC])
    refine tk 12 42 ?_
    (try simp only [zP, zA, zB, zC])
    refine tk 13 43 ?_
    (try simp only [zP, zA, zB, zC])
    refine tk 14 44 ?_
    (try simp only [zP, zA, zB, zC])
    refine wpAnyH_ready (rs := [15]) (by kernel_rfl) (by simp) ?_
    refine AllReadyH.cons rfl (fun K hK => ?_) AllReadyH.nil
    go_simp
    try rw [hwr]
    try rw [hMs]
    have hP_1 : (wk.setCell ⟨g, k, none⟩ (.int .i64 M)).drew.heap[p]? = _ := farHeap (p := ⟨g, k, none⟩) P3 (by show p ≠ g; omega) (.int .i64 M)
    have hF_1 : (wk.setCell ⟨g, k, none⟩ (.int .i64 M)).drew.heap[w.heap.size + 1]? = _ := farHeap (p := ⟨g, k, none⟩) F3 (by show w.heap.size + 1 ≠ g; omega) (.int .i64 M)
    refine hK.out _ _ ?_ (fun hHeld => ?_)
    ·exact ⟨rowCells hP_1, rowCells hF_1⟩
    clear hK K
    (try simp only [zP, zA, zB, zC])
    refine wpAnyH_done (by kernel_rfl) ?_ _
    clear hcd hfd hcell hfrz
    have hOO : OwnWIn ((wk.setCell ⟨g, k, none⟩ (.int .i64 M)).drew) W0.heap.size p ⟨y.rows, y.tick, y.seed, y.scores.set k M, y.bods⟩ (.slice al1 y.rows.length cl1) (.slice (some ⟨g, 0, none⟩) y.scores.length cq1) (.slice ab1 y.bods.length cb1) := hown.keep (belowDrew _ 1)
    have bO : Below w.heap.size w ((wk.setCell ⟨g, k, none⟩ (.int .i64 M)).drew) := (b3.setCell (p := ⟨g, k, none⟩) (by show w.heap.size ≤ g; omega) (.int .i64 M)).trans ((belowDrew _ 1).mono (by have := b3.size; simp; omega))
    have RO : ((wk.setCell ⟨g, k, none⟩ (.int .i64 M)).drew).heap[w.heap.size + 2]? = _ := farHeap (p := ⟨g, k, none⟩) R3 (by show w.heap.size + 2 ≠ g; omega) (.int .i64 M)
    have hzO : ((wk.setCell ⟨g, k, none⟩ (.int .i64 M)).drew).heap.size = wk.heap.size := by show (wk.setCell ⟨g, k, none⟩ (.int .i64 M)).heap.size = wk.heap.size; simp
    obtain ⟨wz, ez⟩ : ∃ W, W = (wk.setCell ⟨g, k, none⟩ (.int .i64 M)).drew := ⟨_, rfl⟩
    rw [← ez] at hOO bO RO hzO hP_1 hF_1 ⊢
    have hyl : (y.scores.set k M).length = y.scores.length := List.length_set
    obtain ⟨S, hS⟩ : ∃ S, S = y.scores.set k M := ⟨_, rfl⟩
    rw [← hS] at hOO HE hyl
    have hP2 : wz.heap[p]? = some (.cells #[Value.slice al1 y.rows.length cl1, .int .i64 y.tick, .int .i64 y.seed, .slice (some ⟨g, 0, none⟩) S.length cq1, .slice ab1 y.bods.length cb1] 30 (0, 0)) := by rw [hyl]; exact hP_1
    rw [← hyl] at hOO
    have HCC : Hid (CapW (.slice al1 y.rows.length cl1) (.slice (some ⟨g, 0, none⟩) S.length cq1) (.slice ab1 y.bods.length cb1)) := Lib.hid (by rw [hyl]; exact HC.out)
    clear HC
    have HC := HCC
    clear HCC hS hown hP_1 ez
    have hyl2 := hyl
    clear hyl
    obtain ⟨Y, hY⟩ : ∃ Y : Wd, Y = ⟨y.rows, y.tick, y.seed, S, y.bods⟩ := ⟨_, rfl⟩
    clear hyl2
    have cPe := rowCells hP2
    have cRe := rowCells RO
    have fRe := fun j => frozenHeap RO j
    go_wp2_with (fail)
    have hPP := putW_heap RO rfl ⟨y.rows, y.tick, y.seed, S, y.bods⟩ (.slice al1 y.rows.length cl1) (.slice (some ⟨g, 0, none⟩) S.length cq1) (.slice ab1 y.bods.length cb1)
    have hbP := putW_below bO (c := w.heap.size + 2) (by omega) ⟨y.rows, y.tick, y.seed, S, y.bods⟩ (.slice al1 y.rows.length cl1) (.slice (some ⟨g, 0, none⟩) S.length cq1) (.slice ab1 y.bods.length cb1)
    have hOwn := ((hOO).afar (putW_farB wz (w.heap.size + 2) ⟨y.rows, y.tick, y.seed, S, y.bods⟩ (.slice al1 y.rows.length cl1) (.slice (some ⟨g, 0, none⟩) S.length cq1) (.slice ab1 y.bods.length cb1)) (by omega)).wide (lo' := w.heap.size) (hi' := (putW wz (w.heap.size + 2) ⟨y.rows, y.tick, y.seed, S, y.bods⟩ (.slice al1 y.rows.length cl1) (.slice (some ⟨g, 0, none⟩) S.length cq1) (.slice ab1 y.bods.length cb1)).heap.size) (by omega) (by simp [putW]; omega)
    unfold putW at hPP hbP hOwn
    dsimp only at hPP hbP hOwn
    refine bodyPost_ret (results_cell_row rfl _ _ (w.heap.size + 2) 30 (wdC ⟨y.rows, y.tick, y.seed, S, y.bods⟩ (.slice al1 y.rows.length cl1) (.slice (some ⟨g, 0, none⟩) S.length cq1) (.slice ab1 y.bods.length cb1)) (0, 0) ?zd ?zp ?zg ?zu ?zf ?zi) rfl ?_
    case zp => rfl
    case zg => exact hPP
    case zu => exact Tryz.underlying30
    case zf => rfl
    case zi => kernel_rfl
    exact ⟨_, _, _, by first | (rw [HE.out]; done) | (rw [HE.out]; rfl), by rw [HE.out]; exact hOwn, HC.out, hbP⟩
   ·have z2 : decide (x.tick < y.tick) = false := decide_eq_false hg
    have z3 : decide (x.tick < ft) = false := by rw [← ht]; exact z2
    have hgf : ¬ x.tick < ft := by rw [← ht]; exact hg
    have HQ : Hid (z = y) := Lib.hid (by rw [HW.out, if_neg (fun e => hg e.2.2)])
    clear HW hyk ht
    have cPe := rowCells P3
    have cRe := rowCells R3
    have fRe := fun j => frozenHeap R3 j
    go_wp2_with (fail)
    have hPP := putW_heap R3 rfl y (.slice al1 y.rows.length cl1) (.slice aq1 y.scores.length cq1) (.slice ab1 y.bods.length cb1)
    have hbP := putW_below b3 (c := w.heap.size + 2) (by omega) y (.slice al1 y.rows.length cl1) (.slice aq1 y.scores.length cq1) (.slice ab1 y.bods.length cb1)
    have hOwn := ((ow3).afar (putW_farB w3 (w.heap.size + 2) y (.slice al1 y.rows.length cl1) (.slice aq1 y.scores.length cq1) (.slice ab1 y.bods.length cb1)) (by omega)).wide (lo' := w.heap.size) (hi' := (putW w3 (w.heap.size + 2) y (.slice al1 y.rows.length cl1) (.slice aq1 y.scores.length cq1) (.slice ab1 y.bods.length cb1)).heap.size) (by omega) (by simp [putW]; omega)
    unfold putW at hPP hbP hOwn
    refine bodyPost_ret (results_cell_row rfl _ _ (w.heap.size + 2) 30 (wdC y (.slice al1 y.rows.length cl1) (.slice aq1 y.scores.length cq1) (.slice ab1 y.bods.length cb1)) (0, 0) ?zd ?zp ?zg ?zu ?zf ?zi) rfl ?_
    case zp => rfl
    case zg => exact hPP
    case zu => exact Tryz.underlying30
    case zf => rfl
    case zi => kernel_rfl
    exact ⟨_, _, _, by first | (rw [HQ.out]; done) | (rw [HQ.out]; rfl), by rw [HQ.out]; exact hOwn, HC.out, hbP⟩
  ·have z1 : ((y.tick : Int) == ft) = false := by simpa using ht
   have HQ : Hid (z = y) := Lib.hid (by rw [HW.out, if_neg (fun e => ht e.2.1)])
   clear HW hyk
   have cPe := rowCells P3
   have cRe := rowCells R3
   have fRe := fun j => frozenHeap R3 j
   go_wp2_with (fail)
   have hPP := putW_heap R3 rfl y (.slice al1 y.rows.length cl1) (.slice aq1 y.scores.length cq1) (.slice ab1 y.bods.length cb1)
   have hbP := putW_below b3 (c := w.heap.size + 2) (by omega) y (.slice al1 y.rows.length cl1) (.slice aq1 y.scores.length cq1) (.slice ab1 y.bods.length cb1)
   have hOwn := ((ow3).afar (putW_farB w3 (w.heap.size + 2) y (.slice al1 y.rows.length cl1) (.slice aq1 y.scores.length cq1) (.slice ab1 y.bods.length cb1)) (by omega)).wide (lo' := w.heap.size) (hi' := (putW w3 (w.heap.size + 2) y (.slice al1 y.rows.length cl1) (.slice aq1 y.scores.length cq1) (.slice ab1 y.bods.length cb1)).heap.size) (by omega) (by simp [putW]; omega)
   unfold putW at hPP hbP hOwn
   refine bodyPost_ret (results_cell_row rfl _ _ (w.heap.size + 2) 30 (wdC y (.slice al1 y.rows.length cl1) (.slice aq1 y.scores.length cq1) (.slice ab1 y.bods.length cb1)) (0, 0) ?zd ?zp ?zg ?zu ?zf ?zi) rfl ?_
   case zp => rfl
   case zg => exact hPP
   case zu => exact Tryz.underlying30
   case zf => rfl
   case zi => kernel_rfl
   exact ⟨_, _, _, by first | (rw [HQ.out]; done) | (rw [HQ.out]; rfl), by rw [HQ.out]; exact hOwn, HC.out, hbP⟩
end Go.Proofs.YtnlonkkbjkfkmaaGreatDoor
