/-
  Texts of this proof: RunW.
-/
import Derived.Test.YtdnnejohfhmliaaDoorM46
namespace Go.Proofs.YtdnnejohfhmliaaDoor
open Go.RowKit
set_option linter.all false
theorem worldB_few {x : Wd} (h : worldB x = true) : x.few := by
  have hf := fineX_of h
  obtain ⟨-, h12, -⟩ := levelB_facts hf.1
  exact ⟨by omega, by have := hf.2.1; omega, by have := hf.2.2.2.2.1; omega⟩
theorem stepW_few {x : Wd} {row : List Int} (h : x.few) : (stepW x row).few := by
  cases hq : worldB x with
  | false => rw [step_no (sok_w hq)]; exact h
  | true => exact worldB_few (stepW_ok hq)
theorem fit_fits {L : Rowz} (hg : Good L) {n : Int} (hn : n ≤ 4) {b : Bd} (h : fitB L n b = true) : b.fits := by
  obtain ⟨h0, h1, h2, h3, h4, h5⟩ := fit_parts h
  rw [inR_iff] at h0 h1 h3 h4
  obtain ⟨S, HS⟩ : ∃ S : Nat, sizeI b.kind = (S : Int) := Int.eq_ofNat_of_zero_le (sizeI_range _).1
  rw [HS] at h2
  have hp := blockB_place hg h2
  have hk : b.kind = 0 ∨ b.kind = 1 ∨ b.kind = 2 := by omega
  have h6 : (-1 ≤ b.aim ∧ b.aim ≤ 1) ∧ (0 ≤ b.life ∧ b.life ≤ 3) ∧ (0 ≤ b.timer ∧ b.timer ≤ 25) := by
    rcases hk with hk | hk | hk
    · obtain ⟨a1, a2, a3, a4, a5⟩ := kind0_facts hk h5
      by_cases e : b.life = 0
      · have := a4 e; omega
      · have := a5 e; omega
    · have := kind1_facts hk h5; omega
    · unfold kindB at h5
      rw [if_neg (by omega), if_neg (by omega)] at h5
      simp only [Bool.and_eq_true, decide_eq_true_eq] at h5; omega
  have wf : ∀ n : Int, -9223372036854775808 ≤ n → n ≤ 9223372036854775807 → (Lit.int .i64 n).wf = true := fun n h1 h2 => by
    simp only [Lit.wf, Bool.and_eq_true, decide_eq_true_eq]; exact ⟨h1, h2⟩
  exact ⟨wf _ (by omega) (by omega), wf _ (by omega) (by omega), wf _ (by omega) (by omega), wf _ (by omega) (by omega), wf _ (by omega) (by omega), wf _ (by omega) (by omega), wf _ (by omega) (by omega), wf _ (by omega) (by omega), wf _ (by omega) (by omega)⟩
theorem worldB_sane {x : Wd} (h : worldB x = true) (hs : Sane x.rows) : x.sane := by
  have hf := fineX_of h
  refine ⟨hs, by have := hf.2.1; omega, by have := hf.2.2.2.2.1; omega, fun b hb => ?_⟩
  obtain ⟨k, hk, rfl⟩ := List.mem_iff_getElem.1 hb
  exact fit_fits (levelB_facts hf.1) (by have := hf.2.1; omega) (hf.2.2.2.2.2 k hk).1
theorem stepW_sane {x : Wd} (h : x.sane) (row : List Int) : (stepW x row).sane := by
  cases hq : worldB x with
  | false => rw [step_no (sok_w hq)]; exact h
  | true => exact worldB_sane (stepW_ok hq) (by rw [stepW_rows]; exact h.1)
theorem runW_sane {x : Wd} (h : x.sane) (R : List (List Int)) : (runW x R).sane := by
  induction R generalizing x with
  | nil => exact h
  | cons r R ih => exact ih (stepW_sane h r)
theorem runW_few {x : Wd} (h : x.few) (R : List (List Int)) : (runW x R).few := by
  induction R generalizing x with
  | nil => exact h
  | cons r R ih => exact ih (stepW_few h)
theorem runW_snoc (x : Wd) (R : List (List Int)) (r : List Int) : runW x (R ++ [r]) = stepW (runW x R) r := by
  induction R generalizing x with
  | nil => rfl
  | cons q R ih => exact ih _
set_option maxRecDepth 100000 in
set_option maxHeartbeats 8000000 in
theorem runWorld_spec {w : World} {x : Wd} {vl vs vb : Value} (h : RdW w x vl vs vb) (hs : x.sane) (hn : x.few) {vr : Value} {R : Rowi} (hr : RdR w vr R) (hrl : R.length ≤ 1048576) (hri : ∀ r ∈ R, r.length ≤ 1048576) :
    Calls Tryd.prog 9 #[.agg (wdC x vl vs vb), vr] w (RetStW w (runW x R)) := by
  have h0 := h
  obtain ⟨al, cl, e0, -⟩ := id h.1
  subst e0
  obtain ⟨aq, cq, e0, -⟩ := id h.2.1
  subst e0
  obtain ⟨ab, cb, e0, -⟩ := id h.2.2
  subst e0
  obtain ⟨a, cap, e0, hr⟩ := hr
  subst e0
  obtain ⟨W0, hW, hA, hR, hB0, hS0⟩ := rows2 w #[Value.slice al x.rows.length cl, .int .i64 x.tick, .int .i64 x.seed, .slice aq x.scores.length cq, .slice ab x.bods.length cb] #[.slice none 0 0, .int .i64 0, .int .i64 0, .slice none 0 0, .slice none 0 0] 30 30
  have cA := rowCells hA
  have hcw := copyWorld_spec (h0.keep hB0) hn
  unfold wdC at hcw ⊢
  have hRi : (R.length : Int) ≤ 1048576 := by omega
  go_enter Tryd.func9, Tryd.ntmps9
  go_wp2_with (fail)
  try rw [hW]
  clear hW
  refine hcw.mono ?_
  rintro e w1 ⟨vl1, vs1, vb1, T, rfl, ⟨hT1, hT2⟩, hwl, hlo, hcl, hos, hob, hb1⟩
  have hA1 := keepHeap hb1 hA
  have hR1 := keepHeap hb1 hR
  have hb01 := hB0.trans (hb1.mono hB0.size)
  have hs1 := hb1.size
  have hO1 := ownW_of (w := w1) hT1 hT2 hwl hlo hos hob
  have hC1 : CapW vl1 vs1 vb1 := ⟨hcl, hos.capd, hob.capd⟩
  have hrd1 := hO1.rd
  obtain ⟨al1, cl1, e0, -⟩ := id hrd1.1
  subst e0
  obtain ⟨aq1, cq1, e0, -⟩ := id hrd1.2.1
  subst e0
  obtain ⟨ab1, cb1, e0, -⟩ := id hrd1.2.2
  subst e0
  unfold wdC
  clear cA hcw hA hR hwl hlo hos hob hcl hrd1
  go_upto_region 2 with (fail)
  obtain ⟨W2, hw2, P2, hb2⟩ : ∃ W, w1.alloc (.cells #[Value.slice al1 x.rows.length cl1, .int .i64 x.tick, .int .i64 x.seed, .slice aq1 x.scores.length cq1, .slice ab1 x.bods.length cb1] 30) = W ∧ W.heap[w1.heap.size]? = some (.cells #[Value.slice al1 x.rows.length cl1, .int .i64 x.tick, .int .i64 x.seed, .slice aq1 x.scores.length cq1, .slice ab1 x.bods.length cb1] 30 (0, 0)) ∧ Below w1.heap.size w1 W := ⟨_, rfl, heap_alloc_new w1 _, below1 w1 _⟩
  rw [hw2]
  clear hw2
  obtain ⟨p, hpp⟩ : ∃ p, p = w1.heap.size := ⟨_, rfl⟩
  have R2 := keepHeap hb2 hR1
  have b2 := hb01.trans (hb2.mono hb01.size)
  have o2 := (hO1.keep hb2).wide (lo' := w.heap.size + 2) (hi' := W2.heap.size) (by omega) hb2.size
  have hs2 := hb2.size
  rw [← hpp] at P2 ⊢
  have hpl := (Array.getElem?_eq_some_iff.1 P2).1
  clear hA1 hR1 hO1 hb01 hb1 hB0 hb2 hT1 hT2
  have HC1 := Lib.hid hC1
  have hpw : w.heap.size + 2 ≤ p := by omega
  clear hC1 hpp hs1 hs2 hpl
  have P2 : W2.heap[p]? = some (.cells (wdC x (.slice al1 x.rows.length cl1) (.slice aq1 x.scores.length cq1) (.slice ab1 x.bods.length cb1)) 30 (0, 0)) := P2
  go_wp2_with (fail)
  go_loopw [6] (fun i wr => ∃ (k : Nat) (ul us ub : Value), k ≤ R.length ∧ i = .int .i64 (k : Int) ∧ wr.heap[p]? = some (.cells (wdC (runW x (R.take k)) ul us ub) 30 (0, 0)) ∧ wr.heap[w.heap.size + 1]? = some (.cells #[.slice none 0 0, .int .i64 0, .int .i64 0, .slice none 0 0, .slice none 0 0] 30 (0, 0)) ∧ OwnWIn wr (w.heap.size + 2) wr.heap.size (runW x (R.take k)) ul us ub ∧ CapW ul us ub ∧ Below w.heap.size w wr) (fun i _ => R.length - (intOf i).toNat)
  case atStart => exact ⟨0, _, _, _, Nat.zero_le _, rfl, P2, R2, o2, HC1.out, b2⟩
  case round =>
    clear P2 R2 o2 HC1 b2
    obtain ⟨k, ul, us, ub, hk, rfl, hAr, hRr, hOr, hCr, hbr⟩ := hrel
    have hys := runW_sane hs (R.take k)
    have hyf := runW_few hn (R.take k)
    have HC := Lib.hid hCr
    have hrdr := hOr.rd
    have hsr := hbr.size
    have hAl := (Array.getElem?_eq_some_iff.1 hAr).1
    have hRl := (Array.getElem?_eq_some_iff.1 hRr).1
    by_cases hkl : k < R.length
    · obtain ⟨b, off, rfl, hc⟩ := hr.resolve_left (by intro e; rw [e] at hkl; simp at hkl)
      obtain ⟨u, c0, r0⟩ := hc k hkl
      have c1 : wr.cell? ⟨b, off + k, none⟩ = some u := (hbr.cell (World.block_lt_of_cell? w _ c0)).trans c0
      have r1 := r0.keep hbr
      have hrl1 := hri R[k] (List.getElem_mem _)
      have hki : (k : Int) < (R.length : Int) := by omega
      obtain ⟨y, hy⟩ : ∃ y, y = runW x (R.take k) := ⟨_, rfl⟩
      obtain ⟨r, hr0⟩ : ∃ r, r = R[k] := ⟨_, rfl⟩
      have HN : Hid (runW x (R.take (k + 1)) = stepW y r) := Lib.hid (by rw [List.take_succ_eq_append_getElem hkl, runW_snoc, hy, hr0])
      rw [← hy] at hAr hOr hrdr hys hyf
      rw [← hr0] at r1 hrl1
      have hst := stepWorld_spec (hrdr.keep (belowDrew wr 1)) hys hyf (r1.keep (belowDrew wr 1)) (by omega)
      obtain ⟨ar, cr, e0, -⟩ := id r1
      subst e0
      obtain ⟨al2, cl2, e0, -⟩ := id hrdr.1
      subst e0
      obtain ⟨aq2, cq2, e0, -⟩ := id hrdr.2.1
      subst e0
      obtain ⟨ab2, cb2, e0, -⟩ := id hrdr.2.2
      subst e0
      have hrc : ∀ {W : World}, Below w.heap.size w W → W.cell? ⟨b, off + k, none⟩ = some (.slice ar r.length cr) := fun hW => by rw [hW.cell (World.block_lt_of_cell? w _ c0)]; exact c0
      unfold wdC at hAr hst
      have cAr := rowCells hAr
      generalize hz : stepW y r = z at *
      clear hy hr0 hc hr c0 r0 r1 hrdr hz
      go_upto_region 5 with (fail)
      clear cAr
      have bw_0 : Below w.heap.size w wr.drew := hbr.trans ((belowDrew wr 1).mono hbr.size)
      have hPr := hAr
      have bs_0 : Below wr.heap.size wr wr.drew := belowDrew wr 1
      have hPr_0 : wr.drew.heap[p]? = _ := hPr
      refine wp_region_held_drew (S := (fun w' => w'.cell? ⟨b, off + k, none⟩ = some (.slice ar r.length cr))) (by kernel_rfl) ?_ (fun hHeld => ?_)
      · exact hrc bw_0
      refine take_on (i := 1) (v := ?_) (some 16) rfl (by kernel_rfl) (by kernel_rfl) (by kernel_rfl) rfl (fun _ _ _ h => h) (by rfl) ?_ (by assumption) ?_
      rotate_left
      · intro w hSw; (try dsimp only at hSw); go_simp; (try with_reducible rfl)
      (try simp only [Act.put, List.setIfInBounds_toArray, List.set_cons_zero, List.set_cons_succ])
      refine take_on (i := 2) (v := ?_) (some 17) rfl (by kernel_rfl) (by kernel_rfl) (by kernel_rfl) rfl (fun _ _ _ h => h) (by rfl) ?_ (by assumption) ?_
      rotate_left
      · intro w hSw; (try dsimp only at hSw); go_simp; (try with_reducible rfl)
      (try simp only [Act.put, List.setIfInBounds_toArray, List.set_cons_zero, List.set_cons_succ])
      refine take_on (i := 3) (v := ?_) (some 18) rfl (by kernel_rfl) (by kernel_rfl) (by kernel_rfl) rfl (fun _ _ _ h => h) (by rfl) ?_ (by assumption) ?_
      rotate_left
      · intro w hSw; (try dsimp only at hSw); go_simp; (try with_reducible rfl)
      (try simp only [Act.put, List.setIfInBounds_toArray, List.set_cons_zero, List.set_cons_succ])
      refine take_on (i := 4) (v := ?_) (some 19) rfl (by kernel_rfl) (by kernel_rfl) (by kernel_rfl) rfl (fun _ _ _ h => h) (by rfl) ?_ (by assumption) ?_
      rotate_left
      · intro w hSw; (try dsimp only at hSw); go_simp; (try with_reducible rfl)
      (try simp only [Act.put, List.setIfInBounds_toArray, List.set_cons_zero, List.set_cons_succ])
      refine wpAnyH_ready (rs := [0]) (by kernel_rfl) (by simp) ?_
      refine AllReadyH.cons rfl (fun K hK => ?_) AllReadyH.nil
      have cx := rowCells hPr
      go_simp
      clear cx
      refine hK.out _ _ ?_ (fun hHeld => ?_)
      · exact hrc bw_0
      clear hK K
      (try simp only [Act.put, List.setIfInBounds_toArray, List.set_cons_zero, List.set_cons_succ])
      refine wpAnyH_ready (rs := [5]) (by kernel_rfl) (by simp) ?_
      refine AllReadyH.cons rfl (fun K hK => ?_) AllReadyH.nil
      go_simp
      refine hst.mono ?_
      rintro e w_1 ⟨vl4, vs4, vb4, rfl, ho4, hc4, hb_1⟩
      have hPr_1 := keepHeap hb_1 hPr_0
      have bs_1 := bs_0.trans (hb_1.mono bs_0.size)
      have sz_1 := hb_1.size
      have bw_1 := bw_0.trans (hb_1.mono bw_0.size)
      have HC4 := Lib.hid hc4
      have hrd4 := ho4.rd
      obtain ⟨al4, cl4, e0, -⟩ := id hrd4.1
      subst e0
      obtain ⟨aq4, cq4, e0, -⟩ := id hrd4.2.1
      subst e0
      obtain ⟨ab4, cb4, e0, -⟩ := id hrd4.2.2
      subst e0
      clear hrd4 hc4
      unfold wdC
      refine hK.out _ _ ?_ (fun hHeld => ?_)
      · exact hrc bw_1
      clear hK K
      (try simp only [Act.put, List.setIfInBounds_toArray, List.set_cons_zero, List.set_cons_succ])
      refine wpAnyH_ready (rs := [6]) (by kernel_rfl) (by simp) ?_
      refine AllReadyH.cons rfl (fun K hK => ?_) AllReadyH.nil
      have cn := rowCells hPr_1
      have fn := fun j => frozenHeap hPr_1 j
      go_simp
      have bw_2 := putW_below bw_1 (c := p) (by omega) z (.slice al4 z.rows.length cl4) (.slice aq4 z.scores.length cq4) (.slice ab4 z.bods.length cb4)
      unfold putW at bw_2
      refine hK.out _ _ ?_ (fun hHeld => ?_)
      · exact hrc bw_2
      clear hK K
      (try simp only [Act.put, List.setIfInBounds_toArray, List.set_cons_zero, List.set_cons_succ])
      refine wpAnyH_done (by kernel_rfl) ?_ _
      have ho5 : OwnWIn w_1 wr.heap.size w_1.heap.size z (.slice al4 z.rows.length cl4) (.slice aq4 z.scores.length cq4) (.slice ab4 z.bods.length cb4) := ho4
      have hR4 : w_1.heap[w.heap.size + 1]? = some (.cells #[.slice none 0 0, .int .i64 0, .int .i64 0, .slice none 0 0, .slice none 0 0] 30 (0, 0)) := keepHeap hb_1 (keepHeap (belowDrew wr 1) hRr)
      have hsz4 : wr.heap.size ≤ w_1.heap.size := by have := hb_1.size; simpa using this
      clear bw_2 ho4 hb_1
      obtain ⟨W5, e5⟩ : ∃ W, W = putW w_1 p z (.slice al4 z.rows.length cl4) (.slice aq4 z.scores.length cq4) (.slice ab4 z.bods.length cb4) := ⟨_, rfl⟩
      have P5 := putW_heap hPr_1 rfl z (.slice al4 z.rows.length cl4) (.slice aq4 z.scores.length cq4) (.slice ab4 z.bods.length cb4)
      have b5 := putW_below bw_1 (c := p) (by omega) z (.slice al4 z.rows.length cl4) (.slice aq4 z.scores.length cq4) (.slice ab4 z.bods.length cb4)
      have o5 := ((ho5).afar (putW_farB w_1 p z (.slice al4 z.rows.length cl4) (.slice aq4 z.scores.length cq4) (.slice ab4 z.bods.length cb4)) (by omega)).wide (lo' := w.heap.size + 2) (hi' := (putW w_1 p z (.slice al4 z.rows.length cl4) (.slice aq4 z.scores.length cq4) (.slice ab4 z.bods.length cb4)).heap.size) (by omega) (by simp [putW])
      have f5 := putW_farB w_1 p z (.slice al4 z.rows.length cl4) (.slice aq4 z.scores.length cq4) (.slice ab4 z.bods.length cb4)
      have R5 := keepHeapFar f5 hR4 (by omega)
      rw [← e5] at P5 b5 o5 f5 R5
      unfold putW at e5
      try dsimp only at e5
      rw [← e5]
      clear e5
      go_wp2_with (fail)
      go_roundw
      case rel => exact ⟨k + 1, _, _, _, by omega, by go_num, by rw [HN.out]; exact P5, R5, by rw [HN.out]; exact o5, HC4.out, b5⟩
      case measure => simp [intOf]; omega
    · have HE : Hid (runW x R = runW x (R.take k)) := Lib.hid (by rw [List.take_of_length_le (by omega)])
      have hki : ¬ (k : Int) < (R.length : Int) := by omega
      generalize runW x (R.take k) = y at *
      obtain ⟨al2, cl2, e0, -⟩ := id hrdr.1
      subst e0
      obtain ⟨aq2, cq2, e0, -⟩ := id hrdr.2.1
      subst e0
      obtain ⟨ab2, cb2, e0, -⟩ := id hrdr.2.2
      subst e0
      unfold wdC at hAr
      have cAr := rowCells hAr
      have cRr := rowCells hRr
      have fRr := fun j => frozenHeap hRr j
      go_wp2_with (fail)
      have hPP := putW_heap hRr rfl y (.slice al2 y.rows.length cl2) (.slice aq2 y.scores.length cq2) (.slice ab2 y.bods.length cb2)
      have hbP := putW_below hbr (c := w.heap.size + 1) (by omega) y (.slice al2 y.rows.length cl2) (.slice aq2 y.scores.length cq2) (.slice ab2 y.bods.length cb2)
      have hOwn := ((hOr).afar (putW_farB wr (w.heap.size + 1) y (.slice al2 y.rows.length cl2) (.slice aq2 y.scores.length cq2) (.slice ab2 y.bods.length cb2)) (by omega)).wide (lo' := w.heap.size) (hi' := (putW wr (w.heap.size + 1) y (.slice al2 y.rows.length cl2) (.slice aq2 y.scores.length cq2) (.slice ab2 y.bods.length cb2)).heap.size) (by omega) (by simp [putW])
      unfold putW at hPP hbP hOwn
      refine bodyPost_ret (results_cell_row rfl _ _ (w.heap.size + 1) 30 (wdC y (.slice al2 y.rows.length cl2) (.slice aq2 y.scores.length cq2) (.slice ab2 y.bods.length cb2)) (0, 0) ?zd ?zp ?zg ?zu ?zf ?zi) rfl ?_
      case zp => rfl
      case zg => exact hPP
      case zu => exact Tryd.underlying30
      case zf => rfl
      case zi => kernel_rfl
      exact ⟨_, _, _, by first | (rw [HE.out]; done) | (rw [HE.out]; rfl), by rw [HE.out]; exact hOwn, HC.out, hbP⟩
end Go.Proofs.YtdnnejohfhmliaaDoor
