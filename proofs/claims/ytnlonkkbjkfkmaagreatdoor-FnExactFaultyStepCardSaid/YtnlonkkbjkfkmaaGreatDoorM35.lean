/-
  Texts of this proof: TkW6.
-/
import Derived.Test.YtnlonkkbjkfkmaaGreatDoorM30
import Derived.Test.YtnlonkkbjkfkmaaGreatDoorM34
import Derived.Test.YtnlonkkbjkfkmaaGreatDoorM11
import Derived.Test.YtnlonkkbjkfkmaaGreatDoorM25
import Derived.Deep.CutRange
namespace Go.Proofs.YtnlonkkbjkfkmaaGreatDoor
open Go.RowKit
set_option linter.all false
theorem OwnP.at {w : World} {B : Nat} {v : Value} {ps : Pairs} (h : OwnP w B v ps) {i : Nat} (hi : i < ps.length) :
  ∃ (g cap b : Nat) (cur : Array Value), v = .slice (some ⟨g, 0, none⟩) ps.length cap ∧ w.heap[g]? = some (.cells cur 27 (0, 0)) ∧ cur[i]? = some (.slice (some ⟨b, 0, none⟩) 2 2) ∧ w.heap[b]? = some (.cells #[.int .i64 ps[i].1, .int .i64 ps[i].2] 3 (0, 0)) := by
 obtain ⟨bs, ⟨h1, -, -, h4⟩, h5, h6⟩ := h
 rcases h6 with ⟨-, h0⟩ | ⟨g, cap, cur, rfl, hB, hg, hn, hc, hcs, htk⟩
 ·omega
 ·have hib : i < bs.length := by omega
  refine ⟨g, cap, bs[i], cur, rfl, hg, ?_, h4 i hib hi⟩
  have e : (cur.toList.take (ps.length * 1))[i]? = (bs.map innV)[i]? := by rw [htk]
  rw [List.getElem?_take, if_pos (by omega), List.getElem?_map, List.getElem?_eq_getElem hib] at e
  simpa [innV] using e
theorem OwnP.len {w : World} {B : Nat} {v : Value} {ps : Pairs} (h : OwnP w B v ps) : ∃ a cap, v = .slice a ps.length cap := by
 obtain ⟨bs, -, -, h6⟩ := h
 rcases h6 with ⟨rfl, h0⟩ | ⟨g, cap, cur, rfl, -⟩
 ·exact ⟨none, 0, by rw [h0]⟩
 ·exact ⟨_, cap, rfl⟩
def brX (x : Wd) : Wd := ⟨x.rows, x.tick, (bring x.rows x.seed x.bods).1, x.scores, (bring x.rows x.seed x.bods).2⟩
theorem lies_snoc {p : Int × Int} {X : List Bd} {k : Nat} (hk : k < X.length) : lies p (X.take (k + 1)) = (lies p (X.take k) || (decide (X[k].kind = 2) && (decide (X[k].x = p.1) && decide (X[k].y = p.2)))) := by
 unfold lies
 rw [List.take_succ_eq_append_getElem hk, List.any_append]; simp
theorem lies_hit {p : Int × Int} {X : List Bd} {k : Nat} (hk : k < X.length) (h : (decide (X[k].kind = 2) && (decide (X[k].x = p.1) && decide (X[k].y = p.2))) = true) : lies p X = true := by
 unfold lies; rw [List.any_eq_true]; exact ⟨_, List.getElem_mem hk, h⟩
set_option maxRecDepth 100000 in
set_option maxHeartbeats 16000000 in
theorem bringItem_impl {w : World} {T p : Nat} {x : Wd} {vl vs vb : Value} (h : BxW w T p x vl vs vb) (hN24 : x.bods.length < 24) (hN1 : 1 ≤ x.bods.length) (hsd : 0 ≤ x.seed ∧ x.seed ≤ 65535) {B : Nat} {v : Value} (hv : OwnP w B v (spL x.rows 0)) (hsp : (spL x.rows 0).length ≤ 4096) (hg : Good x.rows) :
  Calls Tryz.prog 209 #[.pointer (some ⟨p, 0, none⟩), v] w (RetBx w T p (brX x) vl vs vb) := by
 have hT := Nat.le_of_lt h.low
 obtain ⟨av, cv, e0⟩ := hv.len
 subst e0
 obtain ⟨g, cap, e0, hTg, hgw, hcap⟩ := h.2.2.2.2.shape (by omega)
 subst e0
 by_cases hps : spL x.rows 0 = []
 ·have HX : Hid (x = brX x) := Lib.hid (by unfold brX bring; rw [if_pos hps])
  rw [hps]
  clear hps
  go_enter Tryz.func209, Tryz.ntmps209
  go_wp2_with (fail)
  refine bodyPost_ret (v := .tuple #[]) (by simp [results, Tryz.results209]) rfl ⟨rfl, _, _, bxOf h HX.out, FrW.refl _ _ _ _ _, rfl, OwnTo.refl _ _⟩
 ·have hpl : 0 < (spL x.rows 0).length := List.length_pos_iff.2 hps
  obtain ⟨hr1, hr2, hr3, hr4⟩ := belowR_in (s := x.seed) (n := ((spL x.rows 0).length : Int)) (by omega)
  have hbl := fun W => below_impl x.seed ((spL x.rows 0).length : Int) W
  have HX : Hid (brX x = ⟨x.rows, x.tick, (belowR x.seed (spL x.rows 0).length).1, x.scores, if lies ((spL x.rows 0).getD (belowR x.seed (spL x.rows 0).length).2.toNat (0, 0)) x.bods then x.bods else x.bods ++ [itemB ((spL x.rows 0).getD (belowR x.seed (spL x.rows 0).length).2.toNat (0, 0))]⟩) := Lib.hid (by unfold brX bring; rw [if_neg hps])
  have hmem := spot_pick hps x.seed
  obtain ⟨-, hq1, hq2, hq3, hq4⟩ := spot_free hg hmem
  generalize belowR x.seed ((spL x.rows 0).length : Int) = r at *
  obtain ⟨s2, nb⟩ := r
  dsimp only at hr1 hr2 hr3 hr4 hbl HX hmem hq1 hq2 hq3 hq4
  obtain ⟨i, rfl⟩ := Int.eq_ofNat_of_zero_le hr1
  rw [Int.toNat_natCast] at HX hmem hq1 hq2 hq3 hq4
  have hil : i < (spL x.rows 0).length := by omega
  obtain ⟨gp, cp, bp, cur, e0, hgp, hcur, hbp⟩ := hv.at hil
  obtain ⟨rfl, -, rfl⟩ := Value.slice.inj e0
  have epi : (spL x.rows 0).getD i (0, 0) = (spL x.rows 0)[i] := by rw [List.getD_eq_getElem?_getD, List.getElem?_eq_getElem hil]; rfl
  rw [epi] at HX hq1 hq2 hq3 hq4
  generalize (spL x.rows 0)[i] = pt at *
  obtain ⟨px, py⟩ := pt
  dsimp only at hbp hq1 hq2 hq3 hq4
  obtain ⟨np, hnp⟩ : ∃ np, np = (spL x.rows 0).length := ⟨_, rfl⟩
  rw [← hnp] at hbl hr2 hsp hil ⊢
  have hgpp : p ≠ gp := fun e => by
   have h1 := h.1; rw [e, hgp] at h1
   exact absurd (Obj.cells.inj (Option.some.inj h1)).2.1 (by decide)
  have hbpp : p ≠ bp := fun e => by
   have h1 := h.1; rw [e, hbp] at h1
   exact absurd (Obj.cells.inj (Option.some.inj h1)).2.1 (by decide)
  have hPp := h.1
  unfold wdC at hPp
  have cP := rowCells hPp
  have fP := fun j => frozenHeap hPp j
  have hnpi : (np : Int) ≤ 4096 := by omega
  have hii : (i : Int) < (np : Int) := by omega
  have hz0 : ((np : Int) == 0) = false := by simp; omega
  clear e0 epi hps hnp hmem hv hr1 hpl
  obtain ⟨N, hNN⟩ : ∃ N, N = x.bods.length := ⟨_, rfl⟩
  rw [← hNN] at h hcap hN24 hN1 cP hPp ⊢
  have HNN := Lib.hid hNN
  have hNi : (N : Int) < 24 := by omega
  clear hNN
  go_enter Tryz.func209, Tryz.ntmps209
  go_upto_region 3 with (go_at_call 249; refine (hbl _).mono ?_; rintro e w1 ⟨rfl, k1, hw1⟩; have hb1 : Below w.heap.size w w1 := (by rw [hw1]; exact belowDrew w k1); clear hw1; have hP1 := keepHeap hb1 hPp; have cP1 := rowCells hP1; have fP1 := fun j => frozenHeap hP1 j)
  have hx2 := (h.keep hb1 hT).num (y := ⟨x.rows, x.tick, s2, x.scores, x.bods⟩) 2 (.int .i64 s2) rfl rfl rfl rfl
  have hF2 := (FrW.below (vs := vs) (vb := .slice (some ⟨g, 0, none⟩) N cap) (p := p) hb1 hT).trans (frP (w := w1) h.2.1 vs (.slice (some ⟨g, 0, none⟩) N cap) 2 (.int .i64 s2)) rfl (OwnTo.refl _ _)
  have hG2 := farHeap (p := ⟨p, 2, none⟩) (keepHeap hb1 hgp) (by show gp ≠ p; exact hgpp.symm) (.int .i64 s2)
  have hD2 := farHeap (p := ⟨p, 2, none⟩) (keepHeap hb1 hbp) (by show bp ≠ p; exact hbpp.symm) (.int .i64 s2)
  obtain ⟨w2, hw2⟩ : ∃ w2, w1.setCell ⟨p, 2, none⟩ (.int .i64 s2) = w2 := ⟨_, rfl⟩
  rw [hw2] at hx2 hF2 hG2 hD2 ⊢
  have hT2 := Nat.le_of_lt hx2.low
  clear hw2 cP fP cP1 fP1 hP1 hb1 hPp hgp hbp hbl
  have cG : ∀ {W : World}, W.heap[gp]? = some (.cells cur 27 (0, 0)) → W.cell? ⟨gp, i, none⟩ = some (.slice (some ⟨bp, 0, none⟩) 2 2) := fun hW => by rw [Lib.cell_of_heap hW]; exact hcur
  have bs_0 : Below w2.heap.size w2 w2.drew := belowDrew w2 1
  have hG2_0 : w2.drew.heap[gp]? = _ := hG2
  have hD2_0 : w2.drew.heap[bp]? = _ := hD2
  refine wp_region_held_drew (S := (fun w' => w'.cell? ⟨gp, i, none⟩ = some (.slice (some ⟨bp, 0, none⟩) 2 2) ∧ (∀ j, w'.cell? ⟨bp, j, none⟩ = #[Value.int .i64 px, .int .i64 py][j]?))) (by kernel_rfl) ?_ (fun hHeld => ?_)
  ·exact ⟨cG hG2_0, rowCells hD2_0⟩
  refine tk 0 26 ?_
  (try simp only [zP, zA, zB, zC])
  refine tk 1 27 ?_
  (try simp only [zP, zA, zB, zC])
  refine tk 2 28 ?_
  (try simp only [zP, zA, zB, zC])
  refine tk 3 29 ?_
  (try simp only [zP, zA, zB, zC])
  refine tk 4 30 ?_
  (try simp only [zP, zA, zB, zC])
  refine tk 5 31 ?_
  (try simp only [zP, zA, zB, zC])
  refine tk 6 32 ?_
  (try simp only [zP, zA, zB, zC])
  refine tk 7 33 ?_
  (try simp only [zP, zA, zB, zC])
  refine tk 8 34 ?_
  (try simp only [zP, zA, zB, zC])
  refine tk 9 35 ?_
  (try simp only [zP, zA, zB, zC])
  refine tk 10 36 ?_
  (try simp only [zP, zA, zB, zC])
  refine tk 11 37 ?_
  (try simp only [zP, zA, zB, zC])
  refine tk 12 38 ?_
  (try simp only [zP, zA, zB, zC])
  refine wpAnyH_ready (rs := [13]) (by kernel_rfl) (by simp) ?_
  refine AllReadyH.cons rfl (fun K hK => ?_) AllReadyH.nil
  go_simp
  obtain ⟨w_1, hw_1, P_1, hb_1⟩ : ∃ W, (w2.alloc (.cells #[.int .i64 0, .int .i64 0, .int .i64 0, .int .i64 0, .int .i64 0, .int .i64 0, .int .i64 0, .int .i64 0, .int .i64 0] 100)).drew = W ∧ W.heap[w2.heap.size]? = some (.cells #[.int .i64 0, .int .i64 0, .int .i64 0, .int .i64 0, .int .i64 0, .int .i64 0, .int .i64 0, .int .i64 0, .int .i64 0] 100 (0, 0)) ∧ Below w2.drew.heap.size w2.drew W := ⟨_, rfl, heap_alloc_new w2.drew _, below1 w2.drew _⟩
  try rw [hw_1]
  clear hw_1
  have hp_1 := bs_0.size
  have hG2_1 := keepHeap hb_1 hG2_0
  have hD2_1 := keepHeap hb_1 hD2_0
  have bs_1 := bs_0.trans (hb_1.mono bs_0.size)
  have sz_1 := hb_1.size
  refine hK.out _ _ ?_ (fun hHeld => ?_)
  ·exact ⟨cG hG2_1, rowCells hD2_1⟩
  clear hK K
  (try simp only [zP, zA, zB, zC])
  refine wpAnyH_ready (rs := [14]) (by kernel_rfl) (by simp) ?_
  refine AllReadyH.cons rfl (fun K hK => ?_) AllReadyH.nil
  have cn := rowCells P_1
  have fn := fun j => frozenHeap P_1 j
  go_simp
  have P_2 := putB_heapT P_1 rfl ⟨2, 0, px, py, 0, 0, 0, 0, 0⟩ (px) (py) (0) (0)
  have hpp : w2.heap.size ≤ w2.heap.size := by have := hp_1; first | omega | (simp at this ⊢; omega) | (simp at this ⊢)
  have bs_2 := putB_below bs_1 (c := w2.heap.size) hpp ⟨2, 0, px, py, 0, 0, 0, 0, 0⟩ (px) (py) (0) (0)
  have hG2_2 := putB_far hG2_1 (c := w2.heap.size) (by have := (Array.getElem?_eq_some_iff.1 hG2).1; omega) ⟨2, 0, px, py, 0, 0, 0, 0, 0⟩ (px) (py) (0) (0)
  have hD2_2 := putB_far hD2_1 (c := w2.heap.size) (by have := (Array.getElem?_eq_some_iff.1 hD2).1; omega) ⟨2, 0, px, py, 0, 0, 0, 0, 0⟩ (px) (py) (0) (0)
  obtain ⟨w_2, hw_2⟩ : ∃ W, putB w_1 (w2.heap.size) ⟨2, 0, px, py, 0, 0, 0, 0, 0⟩ (px) (py) (0) (0) = W := ⟨_, rfl⟩
  rw [hw_2] at P_2 bs_2 hG2_2 hD2_2
  unfold putB at hw_2
  dsimp only at hw_2
  unfold bmv at P_2
  dsimp only at P_2
  try rw [hw_2]
  clear hw_2 cn fn
  refine hK.out _ _ ?_ (fun hHeld => ?_)
  ·exact ⟨cG hG2_2, rowCells hD2_2⟩
  clear hK K
  (try simp only [zP, zA, zB, zC])
  refine wpAnyH_done (by kernel_rfl) ?_ _
  have hb4 := bs_2
  have hQ4 := P_2
  obtain ⟨w4, ew⟩ : ∃ w4, w4 = w_2 := ⟨_, rfl⟩
  subst ew
  have hx4 := hx2.keep hb4 hT2
  have hF4 := hF2.trans (FrW.below hb4 hT2) rfl (OwnTo.refl _ _)
  have hT4 := Nat.le_of_lt hx4.low
  obtain ⟨q, hqq⟩ : ∃ q, q = w2.heap.size := ⟨_, rfl⟩
  rw [← hqq] at hQ4
  have hpq : p ≠ q := by have := hx2.lt; omega
  have hgq : g ≠ q := by have := (World.ownsRow.lt hx2.2.2.2.2 g rfl).2; omega
  have hql := (Array.getElem?_eq_some_iff.1 hQ4).1
  rw [← hqq]
  clear hG2_0 hG2_1 hG2_2 hD2_0 hD2_1 hD2_2 P_1 P_2 bs_0 bs_1 bs_2 hG2 hD2 cG hqq hF2 hx2 hb4 hp_1 sz_1 hpp
  have hP4 := hx4.1
  unfold wdC at hP4
  dsimp only at hP4
  have cP4 := rowCells hP4
  have HF4 := Lib.hid hF4
  have HX4 := Lib.hid hx4
  clear hF4 hx4
  go_wp2_with (fail)
  go_loopw [44] (fun i wr => ∃ k : Nat, k ≤ N ∧ i = .int .i64 (k : Int) ∧ lies (px, py) (x.bods.take k) = false ∧ Below w4.heap.size w4 wr) (fun i _ => N - (intOf i).toNat)
  case atStart => exact ⟨0, Nat.zero_le _, rfl, rfl, Below.refl _ _⟩
  case round =>
   obtain ⟨k, hk, rfl, hnh, hbel⟩ := hrel
   have hPr := keepHeap hbel hP4
   have hQr := keepHeap hbel hQ4
   have hxr := HX4.out.keep hbel hT4
   by_cases hkN : k < N
   ·have hkx : k < x.bods.length := by rw [← HNN.out]; exact hkN
    have hc0 := (hxr.2.2.2.2.body hkx).1
    have hc0 : wr.rangeAt g (k * 9) (bdL x.bods[k]) := hc0
    have HN : Hid ((decide (x.bods[k].kind = 2) && (decide (x.bods[k].x = px) && decide (x.bods[k].y = py))) = false → lies (px, py) (x.bods.take (k + 1)) = false) := Lib.hid (fun e => by rw [lies_snoc hkx, hnh, e]; rfl)
    have HH : Hid ((decide (x.bods[k].kind = 2) && (decide (x.bods[k].x = px) && decide (x.bods[k].y = py))) = true → lies (px, py) x.bods = true) := Lib.hid (fun e => lies_hit hkx e)
    generalize x.bods[k] = c at *
    obtain ⟨d0, d1, d2, d3, d4, d5, d6, d7, d8⟩ := cells9 hc0
    have hki : (k : Int) < (N : Int) := by omega
    have hba := below1 wr (.cells #[.int .i64 c.kind, .int .i64 c.owner, .int .i64 c.x, .int .i64 c.y, .int .i64 c.vx, .int .i64 c.vy, .int .i64 c.aim, .int .i64 c.life, .int .i64 c.timer] 100)
    have cQ := rowCells (keepHeap hba hQr)
    have hbn := hbel.trans (hba.mono hbel.size)
    have HFr := Lib.hid (HF4.out.trans (FrW.below hbn hT4) rfl (OwnTo.refl _ _))
    have HXr := Lib.hid (HX4.out.keep hbn hT4)
    clear hc0 hnh hxr hPr hQr
    by_cases h1 : c.kind = 2
    ·have z1 : ((c.kind : Int) == 2) = true := by simpa using h1
     by_cases h2 : c.x = px
     ·have z2 : ((c.x : Int) == px) = true := by simpa using h2
      by_cases h3 : c.y = py
      ·have z3 : ((c.y : Int) == py) = true := by simpa using h3
       have HE := Lib.hid (HH.out (by simp [h1, h2, h3]))
       clear h1 h2 h3 HN HH
       go_wp2_with (fail)
       refine bodyPost_ret (v := .tuple #[]) (by simp [results, Tryz.results209]) rfl ⟨rfl, _, _, bxOf HXr.out ?_, HFr.out, rfl, OwnTo.refl _ _⟩
       rw [HX.out, HE.out]; rfl
      ·have z3 : ((c.y : Int) == py) = false := by simpa using h3
       have HE := Lib.hid (HN.out (by simp [h1, h2, h3]))
       clear h1 h2 h3 HN HH
       go_wp2_with (fail)
       go_roundw
       case rel => exact ⟨k + 1, by omega, by go_num, HE.out, hbn⟩
       case measure => simp [intOf]; omega
     ·have z2 : ((c.x : Int) == px) = false := by simpa using h2
      have HE := Lib.hid (HN.out (by simp [h1, h2]))
      clear h1 h2 HN HH
      go_wp2_with (fail)
      go_roundw
      case rel => exact ⟨k + 1, by omega, by go_num, HE.out, hbn⟩
      case measure => simp [intOf]; omega
    ·have z1 : ((c.kind : Int) == 2) = false := by simpa using h1
     have HE := Lib.hid (HN.out (by simp [h1]))
     clear h1 HN HH
     go_wp2_with (fail)
     go_roundw
     case rel => exact ⟨k + 1, by omega, by go_num, HE.out, hbn⟩
     case measure => simp [intOf]; omega
   ·have hkN' : k = N := by omega
    have HE : Hid (lies (px, py) x.bods = false) := Lib.hid (by rw [hkN', HNN.out, List.take_length] at hnh; exact hnh)
    have hnl : ¬ (k : Int) < (N : Int) := by omega
    clear hnh hkN'
    go_upto_region 9 with (fail)
    obtain ⟨w7, ew⟩ : ∃ w7, w7 = wr := ⟨_, rfl⟩
    subst ew
    have h7 := hxr
    have hP7 := hPr
    have hQ7 := hQr
    have hsz7 := hbel.size
    obtain ⟨X1, hX1⟩ : ∃ X1, X1 = x.bods ++ [itemB (px, py)] := ⟨_, rfl⟩
    have HX1b := Lib.hid hX1
    clear hX1
    have ho_0 : OwnRB w7.drew T (.slice (some ⟨g, 0, none⟩) N cap) x.bods := h7.2.2.2.2
    have bs_0 : Below w7.heap.size w7 w7.drew := belowDrew w7 1
    have hQ7_0 : w7.drew.heap[q]? = _ := hQ7
    have hP7_0 : w7.drew.heap[p]? = _ := hP7
    refine wp_region_held_drew (S := (fun w' => ∀ j, w'.cell? ⟨q, j, none⟩ = #[Value.int .i64 2, .int .i64 0, .int .i64 px, .int .i64 py, .int .i64 0, .int .i64 0, .int .i64 0, .int .i64 0, .int .i64 0][j]?)) (by kernel_rfl) ?_ (fun hHeld => ?_)
    ·exact rowCells hQ7_0
    refine tk 0 66 ?_
    (try simp only [zP, zA, zB, zC])
    refine tk 1 67 ?_
    (try simp only [zP, zA, zB, zC])
    refine tk 2 68 ?_
    (try simp only [zP, zA, zB, zC])
    refine tk 3 69 ?_
    (try simp only [zP, zA, zB, zC])
    refine tk 5 71 ?_
    (try simp only [zP, zA, zB, zC])
    refine wpAnyH_ready (rs := [4, 6]) (by kernel_rfl) (by simp) ?_
    refine AllReadyH.cons rfl (fun K hK => ?_) (AllReadyH.cons rfl (fun K hK => ?_) AllReadyH.nil)
    ·have cx := rowCells hP7
     go_simp
     clear cx
     refine hK.out _ _ ?_ (fun hHeld => ?_)
     ·exact rowCells hQ7_0
     clear hK K
     (try simp only [zP, zA, zB, zC])
     refine wpAnyH_ready (rs := [6]) (by kernel_rfl) (by simp) ?_
     refine AllReadyH.cons rfl (fun K hK => ?_) AllReadyH.nil
     go_simp
     have hrg : ((w7.alloc (.cells #[Value.int .i64 2, .int .i64 0, .int .i64 px, .int .i64 py, .int .i64 0, .int .i64 0, .int .i64 0, .int .i64 0, .int .i64 0] 100)).drew).rangeAt w7.heap.size 0 (bdL (itemB (px, py))) := range_mk w7 (itemB (px, py)) 100
     obtain ⟨w_1, hw_1, P_1, hb_1⟩ : ∃ W, (w7.alloc (.cells #[Value.int .i64 2, .int .i64 0, .int .i64 px, .int .i64 py, .int .i64 0, .int .i64 0, .int .i64 0, .int .i64 0, .int .i64 0] 100)).drew = W ∧ W.heap[w7.heap.size]? = some (.cells #[Value.int .i64 2, .int .i64 0, .int .i64 px, .int .i64 py, .int .i64 0, .int .i64 0, .int .i64 0, .int .i64 0, .int .i64 0] 100 (0, 0)) ∧ Below w7.drew.heap.size w7.drew W := ⟨_, rfl, heap_alloc_new w7.drew _, below1 w7.drew _⟩
     rw [hw_1] at hrg
     try rw [hw_1]
     clear hw_1
     have hp_1 := bs_0.size
     have hQ7_1 := keepHeap hb_1 hQ7_0
     have hP7_1 := keepHeap hb_1 hP7_0
     have bs_1 := bs_0.trans (hb_1.mono bs_0.size)
     have sz_1 := hb_1.size
     have ho_1 := ho_0.keep hb_1 (Nat.le_refl _)
     refine hK.out _ _ ?_ (fun hHeld => ?_)
     ·exact rowCells hQ7_1
     clear hK K
     (try simp only [zP, zA, zB, zC])
     refine wpAnyH_ready (rs := [7]) (by kernel_rfl) (by simp) ?_
     refine AllReadyH.cons rfl (fun K hK => ?_) AllReadyH.nil
     refine step_bodyT rfl (.tmp 70) (.tmp 72) rfl T _ x.bods rfl ho_1 (w7.heap.size) (itemB (px, py)) rfl hrg (by have := HNN.out; omega) (by omega) ?_
     intro v5 w_2 ho_2 hb_2 hg_2 hto
     rw [← HX1b.out] at ho_2
     obtain ⟨a5, c5, rfl, -⟩ := id ho_2.own
     have hPU := bx_push h7 bs_1 hb_2 hg_2 ho_2 hto
     have hQ7_2 := (hPU.2.2.2 _ (by omega) hgq.symm).trans hQ7
     have hP7_2 := (hPU.2.2.2 _ h7.lt (fun e => h7.notP.2 (by rw [e]; rfl))).trans hP7
     refine hK.out _ _ ?_ (fun hHeld => ?_)
     ·exact rowCells hQ7_2
     clear hK K
     (try simp only [zP, zA, zB, zC])
     refine tk 8 74 ?_
     (try simp only [zP, zA, zB, zC])
     refine tk 9 75 ?_
     (try simp only [zP, zA, zB, zC])
     refine wpAnyH_ready (rs := [10]) (by kernel_rfl) (by simp) ?_
     refine AllReadyH.cons rfl (fun K hK => ?_) AllReadyH.nil
     have cn := rowCells hP7_2
     have fn := fun j => frozenHeap hP7_2 j
     go_simp
     have hQ7_3 := farHeap (p := ⟨p, 4, none⟩) hQ7_2 (fun e => hpq e.symm) (.slice a5 X1.length c5)
     refine hK.out _ _ ?_ (fun hHeld => ?_)
     ·exact rowCells hQ7_3
     clear hK K
     (try simp only [zP, zA, zB, zC])
     refine wpAnyH_done (by kernel_rfl) ?_ _
     go_wp2_with (fail)
     refine bodyPost_ret (v := .tuple #[]) (by simp [results, Tryz.results209]) rfl ⟨rfl, _, _, bxOf hPU.1 ?_, (HF4.out.trans (FrW.below hbel hT4) rfl (OwnTo.refl _ _)).trans hPU.2.1 rfl (OwnTo.refl _ _), rfl, (OwnTo.refl _ _).trans hPU.2.2.1 (by have := HF4.out.size; omega)⟩
     rw [HX.out, HE.out, HX1b.out]; rfl
    ·go_simp
     have hrg : ((w7.alloc (.cells #[Value.int .i64 2, .int .i64 0, .int .i64 px, .int .i64 py, .int .i64 0, .int .i64 0, .int .i64 0, .int .i64 0, .int .i64 0] 100)).drew).rangeAt w7.heap.size 0 (bdL (itemB (px, py))) := range_mk w7 (itemB (px, py)) 100
     obtain ⟨w_1, hw_1, P_1, hb_1⟩ : ∃ W, (w7.alloc (.cells #[Value.int .i64 2, .int .i64 0, .int .i64 px, .int .i64 py, .int .i64 0, .int .i64 0, .int .i64 0, .int .i64 0, .int .i64 0] 100)).drew = W ∧ W.heap[w7.heap.size]? = some (.cells #[Value.int .i64 2, .int .i64 0, .int .i64 px, .int .i64 py, .int .i64 0, .int .i64 0, .int .i64 0, .int .i64 0, .int .i64 0] 100 (0, 0)) ∧ Below w7.drew.heap.size w7.drew W := ⟨_, rfl, heap_alloc_new w7.drew _, below1 w7.drew _⟩
     rw [hw_1] at hrg
     try rw [hw_1]
     clear hw_1
     have hp_1 := bs_0.size
     have hQ7_1 := keepHeap hb_1 hQ7_0
     have hP7_1 := keepHeap hb_1 hP7_0
     have bs_1 := bs_0.trans (hb_1.mono bs_0.size)
     have sz_1 := hb_1.size
     have ho_1 := ho_0.keep hb_1 (Nat.le_refl _)
     refine hK.out _ _ ?_ (fun hHeld => ?_)
     ·exact rowCells hQ7_1
     clear hK K
     (try simp only [zP, zA, zB, zC])
     refine wpAnyH_ready (rs := [4]) (by kernel_rfl) (by simp) ?_
     refine AllReadyH.cons rfl (fun K hK => ?_) AllReadyH.nil
     have cx := rowCells hP7_1
     go_simp
     clear cx
     refine hK.out _ _ ?_ (fun hHeld => ?_)
     ·exact rowCells hQ7_1
     clear hK K
     (try simp only [zP, zA, zB, zC])
     refine wpAnyH_ready (rs := [7]) (by kernel_rfl) (by simp) ?_
     refine AllReadyH.cons rfl (fun K hK => ?_) AllReadyH.nil
     refine step_bodyT rfl (.tmp 70) (.tmp 72) rfl T _ x.bods rfl ho_1 (w7.heap.size) (itemB (px, py)) rfl hrg (by have := HNN.out; omega) (by omega) ?_
     intro v5 w_2 ho_2 hb_2 hg_2 hto
     rw [← HX1b.out] at ho_2
     obtain ⟨a5, c5, rfl, -⟩ := id ho_2.own
     have hPU := bx_push h7 bs_1 hb_2 hg_2 ho_2 hto
     have hQ7_2 := (hPU.2.2.2 _ (by omega) hgq.symm).trans hQ7
     have hP7_2 := (hPU.2.2.2 _ h7.lt (fun e => h7.notP.2 (by rw [e]; rfl))).trans hP7
     refine hK.out _ _ ?_ (fun hHeld => ?_)
     ·exact rowCells hQ7_2
     clear hK K
     (try simp only [zP, zA, zB, zC])
     refine tk 8 74 ?_
     (try simp only [zP, zA, zB, zC])
     refine tk 9 75 ?_
     (try simp only [zP, zA, zB, zC])
     refine wpAnyH_ready (rs := [10]) (by kernel_rfl) (by simp) ?_
     refine AllReadyH.cons rfl (fun K hK => ?_) AllReadyH.nil
     have cn := rowCells hP7_2
     have fn := fun j => frozenHeap hP7_2 j
     go_simp
     have hQ7_3 := farHeap (p := ⟨p, 4, none⟩) hQ7_2 (fun e => hpq e.symm) (.slice a5 X1.length c5)
     refine hK.out _ _ ?_ (fun hHeld => ?_)
     ·exact rowCells hQ7_3
     clear hK K
     (try simp only [zP, zA, zB, zC])
     refine wpAnyH_done (by kernel_rfl) ?_ _
     go_wp2_with (fail)
     refine bodyPost_ret (v := .tuple #[]) (by simp [results, Tryz.results209]) rfl ⟨rfl, _, _, bxOf hPU.1 ?_, (HF4.out.trans (FrW.below hbel hT4) rfl (OwnTo.refl _ _)).trans hPU.2.1 rfl (OwnTo.refl _ _), rfl, (OwnTo.refl _ _).trans hPU.2.2.1 (by have := HF4.out.size; omega)⟩
     rw [HX.out, HE.out, HX1b.out]; rfl
theorem spR_le (r : Nat) : ∀ (l : List UInt8) (c : Nat), (spR r l c).length ≤ l.length
 | [], _ => Nat.le_refl _
 | ch :: l, c => by
  have := spR_le r l (c + 1)
  rw [spR]
  split
  ·simp; omega
  ·simp; omega
theorem spL_le : ∀ (L : Rowz) (r : Nat), (∀ row ∈ L, row.length ≤ 20) → (spL L r).length ≤ 20 * L.length
 | [], _, _ => Nat.le_refl _
 | row :: L, r, h => by
  have h1 := spR_le r row 0
  have h2 := spL_le L (r + 1) (fun x hx => h x (by simp [hx]))
  have h3 := h row (by simp)
  rw [spL, List.length_append, List.length_cons]
  omega
theorem spL_good {L : Rowz} (hg : Good L) : (spL L 0).length ≤ 240 := by
 obtain ⟨-, h12, -, h20, hr⟩ := id hg
 have := spL_le L 0 (fun row hrow => by rw [hr row hrow]; exact h20)
 omega
set_option maxRecDepth 100000 in
set_option maxHeartbeats 16000000 in
theorem passTime_impl {w : World} {T p : Nat} {x : Wd} {vl vs vb : Value} (h : BxW w T p x vl vs vb) (hf : FineX x) (ht : 0 ≤ x.tick ∧ x.tick < 100000) (hsd : 0 ≤ x.seed ∧ x.seed ≤ 65535) :
  Calls Tryz.prog 144 #[.pointer (some ⟨p, 0, none⟩)] w (RetBx w T p (timeX x) vl vs vb) := by
 obtain ⟨hL, hn, -, hFi⟩ := hf
 have hg := levelB_facts hL
 obtain ⟨g, cap, e0, hTg, hgw, hcap⟩ := h.2.2.2.2.shape (by have := hFi.1; omega)
 subst e0
 obtain ⟨al, cl, e0, -⟩ := id h.rd.1
 subst e0
 have hT := Nat.le_of_lt h.low
 have hN1 : 1 ≤ x.bods.length := by have := hFi.1; omega
 have hN24 := hFi.2.1
 have hsp := spL_good hg
 have hnr := nextR_bd x.seed
 have hnx := fun W => next_impl x.seed W
 obtain ⟨ht0, ht1⟩ := ht
 have hPp := h.1
 unfold wdC at hPp
 have cP := rowCells hPp
 have fP := fun j => frozenHeap hPp j
 have HTM : Hid (timeX x = if (x.tick + 1) % 16 = 0 ∧ x.bods.length < 24 then brX ⟨x.rows, x.tick + 1, nextR x.seed, x.scores, x.bods⟩ else ⟨x.rows, x.tick + 1, nextR x.seed, x.scores, x.bods⟩) := Lib.hid rfl
 have h1 := h.num (y := ⟨x.rows, x.tick + 1, x.seed, x.scores, x.bods⟩) 1 (.int .i64 (x.tick + 1)) rfl rfl rfl rfl
 have h2 := h1.num (y := ⟨x.rows, x.tick + 1, nextR x.seed, x.scores, x.bods⟩) 2 (.int .i64 (nextR x.seed)) rfl rfl rfl rfl
 have hF2 := (frP (w := w) h.2.1 vs (.slice (some ⟨g, 0, none⟩) x.bods.length cap) 1 (.int .i64 (x.tick + 1))).trans (frP (w := w.setCell ⟨p, 1, none⟩ (.int .i64 (x.tick + 1))) h.2.1 vs (.slice (some ⟨g, 0, none⟩) x.bods.length cap) 2 (.int .i64 (nextR x.seed))) rfl (OwnTo.refl _ _)
 obtain ⟨s1, hs1⟩ : ∃ s1, s1 = nextR x.seed := ⟨_, rfl⟩
 rw [← hs1] at h2 hF2 HTM hnr
 simp only [← hs1] at hnx
 obtain ⟨t1, ht⟩ : ∃ t1, t1 = x.tick + 1 := ⟨_, rfl⟩
 have ht2 : 1 ≤ t1 ∧ t1 ≤ 100000 := by omega
 obtain ⟨ht3, ht4⟩ := ht2
 clear hs1
 go_enter Tryz.func144, Tryz.ntmps144
 clear ht
 go_upto_region 2 with (go_at_call 208; refine (hnx _).mono ?_; rintro e w1 ⟨rfl, rfl⟩)
 obtain ⟨w2, hw2⟩ : ∃ w2, (w.setCell ⟨p, 1, none⟩ (.int .i64 (x.tick + 1))).setCell ⟨p, 2, none⟩ (.int .i64 s1) = w2 := ⟨_, rfl⟩
 rw [hw2] at h2 hF2 ⊢
 clear hw2 cP fP hPp h1
 have hP2 := h2.1
 unfold wdC at hP2
 dsimp only at hP2
 have cP := rowCells hP2
 have hT2 := Nat.le_of_lt h2.low
 have hlv := h2.rd.1
 have hbi := fun {W : World} (hb : Below w2.heap.size w2 W) {B : Nat} {v : Value} (hv : OwnP W B v (spL x.rows 0)) (h24 : x.bods.length < 24) => bringItem_impl (h2.keep hb hT2) h24 hN1 hnr hv (by show (spL x.rows 0).length ≤ 4096; omega) hg
 have hlv : RdS w2 (.slice al x.rows.length cl) x.rows := hlv
 have HH2 := Lib.hid h2
 obtain ⟨N, hNN⟩ : ∃ N, N = x.bods.length := ⟨_, rfl⟩
 rw [← hNN] at hN24 cP
 have hNi : (N : Int) ≤ 24 := by omega
 have HNN := Lib.hid hNN
 clear h2 hNN hP2
 have hpos : 0 ≤ x.tick + 1 := by omega
 by_cases h16 : (x.tick + 1) % 16 = 0
 ·have z1 : (((x.tick + 1) % 16 : Int) == 0) = true := by simpa using h16
  by_cases h24 : N < 24
  ·have z2 : decide ((N : Int) < 24) = true := by simp; omega
   have HE : Hid (timeX x = brX ⟨x.rows, x.tick + 1, s1, x.scores, x.bods⟩) := Lib.hid (by rw [HTM.out, if_pos ⟨h16, by rw [← HNN.out]; exact h24⟩])
   have h24' : x.bods.length < 24 := by rw [← HNN.out]; exact h24
   clear h16 h24
   go_upto_region 3 with (fail)
   go_wp2_with (first | (go_at_call 210; refine (spotsIn_impl hlv hg).mono ?_; rintro e w3 ⟨v3, rfl, hv3, hb3⟩; obtain ⟨a3, c3, rfl⟩ := hv3.len) | (go_at_call 209; refine (hbi hb3 hv3 h24').mono ?_; rintro e w4 ⟨rfl, vs', vb', h4, hF4, hs4, ho4⟩))
   refine bodyPost_ret (v := .tuple #[]) (by simp [results, Tryz.results144]) rfl ⟨rfl, vs', vb', bxOf h4 ?_, (hF2.trans (FrW.below hb3 hT2) rfl (OwnTo.refl _ _)).trans hF4 rfl (OwnTo.refl _ _), hs4, (OwnTo.refl _ _).trans ho4 (by have := hF2.size; have := hb3.size; omega)⟩
   rw [HE.out]
  ·have z2 : decide ((N : Int) < 24) = false := by simp; omega
   have HE : Hid (timeX x = ⟨x.rows, x.tick + 1, s1, x.scores, x.bods⟩) := Lib.hid (by rw [HTM.out, if_neg (fun e => h24 (by rw [HNN.out]; exact e.2))])
   clear h16 h24
   go_wp2_with (fail)
   refine bodyPost_ret (v := .tuple #[]) (by simp [results, Tryz.results144]) rfl ⟨rfl, _, _, bxOf HH2.out HE.out.symm, hF2, rfl, OwnTo.refl _ _⟩
 ·have z1 : (((x.tick + 1) % 16 : Int) == 0) = false := by simpa using h16
  have HE : Hid (timeX x = ⟨x.rows, x.tick + 1, s1, x.scores, x.bods⟩) := Lib.hid (by rw [HTM.out, if_neg (fun e => h16 e.1)])
  clear h16
  go_wp2_with (fail)
  refine bodyPost_ret (v := .tuple #[]) (by simp [results, Tryz.results144]) rfl ⟨rfl, _, _, bxOf HH2.out HE.out.symm, hF2, rfl, OwnTo.refl _ _⟩
end Go.Proofs.YtnlonkkbjkfkmaaGreatDoor
