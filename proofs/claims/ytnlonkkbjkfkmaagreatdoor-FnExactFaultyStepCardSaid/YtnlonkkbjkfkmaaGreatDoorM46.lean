/-
  Texts of this proof: TkS5.
-/
import Derived.Test.YtnlonkkbjkfkmaaGreatDoorM33
import Derived.Test.YtnlonkkbjkfkmaaGreatDoorM35
import Derived.Test.YtnlonkkbjkfkmaaGreatDoorM43
import Derived.Test.YtnlonkkbjkfkmaaGreatDoorM44
import Derived.Test.YtnlonkkbjkfkmaaGreatDoorM45
import Derived.Test.YtnlonkkbjkfkmaaGreatDoorM39
namespace Go.Proofs.YtnlonkkbjkfkmaaGreatDoor
open Go.RowKit
set_option linter.all false
theorem lies_players {p : Int × Int} {X : List Bd} {n : Nat} (h : ∀ k (hk : k < X.length), k < n → X[k].kind = 0) : lies p (X.take n) = false := by
 unfold lies
 rw [List.any_eq_false]
 intro b hb
 obtain ⟨k, hk, rfl⟩ := List.mem_iff_getElem.1 hb
 rw [List.length_take] at hk
 rw [List.getElem_take, h k (by omega) (by omega)]
 simp
set_option maxRecDepth 100000 in
set_option maxHeartbeats 16000000 in
theorem l02Step_spec {w : World} {T p : Nat} {x : Wd} {vl vs vb : Value} (h : BxW w T p x vl vs vb) (hf : FineX x) {vr : Value} {row : List Int} (hrow : ∀ {W : World}, Below T w W → RdI W vr row) (hrl : row.length = x.scores.length) (hri : ∀ k (hk : k < row.length), 0 ≤ row[k] ∧ row[k] ≤ 15) (htk : 0 ≤ x.tick ∧ x.tick < 100000) (hsd : 0 ≤ x.seed ∧ x.seed ≤ 65535) (hsn : Sane x.rows) :
  Calls Tryz.prog 161 #[.pointer (some ⟨p, 0, none⟩), vr] w (RetBx w T p (stepV x row) vl vs vb) := by
 have HFX := Lib.hid hf
 obtain ⟨hL, hn, hSc, hFi⟩ := hf
 have hg := levelB_facts hL
 have hT := Nat.le_of_lt h.low
 obtain ⟨al, cl, e0, -⟩ := id h.rd.1
 subst e0
 obtain ⟨aq, cq, e0, -⟩ := id h.rd.2.1
 subst e0
 obtain ⟨ar, cr, e0, -⟩ := id (hrow (Below.refl T w))
 subst e0
 obtain ⟨n, hnn⟩ : ∃ n, n = x.scores.length := ⟨_, rfl⟩
 rw [← hnn] at hn hFi hSc hrl
 have HRL := Lib.hid hrl
 have HNN := Lib.hid hnn
 have HST : Hid (stX x row n = steerX x row) := Lib.hid (by rw [hnn]; rfl)
 have HR0 : Hid (StR w T p x row (.slice al x.rows.length cl) (.slice aq x.scores.length cq) vb 0 w) := Lib.hid ⟨vb, h, FrW.refl _ _ _ _ _, OwnTo.refl _ _⟩
 have hHP := h.1
 unfold wdC at hHP
 rw [← hnn] at hHP
 have cHP := rowCells hHP
 rw [hrl] at hrow ⊢
 have hni : (n : Int) ≤ 4 := by omega
 have HSN := Lib.hid hsn
 have HTK := Lib.hid htk
 have HSD := Lib.hid hsd
 clear hnn hrl hHP h hsn htk hsd
 go_enter Tryz.func161, Tryz.ntmps161
 go_wp2_with (fail)
 clear cHP
 go_loopw [5] (fun i wr => ∃ k : Nat, k ≤ n ∧ i = .int .i64 (k : Int) ∧ StR w T p x row (.slice al x.rows.length cl) (.slice aq x.scores.length cq) vb k wr) (fun i _ => n - (intOf i).toNat)
 case atStart => exact ⟨0, Nat.zero_le _, rfl, HR0.out⟩
 case round =>
  obtain ⟨k, hk, rfl, hR⟩ := hrel
  have HR := Lib.hid hR
  obtain ⟨vb', hBr, hFr, hOr⟩ := hR
  by_cases hkn : k < n
  ·have hkx : k < x.bods.length := by have := hFi.1; omega
   obtain ⟨hF1, hF2, hF3⟩ := stN_all hg hL hFi row k hk
   have hF1' := hF1.2.1
   obtain ⟨g, cap, e0, hTg, hgw, hcap⟩ := hBr.2.2.2.2.shape (by show 0 < (stN x.rows row x.bods k).length; omega)
   subst e0
   have hX : Hid (stN x.rows row x.bods (k + 1) = st1 x.rows (row.getD k 0) k x.bods[k] (stN x.rows row x.bods k)) := Lib.hid (by rw [stN, getD_at hkx])
   obtain ⟨X, hXX⟩ : ∃ X, X = stN x.rows row x.bods k := ⟨_, rfl⟩
   have hBr : BxW wr T p ⟨x.rows, x.tick, x.seed, x.scores, X⟩ (.slice al x.rows.length cl) (.slice aq x.scores.length cq) (.slice (some ⟨g, 0, none⟩) X.length cap) := by rw [hXX]; exact hBr
   have hcap : (stN x.rows row x.bods k).length ≤ cap := hcap
   rw [← hXX] at hF1 hF2 hF3 hX hcap hF1'
   have hXk : k < X.length := by omega
   have hXe : X[k] = x.bods[k] := by
    have := hF3 k (Nat.le_refl _) hkx
    rw [List.getElem?_eq_getElem hXk, List.getElem?_eq_getElem hkx, Option.some.injEq] at this
    exact this
   have hOr' : OwnTo w.heap.size vb (.slice (some ⟨g, 0, none⟩) X.length cap) := by rw [hXX]; exact hOr
   have hrr := hrow hFr.1
   obtain ⟨i, hi⟩ : ∃ i, i = row.getD k 0 := ⟨_, rfl⟩
   have hrk : k < row.length := by rw [HRL.out]; exact hkn
   have hie : i = row[k] := by rw [hi, List.getD_eq_getElem?_getD, List.getElem?_eq_getElem hrk]; rfl
   have hir : 0 ≤ i ∧ i ≤ 15 := by rw [hie]; exact hri k hrk
   obtain ⟨br, or, er, hcr⟩ : ∃ br or, ar = some ⟨br, or, none⟩ ∧ wr.cell? ⟨br, or + k, none⟩ = some (.int .i64 i) := by
    obtain ⟨a2, c2, e2, h2⟩ := hrr
    rcases h2 with h2 | ⟨b2, o2, ha2, hc2⟩
    ·rw [h2] at hrk; simp at hrk
    ·simp only [Value.slice.injEq] at e2
     refine ⟨b2, o2, by rw [e2.1, ha2], ?_⟩
     rw [hie]; exact hc2 k hrk
   subst er
   have hrc : ∀ {W : World}, Below wr.heap.size wr W → W.cell? ⟨br, or + k, none⟩ = some (.int .i64 i) := fun {W} hb => by
    rw [hb.cell (World.block_lt_of_cell? _ _ hcr)]; exact hcr
   obtain ⟨hfit, hfk, hfo⟩ := hFi.2.2 k hkx
   have hkd := hfk.2 hkn
   have how := hfo hkn
   obtain ⟨cur, hG, rG⟩ := hBr.2.2.2.2.heapAt hXk
   have rG : ∀ {W : World}, W.heap[g]? = some (.cells cur 100 (0, 0)) → W.rangeAt g (k * 9) (bdL X[k]) := fun hW => (rG hW).1
   obtain ⟨hb0, ht0⟩ := hBr.2.2.2.2.body hXk
   rw [hXe] at hb0 rG
   rw [← hi] at hX
   generalize x.bods[k] = c at *
   obtain ⟨d0, d1, d2, d3, d4, d5, d6, d7, d8⟩ := cells9 hb0
   obtain ⟨f0, f1, f2, f3, f4, f5, f6, f7, f8⟩ := free9 ht0
   have hki : (k : Int) < (n : Int) := by omega
   have hkXi : (k : Int) < (X.length : Int) := by omega
   have hX24 : (X.length : Int) ≤ 24 := by omega
   have hPr := hBr.1
   unfold wdC at hPr
   dsimp only at hPr
   have cPr := rowCells hPr
   have hTr := Nat.le_of_lt hBr.low
   obtain ⟨p0, p1, p2, p3, p4, p5⟩ := fit_parts hfit
   obtain ⟨q1, q2, q3, q4, q5⟩ := kind0_facts hkd p5
   have hpl := fit_place hg hfit hkd
   have HBR := Lib.hid hBr
   have hlv := fun {W : World} (hb : Below wr.heap.size wr W) => (hBr.keep hb hTr).rd.1
   have hlv : ∀ {W : World}, Below wr.heap.size wr W → RdS W (.slice al x.rows.length cl) x.rows := hlv
   have hgq : g < wr.heap.size ∧ p < wr.heap.size ∧ p ≠ g := by
    have h1 := (World.ownsRow.lt hBr.2.2.2.2 g rfl).2
    have h2 := hBr.lt
    exact ⟨h1, h2, fun e => hBr.notP.2 (by rw [e]; rfl)⟩
   obtain ⟨hgq1, hgq2, hgq3⟩ := hgq
   have HXE := Lib.hid hXe
   clear hb0 ht0 hrr hie hi hXX hF1 hF2 hF3 hOr hXe hfit hfk hfo hBr
   by_cases hlf : c.life = 0
   ·have z1 : ((c.life : Int) == 0) = true := by simpa using hlf
    have HX1 : Hid (stN x.rows row x.bods (k + 1) = X.set k (waitB x.rows c)) := Lib.hid (by rw [hX.out]; unfold st1; rw [if_pos hlf])
    obtain ⟨ht1, ht2⟩ := q4 hlf
    obtain ⟨h5, hF5⟩ := HBR.out.fld rfl hXk (i := 8) (by omega) (c.timer - 1)
    rw [show (⟨x.rows, x.tick, x.seed, x.scores, X⟩ : Wd).bods.getD k b00 = c from (getD_at hXk).trans HXE.out] at h5
    dsimp only at h5
    obtain ⟨Y, hY⟩ : ∃ Y, Y = X.set k (c.set 8 (c.timer - 1)) := ⟨_, rfl⟩
    rw [← hY] at h5
    have hYn : X.length = Y.length := by rw [hY, List.length_set]
    have hYk : k < Y.length := by omega
    have HY := Lib.hid hY
    have HYN := Lib.hid hYn
    have ht3 : -9223372036854775808 ≤ c.timer - 1 := by omega
    have hWB : Hid (waitB x.rows c = if c.timer - 1 = 0 then freshB x.rows k else c.set 8 (c.timer - 1)) := Lib.hid (by have e : c.owner.toNat = k := (by rw [how, Int.toNat_natCast]); unfold waitB; rw [e]; rfl)
    have hfr : ∀ {W : World}, Below T wr W → Calls Tryz.prog 135 #[.agg #[.slice al x.rows.length cl], .int .i64 (k : Int)] W fun e w' => e = .returned (.agg #[.int .i64 (freshS x.rows k).kind, .int .i64 (freshS x.rows k).owner, .int .i64 (freshS x.rows k).x, .int .i64 (freshS x.rows k).y, .int .i64 (freshS x.rows k).vx, .int .i64 (freshS x.rows k).vy, .int .i64 (freshS x.rows k).aim, .int .i64 (freshS x.rows k).life, .int .i64 (freshS x.rows k).timer]) ∧ Below W.heap.size W w' := fun hb => fresh_spec (lvKeep HBR.out.2.2.1 hb).1.rd HSN.out k
    have HFS := Lib.hid (freshS_eq (k := k) hL (by omega))
    clear hlf hX q4 q5 p0 p1 p2 p3 p4 p5 hkd how hpl hY hYn hrc hcr hG rG
    go_upto_region 6 with (fail)
    obtain ⟨W5, hW5⟩ : ∃ W5, W5 = wr.setCell ⟨g, k * 9 + 8, none⟩ (.int .i64 (c.timer - 1)) := ⟨_, rfl⟩
    have hbT : Below T wr W5 := by rw [hW5]; exact (Below.refl _ _).setCell (p := ⟨g, k * 9 + 8, none⟩) hTg _
    rw [← hW5] at h5 hF5 ⊢
    have hP5 := h5.1
    unfold wdC at hP5
    dsimp only at hP5
    have cP5 := rowCells hP5
    have e8 := (h5.2.2.2.2.body hYk).1 8 (.int .i64 (c.timer - 1)) (by
     have e : Y[k] = c.set 8 (c.timer - 1) := by have := List.getElem_set_self (l := X) (i := k) (a := c.set 8 (c.timer - 1)) (by rw [List.length_set]; exact hXk); simp only [HY.out]; exact this
     show (bdL (Y[k]))[8]? = _
     rw [e]; rfl)
    have e8 : W5.cell? ⟨g, k * 9 + 8, none⟩ = some (.int .i64 (c.timer - 1)) := e8
    have hF05 := hFr.trans hF5 rfl hOr'
    have hT5 := Nat.le_of_lt h5.low
    have H5 := Lib.hid h5
    clear d0 d1 d2 d3 d4 d5 d6 d7 d8 f0 f1 f2 f3 f4 f5 f6 f7 f8 cPr hPr hW5 h5
    by_cases hz : c.timer - 1 = 0
    ·have z2 : ((c.timer - 1 : Int) == 0) = true := by simpa using hz
     have HX7 : Hid (stN x.rows row x.bods (k + 1) = Y.set k (freshS x.rows k)) := Lib.hid (by rw [HX1.out, hWB.out, if_pos hz, HY.out, List.set_set, HFS.out])
     generalize freshS x.rows k = b at *
     clear hz
     go_upto_region 7 with (fail)
     have ho : OwnRB W5 T (.slice (some ⟨g, 0, none⟩) X.length cap) Y := H5.out.2.2.2.2
     clear cP5 e8
     have ho_0 : OwnRB W5.drew T (.slice (some ⟨g, 0, none⟩) X.length cap) Y := ho
     have bs_0 : Below W5.heap.size W5 W5.drew := belowDrew W5 1
     have hP5_0 : W5.drew.heap[p]? = _ := hP5
     refine wp_region_held_drew (S := (fun w' => ∀ j, w'.cell? ⟨p, j, none⟩ = #[Value.slice al x.rows.length cl, .int .i64 x.tick, .int .i64 x.seed, .slice aq x.scores.length cq, .slice (some ⟨g, 0, none⟩) X.length cap][j]?)) (by kernel_rfl) ?_ (fun hHeld => ?_)
     ·exact rowCells hP5_0
     refine tk 0 56 ?_
     (try simp only [zP, zA, zB, zC])
     refine tk 1 57 ?_
     (try simp only [zP, zA, zB, zC])
     refine tk 2 58 ?_
     (try simp only [zP, zA, zB, zC])
     refine tk 3 59 ?_
     (try simp only [zP, zA, zB, zC])
     refine tk 4 60 ?_
     (try simp only [zP, zA, zB, zC])
     refine tk 5 61 ?_
     (try simp only [zP, zA, zB, zC])
     refine tk 6 62 ?_
     (try simp only [zP, zA, zB, zC])
     refine tk 7 63 ?_
     (try simp only [zP, zA, zB, zC])
     refine tk 8 64 ?_
     (try simp only [zP, zA, zB, zC])
     refine tk 9 65 ?_
     (try simp only [zP, zA, zB, zC])
     refine wpAnyH_ready (rs := [10]) (by kernel_rfl) (by simp) ?_
     refine AllReadyH.cons rfl (fun K hK => ?_) AllReadyH.nil
     go_simp
     refine (hfr (hbT.trans (bs_0.mono hT5))).mono ?_
     rintro e w_1 ⟨rfl, hb_1⟩
     have hP5_1 := keepHeap hb_1 hP5_0
     have bs_1 := bs_0.trans (hb_1.mono bs_0.size)
     have sz_1 := hb_1.size
     have ho_1 := ho_0.keep hb_1 (Nat.le_refl _)
     (try go_wp2_with (fail))
     refine hK.out _ _ ?_ (fun hHeld => ?_)
     ·exact rowCells hP5_1
     clear hK K
     (try simp only [zP, zA, zB, zC])
     refine tk 11 67 ?_
     (try simp only [zP, zA, zB, zC])
     refine wpAnyH_ready (rs := [12]) (by kernel_rfl) (by simp) ?_
     refine AllReadyH.cons rfl (fun K hK => ?_) AllReadyH.nil
     obtain ⟨hr_2, ht_2⟩ := ho_1.body hYk
     obtain ⟨d0, d1, d2, d3, d4, d5, d6, d7, d8⟩ := cells9 hr_2
     obtain ⟨f0, f1, f2, f3, f4, f5, f6, f7, f8⟩ := free9 ht_2
     clear hr_2 ht_2
     generalize Y[k] = y at *
     go_simp
     rw [put9]
     have ho_2 := ho_1.put HYN.out hYk b
     have hP5_2 := (heap_setCells g (bdL b) (k * 9) w_1 _ (by omega)).trans hP5_1
     obtain ⟨V, hV, hVF, hVZ⟩ : ∃ V, w_1.setCells g (k * 9) (bdL b) = V ∧ (∀ j, j ≠ g → V.heap[j]? = w_1.heap[j]?) ∧ Below T w_1 V := ⟨_, rfl, fun j hj => heap_setCells g (bdL b) (k * 9) w_1 j hj, belowSet hTg _ _ _⟩
     rw [hV] at ho_2 hP5_2 ⊢
     clear hV d0 d1 d2 d3 d4 d5 d6 d7 d8 f0 f1 f2 f3 f4 f5 f6 f7 f8
     refine hK.out _ _ ?_ (fun hHeld => ?_)
     ·exact rowCells hP5_2
     clear hK K
     (try simp only [zP, zA, zB, zC])
     refine wpAnyH_done (by kernel_rfl) ?_ _
     have h6 := (H5.out.keep bs_1 hT5).bods (X := Y.set k b) (by rw [List.length_set]) hVZ ho_2 hVF
     have hF6 := (hF05.trans (FrW.below bs_1 hT5) rfl hOr').trans (frB (vs := .slice aq x.scores.length cq) (n := X.length) (cap := cap) hVZ hVF) rfl hOr'
     have HB6 := Lib.hid h6
     have HF6 := Lib.hid hF6
     clear h6 hF6 hVF hVZ
     go_wp2_with (fail)
     go_roundw
     case rel => exact ⟨k + 1, by omega, by go_num, .slice (some ⟨g, 0, none⟩) X.length cap, by unfold stX; rw [HX7.out]; exact HB6.out, HF6.out, hOr'⟩
     case measure => simp [intOf]; omega
    ·have z2 : ((c.timer - 1 : Int) == 0) = false := by simpa using hz
     have HX7 : Hid (stN x.rows row x.bods (k + 1) = Y) := Lib.hid (by rw [HX1.out, hWB.out, if_neg hz, HY.out])
     clear hz
     go_wp2_with (fail)
     go_roundw
     case rel => exact ⟨k + 1, by omega, by go_num, _, by unfold stX; rw [HX7.out]; exact H5.out, hF05, hOr'⟩
     case measure => simp [intOf]; omega
   ·have z1 : ((c.life : Int) == 0) = false := by simpa using hlf
    have hst : ∀ {W : World}, Below wr.heap.size wr W → Calls Tryz.prog 218 #[.agg #[.slice al x.rows.length cl], .agg #[.int .i64 c.kind, .int .i64 c.owner, .int .i64 c.x, .int .i64 c.y, .int .i64 c.vx, .int .i64 c.vy, .int .i64 c.aim, .int .i64 c.life, .int .i64 c.timer], .int .i64 i] W fun e w' => e = .returned (.tuple #[.agg #[.int .i64 (strB x.rows c i).kind, .int .i64 (strB x.rows c i).owner, .int .i64 (strB x.rows c i).x, .int .i64 (strB x.rows c i).y, .int .i64 (strB x.rows c i).vx, .int .i64 (strB x.rows c i).vy, .int .i64 (strB x.rows c i).aim, .int .i64 (strB x.rows c i).life, .int .i64 (strB x.rows c i).timer], .bool (strT c i)]) ∧ Below W.heap.size W w' := fun hb => steer_spec (hlv hb) hg c hkd hpl.1 hpl.2 (q5 hlf) ((inR_iff _ _ _).1 p4) i hir
    have HX1 : Hid (stN x.rows row x.bods (k + 1) = if strT c i && decide (X.length < 24) then X.set k (strB x.rows c i) ++ [shotB (strB x.rows c i)] else X.set k (strB x.rows c i)) := Lib.hid (by rw [hX.out]; unfold st1; rw [if_neg hlf])
    generalize strB x.rows c i = b at *
    generalize strT c i = t at *
    have hsh : ∀ (W : World), Calls Tryz.prog 219 #[.agg #[.int .i64 b.kind, .int .i64 b.owner, .int .i64 b.x, .int .i64 b.y, .int .i64 b.vx, .int .i64 b.vy, .int .i64 b.aim, .int .i64 b.life, .int .i64 b.timer]] W fun e w' => e = .returned (.agg #[.int .i64 (shotB b).kind, .int .i64 (shotB b).owner, .int .i64 (shotB b).x, .int .i64 (shotB b).y, .int .i64 (shotB b).vx, .int .i64 (shotB b).vy, .int .i64 (shotB b).aim, .int .i64 (shotB b).life, .int .i64 (shotB b).timer]) ∧ Below W.heap.size W w' := fun W => shotOf_spec b W
    generalize shotB b = sb at *
    clear hlf hX q4 q5 p0 p1 p2 p3 p4 p5 hkd how hpl f0 f1 f2 f3 f4 f5 f6 f7 f8
    go_upto_region 8 with (fail)
    clear d0 d1 d2 d3 d4 d5 d6 d7 d8 cPr
    go_cut [6, 7] from 68 to 86 (fun q tt wq => ∃ q' : Nat, q = .pointer (some ⟨q', 0, none⟩) ∧ tt = .bool t ∧ wr.heap.size ≤ q' ∧ wq.heap[q']? = some (.cells #[.int .i64 b.kind, .int .i64 b.owner, .int .i64 b.x, .int .i64 b.y, .int .i64 b.vx, .int .i64 b.vy, .int .i64 b.aim, .int .i64 b.life, .int .i64 b.timer] 100 (0, 0)) ∧ Below wr.heap.size wr wq)
    case first =>
     have bs_0 : Below wr.heap.size wr wr.drew := belowDrew wr 1
     have hPr_0 : wr.drew.heap[p]? = _ := hPr
     have hG_0 : wr.drew.heap[g]? = _ := hG
     refine wp_region_held_drew (S := (fun w' => (∀ j, w'.cell? ⟨p, j, none⟩ = #[Value.slice al x.rows.length cl, .int .i64 x.tick, .int .i64 x.seed, .slice aq x.scores.length cq, .slice (some ⟨g, 0, none⟩) X.length cap][j]?) ∧ (w'.cell? ⟨g, k * 9, none⟩ = some (.int .i64 c.kind) ∧ w'.cell? ⟨g, k * 9 + 1, none⟩ = some (.int .i64 c.owner) ∧ w'.cell? ⟨g, k * 9 + 2, none⟩ = some (.int .i64 c.x) ∧ w'.cell? ⟨g, k * 9 + 3, none⟩ = some (.int .i64 c.y) ∧ w'.cell? ⟨g, k * 9 + 4, none⟩ = some (.int .i64 c.vx) ∧ w'.cell? ⟨g, k * 9 + 5, none⟩ = some (.int .i64 c.vy) ∧ w'.cell? ⟨g, k * 9 + 6, none⟩ = some (.int .i64 c.aim) ∧ w'.cell? ⟨g, k * 9 + 7, none⟩ = some (.int .i64 c.life) ∧ w'.cell? ⟨g, k * 9 + 8, none⟩ = some (.int .i64 c.timer)) ∧ w'.cell? ⟨br, or + k, none⟩ = some (.int .i64 i))) (by kernel_rfl) ?_ (fun hHeld => ?_)
     ·exact ⟨rowCells hPr_0, cells9 (rG hG_0), hrc bs_0⟩
     refine tk 0 69 ?_
     (try simp only [zP, zA, zB, zC])
     refine tk 1 70 ?_
     (try simp only [zP, zA, zB, zC])
     refine tk 2 71 ?_
     (try simp only [zP, zA, zB, zC])
     refine tk 3 72 ?_
     (try simp only [zP, zA, zB, zC])
     refine tk 4 73 ?_
     (try simp only [zP, zA, zB, zC])
     refine tk 5 74 ?_
     (try simp only [zP, zA, zB, zC])
     refine tk 6 75 ?_
     (try simp only [zP, zA, zB, zC])
     refine tk 7 76 ?_
     (try simp only [zP, zA, zB, zC])
     refine tk 8 77 ?_
     (try simp only [zP, zA, zB, zC])
     refine tk 9 78 ?_
     (try simp only [zP, zA, zB, zC])
     refine tk 10 79 ?_
     (try simp only [zP, zA, zB, zC])
     refine tk 11 80 ?_
     (try simp only [zP, zA, zB, zC])
     refine tk 12 81 ?_
     (try simp only [zP, zA, zB, zC])
     refine tk 13 82 ?_
     (try simp only [zP, zA, zB, zC])
     refine tk 14 83 ?_
     (try simp only [zP, zA, zB, zC])
     refine wpAnyH_ready (rs := [15, 19]) (by kernel_rfl) (by simp) ?_
     refine AllReadyH.cons rfl (fun K hK => ?_) (AllReadyH.cons rfl (fun K hK => ?_) AllReadyH.nil)
     ·go_simp
      refine (hst bs_0).mono ?_
      rintro e w_1 ⟨rfl, hb_1⟩
      have hPr_1 := keepHeap hb_1 hPr_0
      have hG_1 := keepHeap hb_1 hG_0
      have bs_1 := bs_0.trans (hb_1.mono bs_0.size)
      have sz_1 := hb_1.size
      (try go_wp2_with (fail))
      refine hK.out _ _ ?_ (fun hHeld => ?_)
      ·exact ⟨rowCells hPr_1, cells9 (rG hG_1), hrc bs_1⟩
      clear hK K
      (try simp only [zP, zA, zB, zC])
      refine tk 16 68 ?_
      (try simp only [zP, zA, zB, zC])
      refine tk 17 85 ?_
      (try simp only [zP, zA, zB, zC])
      refine tk 18 86 ?_
      (try simp only [zP, zA, zB, zC])
      refine wpAnyH_ready (rs := [19]) (by kernel_rfl) (by simp) ?_
      refine AllReadyH.cons rfl (fun K hK => ?_) AllReadyH.nil
      go_simp
      obtain ⟨w_2, hw_2, P_2, hb_2⟩ : ∃ W, w_1.alloc (.cells #[.int .i64 0, .int .i64 0, .int .i64 0, .int .i64 0, .int .i64 0, .int .i64 0, .int .i64 0, .int .i64 0, .int .i64 0] 100) = W ∧ W.heap[w_1.heap.size]? = some (.cells #[.int .i64 0, .int .i64 0, .int .i64 0, .int .i64 0, .int .i64 0, .int .i64 0, .int .i64 0, .int .i64 0, .int .i64 0] 100 (0, 0)) ∧ Below w_1.heap.size w_1 W := ⟨_, rfl, heap_alloc_new w_1 _, below1 w_1 _⟩
      try rw [hw_2]
      clear hw_2
      have hp_2 := bs_1.size
      have hPr_2 := keepHeap hb_2 hPr_1
      have hG_2 := keepHeap hb_2 hG_1
      have bs_2 := bs_1.trans (hb_2.mono bs_1.size)
      have sz_2 := hb_2.size
      refine hK.out _ _ ?_ (fun hHeld => ?_)
      ·exact ⟨rowCells hPr_2, cells9 (rG hG_2), hrc bs_2⟩
      clear hK K
      (try simp only [zP, zA, zB, zC])
      refine wpAnyH_ready (rs := [20]) (by kernel_rfl) (by simp) ?_
      refine AllReadyH.cons rfl (fun K hK => ?_) AllReadyH.nil
      have cn := rowCells P_2
      have fn := fun j => frozenHeap P_2 j
      go_simp
      have P_3 := putB_heapT P_2 rfl b b.x b.y b.vx b.vy
      have hpp : wr.heap.size ≤ w_1.heap.size := by have := hp_2; first | omega | (simp at this ⊢; omega) | (simp at this ⊢)
      have bs_3 := putB_below bs_2 (c := w_1.heap.size) hpp b b.x b.y b.vx b.vy
      have hPr_3 := putB_far hPr_2 (c := w_1.heap.size) (by have := (Array.getElem?_eq_some_iff.1 hPr).1; omega) b b.x b.y b.vx b.vy
      have hG_3 := putB_far hG_2 (c := w_1.heap.size) (by have := (Array.getElem?_eq_some_iff.1 hG).1; omega) b b.x b.y b.vx b.vy
      obtain ⟨w_3, hw_3⟩ : ∃ W, putB w_2 (w_1.heap.size) b b.x b.y b.vx b.vy = W := ⟨_, rfl⟩
      rw [hw_3] at P_3 bs_3 hPr_3 hG_3
      unfold putB at hw_3
      try rw [hw_3]
      clear hw_3 cn fn
      refine hK.out _ _ ?_ (fun hHeld => ?_)
      ·exact ⟨rowCells hPr_3, cells9 (rG hG_3), hrc bs_3⟩
      clear hK K
      (try simp only [zP, zA, zB, zC])
      refine tk 21 7 ?_
      (try simp only [zP, zA, zB, zC])
      refine wpAnyH_done (by kernel_rfl) ?_ _
      go_wp2_with (fail)
      go_meet
      case rel => exact ⟨_, rfl, rfl, hpp, P_3, bs_3⟩
     ·go_simp
      obtain ⟨w_1, hw_1, P_1, hb_1⟩ : ∃ W, (wr.alloc (.cells #[.int .i64 0, .int .i64 0, .int .i64 0, .int .i64 0, .int .i64 0, .int .i64 0, .int .i64 0, .int .i64 0, .int .i64 0] 100)).drew = W ∧ W.heap[wr.heap.size]? = some (.cells #[.int .i64 0, .int .i64 0, .int .i64 0, .int .i64 0, .int .i64 0, .int .i64 0, .int .i64 0, .int .i64 0, .int .i64 0] 100 (0, 0)) ∧ Below wr.drew.heap.size wr.drew W := ⟨_, rfl, heap_alloc_new wr.drew _, below1 wr.drew _⟩
      try rw [hw_1]
      clear hw_1
      have hp_1 := bs_0.size
      have hPr_1 := keepHeap hb_1 hPr_0
      have hG_1 := keepHeap hb_1 hG_0
      have bs_1 := bs_0.trans (hb_1.mono bs_0.size)
      have sz_1 := hb_1.size
      refine hK.out _ _ ?_ (fun hHeld => ?_)
      ·exact ⟨rowCells hPr_1, cells9 (rG hG_1), hrc bs_1⟩
      clear hK K
      (try simp only [zP, zA, zB, zC])
      refine wpAnyH_ready (rs := [15]) (by kernel_rfl) (by simp) ?_
      refine AllReadyH.cons rfl (fun K hK => ?_) AllReadyH.nil
      go_simp
      refine (hst bs_1).mono ?_
      rintro e w_2 ⟨rfl, hb_2⟩
      have hPr_2 := keepHeap hb_2 hPr_1
      have hG_2 := keepHeap hb_2 hG_1
      have bs_2 := bs_1.trans (hb_2.mono bs_1.size)
      have sz_2 := hb_2.size
      have P_2 := keepHeap hb_2 P_1
      (try go_wp2_with (fail))
      refine hK.out _ _ ?_ (fun hHeld => ?_)
      ·exact ⟨rowCells hPr_2, cells9 (rG hG_2), hrc bs_2⟩
      clear hK K
      (try simp only [zP, zA, zB, zC])
      refine tk 16 68 ?_
      (try simp only [zP, zA, zB, zC])
      refine tk 17 85 ?_
      (try simp only [zP, zA, zB, zC])
      refine tk 18 86 ?_
      (try simp only [zP, zA, zB, zC])
      refine wpAnyH_ready (rs := [20]) (by kernel_rfl) (by simp) ?_
      refine AllReadyH.cons rfl (fun K hK => ?_) AllReadyH.nil
      have cn := rowCells P_2
      have fn := fun j => frozenHeap P_2 j
      go_simp
      have P_3 := putB_heapT P_2 rfl b b.x b.y b.vx b.vy
      have hpp : wr.heap.size ≤ wr.heap.size := by have := hp_1; first | omega | (simp at this ⊢; omega) | (simp at this ⊢)
      have bs_3 := putB_below bs_2 (c := wr.heap.size) hpp b b.x b.y b.vx b.vy
      have hPr_3 := putB_far hPr_2 (c := wr.heap.size) (by have := (Array.getElem?_eq_some_iff.1 hPr).1; omega) b b.x b.y b.vx b.vy
      have hG_3 := putB_far hG_2 (c := wr.heap.size) (by have := (Array.getElem?_eq_some_iff.1 hG).1; omega) b b.x b.y b.vx b.vy
      obtain ⟨w_3, hw_3⟩ : ∃ W, putB w_2 (wr.heap.size) b b.x b.y b.vx b.vy = W := ⟨_, rfl⟩
      rw [hw_3] at P_3 bs_3 hPr_3 hG_3
      unfold putB at hw_3
      try rw [hw_3]
      clear hw_3 cn fn
      refine hK.out _ _ ?_ (fun hHeld => ?_)
      ·exact ⟨rowCells hPr_3, cells9 (rG hG_3), hrc bs_3⟩
      clear hK K
      (try simp only [zP, zA, zB, zC])
      refine tk 21 7 ?_
      (try simp only [zP, zA, zB, zC])
      refine wpAnyH_done (by kernel_rfl) ?_ _
      go_wp2_with (fail)
      go_meet
      case rel => exact ⟨_, rfl, rfl, hpp, P_3, bs_3⟩
    obtain ⟨q, rfl, rfl, hqr, hQ, hb3⟩ := hcut
    obtain ⟨w3, ew⟩ : ∃ w3, w3 = wc := ⟨_, rfl⟩
    subst ew
    have hg1 : g ≠ q := by omega
    have hg2 : p ≠ q := by omega
    have ho := HBR.out.2.2.2.2.keep hb3 (Nat.le_refl _)
    have hP7 := keepHeap hb3 hPr
    have hQ7 := hQ
    clear hQ hPr hG rG hst hrc hcr
    go_upto_region 9 with (fail)
    have bs_0 : Below w3.heap.size w3 w3.drew := belowDrew w3 1
    have hP7_0 : w3.drew.heap[p]? = _ := hP7
    have hQ7_0 : w3.drew.heap[q]? = _ := hQ7
    refine wp_region_held_drew (S := (fun w' => (∀ j, w'.cell? ⟨p, j, none⟩ = #[Value.slice al x.rows.length cl, .int .i64 x.tick, .int .i64 x.seed, .slice aq x.scores.length cq, .slice (some ⟨g, 0, none⟩) X.length cap][j]?) ∧ (∀ j, w'.cell? ⟨q, j, none⟩ = #[Value.int .i64 b.kind, .int .i64 b.owner, .int .i64 b.x, .int .i64 b.y, .int .i64 b.vx, .int .i64 b.vy, .int .i64 b.aim, .int .i64 b.life, .int .i64 b.timer][j]?))) (by kernel_rfl) ?_ (fun hHeld => ?_)
    ·exact ⟨rowCells hP7_0, rowCells hQ7_0⟩
    refine tk 0 87 ?_
    (try simp only [zP, zA, zB, zC])
    refine tk 1 88 ?_
    (try simp only [zP, zA, zB, zC])
    refine tk 2 89 ?_
    (try simp only [zP, zA, zB, zC])
    refine tk 3 90 ?_
    (try simp only [zP, zA, zB, zC])
    refine tk 4 91 ?_
    (try simp only [zP, zA, zB, zC])
    refine tk 5 92 ?_
    (try simp only [zP, zA, zB, zC])
    refine tk 6 93 ?_
    (try simp only [zP, zA, zB, zC])
    refine wpAnyH_ready (rs := [7]) (by kernel_rfl) (by simp) ?_
    refine AllReadyH.cons rfl (fun K hK => ?_) AllReadyH.nil
    obtain ⟨hr_1, ht_1⟩ := ho.body hXk
    obtain ⟨d0, d1, d2, d3, d4, d5, d6, d7, d8⟩ := cells9 hr_1
    obtain ⟨f0, f1, f2, f3, f4, f5, f6, f7, f8⟩ := free9 ht_1
    clear hr_1 ht_1
    generalize X[k] = y at *
    go_simp
    rw [put9]
    have ho_1 := ho.put rfl hXk b
    have hP7_1 := (heap_setCells g (bdL b) (k * 9) w3 _ (by omega)).trans hP7
    have hQ7_1 := (heap_setCells g (bdL b) (k * 9) w3 _ (by omega)).trans hQ7
    obtain ⟨V, hV, hVF, hVZ⟩ : ∃ V, w3.setCells g (k * 9) (bdL b) = V ∧ (∀ j, j ≠ g → V.heap[j]? = w3.heap[j]?) ∧ Below T w3 V := ⟨_, rfl, fun j hj => heap_setCells g (bdL b) (k * 9) w3 j hj, belowSet hTg _ _ _⟩
    rw [hV] at ho_1 hP7_1 hQ7_1 ⊢
    clear hV d0 d1 d2 d3 d4 d5 d6 d7 d8 f0 f1 f2 f3 f4 f5 f6 f7 f8
    have hP7_1 : V.drew.heap[p]? = _ := hP7_1
    have hQ7_1 : V.drew.heap[q]? = _ := hQ7_1
    refine hK.out _ _ ?_ (fun hHeld => ?_)
    ·exact ⟨rowCells hP7_1, rowCells hQ7_1⟩
    clear hK K
    (try simp only [zP, zA, zB, zC])
    refine wpAnyH_done (by kernel_rfl) ?_ _
    obtain ⟨w7, hw7, hb7⟩ : ∃ w7, V.drew = w7 ∧ Below V.heap.size V w7 := ⟨_, rfl, belowDrew V 1⟩
    rw [hw7] at hP7_1 hQ7_1 ⊢
    clear hw7
    have h5 := HBR.out.keep hb3 hTr
    have hF5 := FrW.below (vs := .slice aq x.scores.length cq) (vb := .slice (some ⟨g, 0, none⟩) X.length cap) (p := p) hb3 hTr
    have h6 := h5.bods (X := X.set k b) (by rw [List.length_set]) hVZ ho_1 hVF
    have h7 := h6.keep hb7 (Nat.le_of_lt h6.low)
    have hF7 := (hF5.trans (frB (vs := .slice aq x.scores.length cq) (n := X.length) (cap := cap) hVZ hVF) rfl (OwnTo.refl _ _)).trans (FrW.below hb7 (Nat.le_of_lt h6.low)) rfl (OwnTo.refl _ _)
    have hsz7 : w.heap.size ≤ w7.heap.size := by have := hFr.size; have := hF7.size; omega
    have hP7 := hP7_1
    have hQ7 := hQ7_1
    clear hP7_1 hQ7_1 ho_1 hVF hVZ h5 hF5 h6 hb7
    have cP7 := rowCells hP7
    cases t with
    | false =>
     have HX9 : Hid (stN x.rows row x.bods (k + 1) = X.set k b) := Lib.hid (by rw [HX1.out]; rfl)
     have HB7 := Lib.hid h7
     have HF7 := Lib.hid (hFr.trans hF7 rfl hOr')
     clear h7 hF7
     go_wp2_with (fail)
     go_roundw
     case rel => exact ⟨k + 1, by omega, by go_num, _, by unfold stX; rw [HX9.out]; exact HB7.out, HF7.out, hOr'⟩
     case measure => simp [intOf]; omega
    | true =>
     by_cases h24 : X.length < 24
     ·have z4 : decide ((X.length : Int) < 24) = true := by simp; omega
      obtain ⟨X1, hX1⟩ : ∃ X1, X1 = X.set k b ++ [sb] := ⟨_, rfl⟩
      have HX1b := Lib.hid hX1
      have HX9 : Hid (stN x.rows row x.bods (k + 1) = X.set k b ++ [sb]) := Lib.hid (by rw [HX1.out]; simp [h24])
      clear hX1 h24
      go_upto_region 11 with (fail)
      clear cP7
      have ho_0 : OwnRB w7.drew T (.slice (some ⟨g, 0, none⟩) X.length cap) (X.set k b) := h7.2.2.2.2
      have bs_0 : Below w7.heap.size w7 w7.drew := belowDrew w7 1
      have hQ7_0 : w7.drew.heap[q]? = _ := hQ7
      have hP7_0 : w7.drew.heap[p]? = _ := hP7
      refine wp_region_held_drew (S := (fun w' => ∀ j, w'.cell? ⟨q, j, none⟩ = #[Value.int .i64 b.kind, .int .i64 b.owner, .int .i64 b.x, .int .i64 b.y, .int .i64 b.vx, .int .i64 b.vy, .int .i64 b.aim, .int .i64 b.life, .int .i64 b.timer][j]?)) (by kernel_rfl) ?_ (fun hHeld => ?_)
      ·exact rowCells hQ7_0
      refine tk 0 103 ?_
      (try simp only [zP, zA, zB, zC])
      refine tk 1 104 ?_
      (try simp only [zP, zA, zB, zC])
      refine tk 2 105 ?_
      (try simp only [zP, zA, zB, zC])
      refine tk 3 106 ?_
      (try simp only [zP, zA, zB, zC])
      refine tk 5 108 ?_
      (try simp only [zP, zA, zB, zC])
      refine wpAnyH_ready (rs := [4, 6]) (by kernel_rfl) (by simp) ?_
      refine AllReadyH.cons rfl (fun K hK => ?_) (AllReadyH.cons rfl (fun K hK => ?_) AllReadyH.nil)
      ·have cx := rowCells hP7
       go_simp
       clear cx
       refine hK.out _ _ ?_ (fun hHeld => ?_)
       ·exact rowCells hQ7_0
       clear hK K
       (try simp only [zP, zA, zB, zC])
       refine wpAnyH_ready (rs := [6]) (by kernel_rfl) (by simp) ?_
       refine AllReadyH.cons rfl (fun K hK => ?_) AllReadyH.nil
       go_simp
       refine (hsh _).mono ?_
       rintro e w_1 ⟨rfl, hb_1⟩
       have hQ7_1 := keepHeap hb_1 hQ7_0
       have hP7_1 := keepHeap hb_1 hP7_0
       have bs_1 := bs_0.trans (hb_1.mono bs_0.size)
       have sz_1 := hb_1.size
       have ho_1 := ho_0.keep hb_1 (Nat.le_refl _)
       (try go_wp2_with (fail))
       refine hK.out _ _ ?_ (fun hHeld => ?_)
       ·exact rowCells hQ7_1
       clear hK K
       (try simp only [zP, zA, zB, zC])
       refine wpAnyH_ready (rs := [7]) (by kernel_rfl) (by simp) ?_
       refine AllReadyH.cons rfl (fun K hK => ?_) AllReadyH.nil
       go_simp
       have hrg := range_mk w_1 sb 100
       obtain ⟨w_2, hw_2, P_2, hb_2⟩ : ∃ W, w_1.alloc (.cells #[Value.int .i64 sb.kind, .int .i64 sb.owner, .int .i64 sb.x, .int .i64 sb.y, .int .i64 sb.vx, .int .i64 sb.vy, .int .i64 sb.aim, .int .i64 sb.life, .int .i64 sb.timer] 100) = W ∧ W.heap[w_1.heap.size]? = some (.cells #[Value.int .i64 sb.kind, .int .i64 sb.owner, .int .i64 sb.x, .int .i64 sb.y, .int .i64 sb.vx, .int .i64 sb.vy, .int .i64 sb.aim, .int .i64 sb.life, .int .i64 sb.timer] 100 (0, 0)) ∧ Below w_1.heap.size w_1 W := ⟨_, rfl, heap_alloc_new w_1 _, below1 w_1 _⟩
       rw [hw_2] at hrg
       try rw [hw_2]
       clear hw_2
       have hp_2 := bs_1.size
       have hQ7_2 := keepHeap hb_2 hQ7_1
       have hP7_2 := keepHeap hb_2 hP7_1
       have bs_2 := bs_1.trans (hb_2.mono bs_1.size)
       have sz_2 := hb_2.size
       have ho_2 := ho_1.keep hb_2 (Nat.le_refl _)
       refine hK.out _ _ ?_ (fun hHeld => ?_)
       ·exact rowCells hQ7_2
       clear hK K
       (try simp only [zP, zA, zB, zC])
       refine wpAnyH_ready (rs := [8]) (by kernel_rfl) (by simp) ?_
       refine AllReadyH.cons rfl (fun K hK => ?_) AllReadyH.nil
       refine step_bodyT rfl (.tmp 107) (.tmp 110) rfl T _ (X.set k b) rfl ho_2 (w_1.heap.size) sb rfl (hrg) (by simp; omega) (by omega) ?_
       intro v5 w_3 ho_3 hb_3 hg_3 hto
       rw [← HX1b.out] at ho_3
       obtain ⟨a5, c5, rfl, -⟩ := id ho_3.own
       have hPU := bx_push h7 bs_2 hb_3 hg_3 ho_3 hto
       have hQ7_3 := (hPU.2.2.2 _ (by have := (Array.getElem?_eq_some_iff.1 hQ7).1; omega) hg1.symm).trans hQ7
       have hP7_3 := (hPU.2.2.2 _ h7.lt hgq3).trans hP7
       refine hK.out _ _ ?_ (fun hHeld => ?_)
       ·exact rowCells hQ7_3
       clear hK K
       (try simp only [zP, zA, zB, zC])
       refine tk 9 112 ?_
       (try simp only [zP, zA, zB, zC])
       refine tk 10 113 ?_
       (try simp only [zP, zA, zB, zC])
       refine wpAnyH_ready (rs := [11]) (by kernel_rfl) (by simp) ?_
       refine AllReadyH.cons rfl (fun K hK => ?_) AllReadyH.nil
       have cn := rowCells hP7_3
       have fn := fun j => frozenHeap hP7_3 j
       go_simp
       have hQ7_4 := farHeap (p := ⟨p, 4, none⟩) hQ7_3 (fun e => hg2 e.symm) (.slice a5 X1.length c5)
       refine hK.out _ _ ?_ (fun hHeld => ?_)
       ·exact rowCells hQ7_4
       clear hK K
       (try simp only [zP, zA, zB, zC])
       refine wpAnyH_done (by kernel_rfl) ?_ _
       go_wp2_with (fail)
       go_roundw
       case rel => exact ⟨k + 1, by omega, by go_num, _, by unfold stX; rw [HX9.out, ← HX1b.out]; exact hPU.1, (hFr.trans hF7 rfl hOr').trans hPU.2.1 rfl hOr', hOr'.trans hPU.2.2.1 hsz7⟩
       case measure => simp [intOf]; omega
      ·go_simp
       refine (hsh _).mono ?_
       rintro e w_1 ⟨rfl, hb_1⟩
       have hQ7_1 := keepHeap hb_1 hQ7_0
       have hP7_1 := keepHeap hb_1 hP7_0
       have bs_1 := bs_0.trans (hb_1.mono bs_0.size)
       have sz_1 := hb_1.size
       have ho_1 := ho_0.keep hb_1 (Nat.le_refl _)
       (try go_wp2_with (fail))
       refine hK.out _ _ ?_ (fun hHeld => ?_)
       ·exact rowCells hQ7_1
       clear hK K
       (try simp only [zP, zA, zB, zC])
       refine wpAnyH_ready (rs := [4, 7]) (by kernel_rfl) (by simp) ?_
       refine AllReadyH.cons rfl (fun K hK => ?_) (AllReadyH.cons rfl (fun K hK => ?_) AllReadyH.nil)
       ·have cx := rowCells hP7_1
        go_simp
        clear cx
        refine hK.out _ _ ?_ (fun hHeld => ?_)
        ·exact rowCells hQ7_1
        clear hK K
        (try simp only [zP, zA, zB, zC])
        refine wpAnyH_ready (rs := [7]) (by kernel_rfl) (by simp) ?_
        refine AllReadyH.cons rfl (fun K hK => ?_) AllReadyH.nil
        go_simp
        have hrg := range_mk w_1 sb 100
        obtain ⟨w_2, hw_2, P_2, hb_2⟩ : ∃ W, w_1.alloc (.cells #[Value.int .i64 sb.kind, .int .i64 sb.owner, .int .i64 sb.x, .int .i64 sb.y, .int .i64 sb.vx, .int .i64 sb.vy, .int .i64 sb.aim, .int .i64 sb.life, .int .i64 sb.timer] 100) = W ∧ W.heap[w_1.heap.size]? = some (.cells #[Value.int .i64 sb.kind, .int .i64 sb.owner, .int .i64 sb.x, .int .i64 sb.y, .int .i64 sb.vx, .int .i64 sb.vy, .int .i64 sb.aim, .int .i64 sb.life, .int .i64 sb.timer] 100 (0, 0)) ∧ Below w_1.heap.size w_1 W := ⟨_, rfl, heap_alloc_new w_1 _, below1 w_1 _⟩
        rw [hw_2] at hrg
        try rw [hw_2]
        clear hw_2
        have hp_2 := bs_1.size
        have hQ7_2 := keepHeap hb_2 hQ7_1
        have hP7_2 := keepHeap hb_2 hP7_1
        have bs_2 := bs_1.trans (hb_2.mono bs_1.size)
        have sz_2 := hb_2.size
        have ho_2 := ho_1.keep hb_2 (Nat.le_refl _)
        refine hK.out _ _ ?_ (fun hHeld => ?_)
        ·exact rowCells hQ7_2
        clear hK K
        (try simp only [zP, zA, zB, zC])
        refine wpAnyH_ready (rs := [8]) (by kernel_rfl) (by simp) ?_
        refine AllReadyH.cons rfl (fun K hK => ?_) AllReadyH.nil
        refine step_bodyT rfl (.tmp 107) (.tmp 110) rfl T _ (X.set k b) rfl ho_2 (w_1.heap.size) sb rfl (hrg) (by simp; omega) (by omega) ?_
        intro v5 w_3 ho_3 hb_3 hg_3 hto
        rw [← HX1b.out] at ho_3
        obtain ⟨a5, c5, rfl, -⟩ := id ho_3.own
        have hPU := bx_push h7 bs_2 hb_3 hg_3 ho_3 hto
        have hQ7_3 := (hPU.2.2.2 _ (by have := (Array.getElem?_eq_some_iff.1 hQ7).1; omega) hg1.symm).trans hQ7
        have hP7_3 := (hPU.2.2.2 _ h7.lt hgq3).trans hP7
        refine hK.out _ _ ?_ (fun hHeld => ?_)
        ·exact rowCells hQ7_3
        clear hK K
        (try simp only [zP, zA, zB, zC])
        refine tk 9 112 ?_
        (try simp only [zP, zA, zB, zC])
        refine tk 10 113 ?_
        (try simp only [zP, zA, zB, zC])
        refine wpAnyH_ready (rs := [11]) (by kernel_rfl) (by simp) ?_
        refine AllReadyH.cons rfl (fun K hK => ?_) AllReadyH.nil
        have cn := rowCells hP7_3
        have fn := fun j => frozenHeap hP7_3 j
        go_simp
        have hQ7_4 := farHeap (p := ⟨p, 4, none⟩) hQ7_3 (fun e => hg2 e.symm) (.slice a5 X1.length c5)
        refine hK.out _ _ ?_ (fun hHeld => ?_)
        ·exact rowCells hQ7_4
        clear hK K
        (try simp only [zP, zA, zB, zC])
        refine wpAnyH_done (by kernel_rfl) ?_ _
        go_wp2_with (fail)
        go_roundw
        case rel => exact ⟨k + 1, by omega, by go_num, _, by unfold stX; rw [HX9.out, ← HX1b.out]; exact hPU.1, (hFr.trans hF7 rfl hOr').trans hPU.2.1 rfl hOr', hOr'.trans hPU.2.2.1 hsz7⟩
        case measure => simp [intOf]; omega
       ·go_simp
        have hrg := range_mk w_1 sb 100
        obtain ⟨w_2, hw_2, P_2, hb_2⟩ : ∃ W, w_1.alloc (.cells #[Value.int .i64 sb.kind, .int .i64 sb.owner, .int .i64 sb.x, .int .i64 sb.y, .int .i64 sb.vx, .int .i64 sb.vy, .int .i64 sb.aim, .int .i64 sb.life, .int .i64 sb.timer] 100) = W ∧ W.heap[w_1.heap.size]? = some (.cells #[Value.int .i64 sb.kind, .int .i64 sb.owner, .int .i64 sb.x, .int .i64 sb.y, .int .i64 sb.vx, .int .i64 sb.vy, .int .i64 sb.aim, .int .i64 sb.life, .int .i64 sb.timer] 100 (0, 0)) ∧ Below w_1.heap.size w_1 W := ⟨_, rfl, heap_alloc_new w_1 _, below1 w_1 _⟩
        rw [hw_2] at hrg
        try rw [hw_2]
        clear hw_2
        have hp_2 := bs_1.size
        have hQ7_2 := keepHeap hb_2 hQ7_1
        have hP7_2 := keepHeap hb_2 hP7_1
        have bs_2 := bs_1.trans (hb_2.mono bs_1.size)
        have sz_2 := hb_2.size
        have ho_2 := ho_1.keep hb_2 (Nat.le_refl _)
        refine hK.out _ _ ?_ (fun hHeld => ?_)
        ·exact rowCells hQ7_2
        clear hK K
        (try simp only [zP, zA, zB, zC])
        refine wpAnyH_ready (rs := [4]) (by kernel_rfl) (by simp) ?_
        refine AllReadyH.cons rfl (fun K hK => ?_) AllReadyH.nil
        have cx := rowCells hP7_2
        go_simp
        clear cx
        refine hK.out _ _ ?_ (fun hHeld => ?_)
        ·exact rowCells hQ7_2
        clear hK K
        (try simp only [zP, zA, zB, zC])
        refine wpAnyH_ready (rs := [8]) (by kernel_rfl) (by simp) ?_
        refine AllReadyH.cons rfl (fun K hK => ?_) AllReadyH.nil
        refine step_bodyT rfl (.tmp 107) (.tmp 110) rfl T _ (X.set k b) rfl ho_2 (w_1.heap.size) sb rfl (hrg) (by simp; omega) (by omega) ?_
        intro v5 w_3 ho_3 hb_3 hg_3 hto
        rw [← HX1b.out] at ho_3
        obtain ⟨a5, c5, rfl, -⟩ := id ho_3.own
        have hPU := bx_push h7 bs_2 hb_3 hg_3 ho_3 hto
        have hQ7_3 := (hPU.2.2.2 _ (by have := (Array.getElem?_eq_some_iff.1 hQ7).1; omega) hg1.symm).trans hQ7
        have hP7_3 := (hPU.2.2.2 _ h7.lt hgq3).trans hP7
        refine hK.out _ _ ?_ (fun hHeld => ?_)
        ·exact rowCells hQ7_3
        clear hK K
        (try simp only [zP, zA, zB, zC])
        refine tk 9 112 ?_
        (try simp only [zP, zA, zB, zC])
        refine tk 10 113 ?_
        (try simp only [zP, zA, zB, zC])
        refine wpAnyH_ready (rs := [11]) (by kernel_rfl) (by simp) ?_
        refine AllReadyH.cons rfl (fun K hK => ?_) AllReadyH.nil
        have cn := rowCells hP7_3
        have fn := fun j => frozenHeap hP7_3 j
        go_simp
        have hQ7_4 := farHeap (p := ⟨p, 4, none⟩) hQ7_3 (fun e => hg2 e.symm) (.slice a5 X1.length c5)
        refine hK.out _ _ ?_ (fun hHeld => ?_)
        ·exact rowCells hQ7_4
        clear hK K
        (try simp only [zP, zA, zB, zC])
        refine wpAnyH_done (by kernel_rfl) ?_ _
        go_wp2_with (fail)
        go_roundw
        case rel => exact ⟨k + 1, by omega, by go_num, _, by unfold stX; rw [HX9.out, ← HX1b.out]; exact hPU.1, (hFr.trans hF7 rfl hOr').trans hPU.2.1 rfl hOr', hOr'.trans hPU.2.2.1 hsz7⟩
        case measure => simp [intOf]; omega
     ·have z4 : decide ((X.length : Int) < 24) = false := by simp; omega
      have HX9 : Hid (stN x.rows row x.bods (k + 1) = X.set k b) := Lib.hid (by rw [HX1.out]; simp [h24])
      have HB7 := Lib.hid h7
      have HF7 := Lib.hid (hFr.trans hF7 rfl hOr')
      clear h7 hF7 h24
      go_wp2_with (fail)
      go_roundw
      case rel => exact ⟨k + 1, by omega, by go_num, _, by unfold stX; rw [HX9.out]; exact HB7.out, HF7.out, hOr'⟩
      case measure => simp [intOf]; omega
  ·have hkn' : k = n := by omega
   have hnl : ¬ (k : Int) < (n : Int) := by omega
   rw [hkn', HST.out] at hBr
   have hF1 := steerX_fine HFX.out row
   have HSV : Hid (stepV x row = timeX (meetX 2 (meetX 1 (moveXW (steerX x row))))) := Lib.hid rfl
   have hyr : (steerX x row).rows = x.rows := rfl
   have hyt : (steerX x row).tick = x.tick := rfl
   have hys : (steerX x row).seed = x.seed := rfl
   have hyn : (steerX x row).scores.length = n := HNN.out.symm
   generalize steerX x row = y at *
   have HYR := Lib.hid hyr
   have HYT := Lib.hid hyt
   have HYS := Lib.hid hys
   have HYN := Lib.hid hyn
   have HFY := Lib.hid hF1
   obtain ⟨hL1, hn1, -, hFi1⟩ := hF1
   obtain ⟨g, cap, e0, hTg, hgw, hcap⟩ := hBr.2.2.2.2.shape (by have := hFi1.1; omega)
   subst e0
   obtain ⟨N, hNN⟩ : ∃ N, N = y.bods.length := ⟨_, rfl⟩
   have hN24 : N ≤ 24 := by rw [hNN]; exact hFi1.2.1
   have hnN : n ≤ N := by rw [hNN, ← hyn]; exact hFi1.1
   rw [hyn] at hFi1
   have hF1 := HFX.out
   rw [← hNN] at hBr hcap
   have HNY := Lib.hid hNN
   have hNi : (N : Int) ≤ 24 := by omega
   obtain ⟨wA, ew⟩ : ∃ wA, wA = wr := ⟨_, rfl⟩
   subst ew
   have hTA := Nat.le_of_lt hBr.low
   have hbA := below1 wA (.cells #[] 100)
   have hPA := hBr.1
   unfold wdC at hPA
   have hgA : g < wA.heap.size := (World.ownsRow.lt hBr.2.2.2.2 g rfl).2
   have hpA := hBr.lt
   have HBA := Lib.hid hBr
   have HFA := Lib.hid hFr
   have HOA : Hid (OwnTo w.heap.size vb (.slice (some ⟨g, 0, none⟩) N cap)) := Lib.hid (fun k hk => hOr k hk)
   have HO0 := Lib.hid (OwnRB.made0 wA wA.heap.size (Nat.le_refl _))
   have hgL := levelB_facts hL1
   rw [HYR.out] at hgL
   clear hyr hyt hys hyn hNN hkn' hBr hFr hOr hL1 hn1 HR
   go_wp2_with (fail)
   clear hnl
   go_loopw [8, 9] (fun v i wr => ∃ j : Nat, j ≤ N ∧ i = .int .i64 (j : Int) ∧ OwnRB wr wA.heap.size v (mvL x.rows (y.bods.take j)) ∧ Below wA.heap.size wA wr) (fun _ i _ => N - (intOf i).toNat)
   case atStart => exact ⟨0, Nat.zero_le _, rfl, HO0.out, hbA⟩
   case round =>
    clear HO0 hbA
    obtain ⟨j, hjN, rfl, hov, hbv⟩ := hrel
    have hPr := keepHeap hbv hPA
    have hwA := hbv.size
    by_cases hjl : j < N
    ·have hjx : j < y.bods.length := by rw [← HNY.out]; exact hjl
     have hc0 := ((HBA.out.keep hbv hTA).2.2.2.2.body hjx).1
     obtain ⟨hfit, hfk, -⟩ := hFi1.2.2 j hjx
     rw [HYR.out] at hfit
     have HNX : Hid (∀ {W : World} {v : Value} {c : Bd}, mvB x.rows y.bods[j] = some c → OwnRB W wA.heap.size v (mvL x.rows (y.bods.take j) ++ [c]) → OwnRB W wA.heap.size v (mvL x.rows (y.bods.take (j + 1)))) := Lib.hid (fun hc ho => by
      rw [List.take_succ_eq_append_getElem hjx]; unfold mvL at ho ⊢; rw [List.filterMap_append, List.filterMap_cons, hc]; exact ho)
     have HNO : Hid (mvB x.rows y.bods[j] = none → mvL x.rows (y.bods.take (j + 1)) = mvL x.rows (y.bods.take j)) := Lib.hid (fun hc => by
      rw [List.take_succ_eq_append_getElem hjx]; unfold mvL; rw [List.filterMap_append, List.filterMap_cons, hc]; simp)
     have hml : (mvL x.rows (y.bods.take j)).length + 1 ≤ 1048576 := by
      have h1 : (mvL x.rows (y.bods.take j)).length ≤ (y.bods.take j).length := by unfold mvL; exact List.length_filterMap_le _ _
      rw [List.length_take] at h1; omega
     generalize mvL x.rows (y.bods.take j) = M at *
     have hap := fun (W : World) (ad : Nat) (c : Bd) (hb : Below wr.heap.size wr W) (hr : W.rangeAt ad 0 (bdL c)) => run_app_body 28 (hov.keep hb (Nat.le_refl _)) ad c hr hml (by have := hb.size; omega)
     have HAP := Lib.hid hap
     generalize y.bods[j] = b at *
     obtain ⟨d0, d1, d2, d3, d4, d5, d6, d7, d8⟩ := cells9 hc0
     have hji : (j : Int) < (N : Int) := by omega
     have cPr := rowCells hPr
     obtain ⟨w3, hw3, hQ3, hb3⟩ : ∃ w3, wr.alloc (.cells #[.int .i64 b.kind, .int .i64 b.owner, .int .i64 b.x, .int .i64 b.y, .int .i64 b.vx, .int .i64 b.vy, .int .i64 b.aim, .int .i64 b.life, .int .i64 b.timer] 100) = w3 ∧ w3.heap[wr.heap.size]? = some (.cells #[.int .i64 b.kind, .int .i64 b.owner, .int .i64 b.x, .int .i64 b.y, .int .i64 b.vx, .int .i64 b.vy, .int .i64 b.aim, .int .i64 b.life, .int .i64 b.timer] 100 (0, 0)) ∧ Below wr.heap.size wr w3 := ⟨_, rfl, heap_alloc_new wr _, below1 wr _⟩
     clear hc0 hap
     go_upto_region 17 with (fail)
     try rw [hw3]
     clear hw3 d0 d1 d2 d3 d4 d5 d6 d7 d8 cPr
     have hb13 := hbv.trans (hb3.mono hwA)
     have cQ3 := rowCells hQ3
     have hP3 := keepHeap hb3 hPr
     have hs3 := hb3.size
     obtain ⟨p0, p1, p2, p3, p4, p5⟩ := fit_parts hfit
     obtain ⟨MB, hMB⟩ : ∃ c, c = moveB x.rows b := ⟨_, rfl⟩
     obtain ⟨MT, hMT⟩ : ∃ c, c = moveT x.rows b := ⟨_, rfl⟩
     rcases kind3 p0 with hk0 | hk1 | hk2
     ·have hjn := hfk.1 hk0
      have hjni : (j : Int) < (n : Int) := by omega
      have z1 : ((b.kind : Int) == 2) = false := by simp; omega
      have z3 : ((b.kind : Int) == 1) = false := by simp; omega
      obtain ⟨q1, q2, q3, q4, q5⟩ := kind0_facts hk0 p5
      by_cases hl0 : b.life = 0
      ·have z2 : ((b.life : Int) == 0) = true := by simpa using hl0
       have HM : Hid (mvB x.rows b = some b) := Lib.hid (by unfold mvB; rw [if_pos hk0, if_neg (by omega)])
       clear hk0 hl0 q1 q2 q3 q4 q5 p0 p1 p2 p3 p4 p5 hMB hMT hfk hfit
       have hba := below1 w3 (.cells #[.int .i64 b.kind, .int .i64 b.owner, .int .i64 b.x, .int .i64 b.y, .int .i64 b.vx, .int .i64 b.vy, .int .i64 b.aim, .int .i64 b.life, .int .i64 b.timer] 100)
       obtain ⟨v7, w8, hra, ho8, hb8, -, -⟩ := HAP.out _ w3.heap.size b (hb3.trans (hba.mono hb3.size)) (range_mk w3 b _)
       have HN := Lib.hid (HNX.out HM.out ho8)
       have hbE := (hb13.trans (hba.mono hb13.size)).trans hb8
       clear ho8 hb8 hba hov hP3
       go_wp2_with (at_builtin; refine Lib.wpList_append_run _ rfl _ _ _ _ rfl _ _ rfl rfl _ _ hra ?_)
       go_roundw
       case rel => exact ⟨j + 1, by omega, by go_num, HN.out, hbE⟩
       case measure => simp [intOf]; omega
      ·have z2 : ((b.life : Int) == 0) = false := by simpa using hl0
       have HM : Hid (mvB x.rows b = some MB) := Lib.hid (by unfold mvB; rw [if_pos hk0, if_pos (by omega), hMB])
       clear hl0 q1 q2 q3 q4 q5 hk0
       obtain ⟨S, HS⟩ : ∃ S : Nat, sizeI b.kind = (S : Int) := Int.eq_ofNat_of_zero_le (sizeI_range _).1
       have hS := size_kind p0
       rw [HS] at p2 hS
       have hmv : ∀ {W : World}, Below w3.heap.size w3 W → Calls Tryz.prog 220 #[.agg #[.slice al x.rows.length cl], .agg #[.int .i64 b.kind, .int .i64 b.owner, .int .i64 b.x, .int .i64 b.y, .int .i64 b.vx, .int .i64 b.vy, .int .i64 b.aim, .int .i64 b.life, .int .i64 b.timer]] W fun e w' => e = .returned (.tuple #[.agg #[.int .i64 MB.kind, .int .i64 MB.owner, .int .i64 MB.x, .int .i64 MB.y, .int .i64 MB.vx, .int .i64 MB.vy, .int .i64 MB.aim, .int .i64 MB.life, .int .i64 MB.timer], .bool MT]) ∧ Below W.heap.size W w' := fun {W} hb => by
        have h1 : RdS W (.slice al x.rows.length cl) y.rows := (HBA.out.keep (hb13.trans (hb.mono hb13.size)) hTA).rd.1
        rw [HYR.out] at h1
        have := move_spec h1 hgL b S HS (by omega) (by omega) p2 ((inR_iff _ _ _).1 p3) ((inR_iff _ _ _).1 p4)
        rw [← hMB, ← hMT] at this
        exact this
       have HMB := Lib.hid hMB
       have HMT := Lib.hid hMT
       clear hMB hMT HS hS p0 p1 p2 p3 p4 p5 hfk hfit
       go_upto_region 19 with (fail)
       clear cQ3
       go_cut [11, 12] from 148 to 156 (fun q tt wq => ∃ q' : Nat, q = .pointer (some ⟨q', 0, none⟩) ∧ tt = .bool MT ∧ w3.heap.size ≤ q' ∧ wq.heap[q']? = some (.cells #[.int .i64 MB.kind, .int .i64 MB.owner, .int .i64 MB.x, .int .i64 MB.y, .int .i64 MB.vx, .int .i64 MB.vy, .int .i64 MB.aim, .int .i64 MB.life, .int .i64 MB.timer] 100 (0, 0)) ∧ Below w3.heap.size w3 wq)
       case first =>
        have bs_0 : Below w3.heap.size w3 w3.drew := belowDrew w3 1
        have hP3_0 : w3.drew.heap[p]? = _ := hP3
        have hQ3_0 : w3.drew.heap[wr.heap.size]? = _ := hQ3
        refine wp_region_held_drew (S := (fun w' => (∀ j, w'.cell? ⟨p, j, none⟩ = #[Value.slice al x.rows.length cl, .int .i64 y.tick, .int .i64 y.seed, .slice aq x.scores.length cq, .slice (some ⟨g, 0, none⟩) N cap][j]?) ∧ (∀ j, w'.cell? ⟨wr.heap.size, j, none⟩ = #[Value.int .i64 b.kind, .int .i64 b.owner, .int .i64 b.x, .int .i64 b.y, .int .i64 b.vx, .int .i64 b.vy, .int .i64 b.aim, .int .i64 b.life, .int .i64 b.timer][j]?))) (by kernel_rfl) ?_ (fun hHeld => ?_)
        ·exact ⟨rowCells hP3_0, rowCells hQ3_0⟩
        refine tk 0 149 ?_
        (try simp only [zP, zA, zB, zC])
        refine tk 1 150 ?_
        (try simp only [zP, zA, zB, zC])
        refine tk 2 151 ?_
        (try simp only [zP, zA, zB, zC])
        refine tk 3 152 ?_
        (try simp only [zP, zA, zB, zC])
        refine tk 4 153 ?_
        (try simp only [zP, zA, zB, zC])
        refine wpAnyH_ready (rs := [5, 9]) (by kernel_rfl) (by simp) ?_
        refine AllReadyH.cons rfl (fun K hK => ?_) (AllReadyH.cons rfl (fun K hK => ?_) AllReadyH.nil)
        ·go_simp
         refine (hmv bs_0).mono ?_
         rintro e w_1 ⟨rfl, hb_1⟩
         have hP3_1 := keepHeap hb_1 hP3_0
         have hQ3_1 := keepHeap hb_1 hQ3_0
         have bs_1 := bs_0.trans (hb_1.mono bs_0.size)
         have sz_1 := hb_1.size
         (try go_wp2_with (fail))
         refine hK.out _ _ ?_ (fun hHeld => ?_)
         ·exact ⟨rowCells hP3_1, rowCells hQ3_1⟩
         clear hK K
         (try simp only [zP, zA, zB, zC])
         refine tk 6 148 ?_
         (try simp only [zP, zA, zB, zC])
         refine tk 7 155 ?_
         (try simp only [zP, zA, zB, zC])
         refine tk 8 156 ?_
         (try simp only [zP, zA, zB, zC])
         refine wpAnyH_ready (rs := [9]) (by kernel_rfl) (by simp) ?_
         refine AllReadyH.cons rfl (fun K hK => ?_) AllReadyH.nil
         go_simp
         obtain ⟨w_2, hw_2, P_2, hb_2⟩ : ∃ W, w_1.alloc (.cells #[.int .i64 0, .int .i64 0, .int .i64 0, .int .i64 0, .int .i64 0, .int .i64 0, .int .i64 0, .int .i64 0, .int .i64 0] 100) = W ∧ W.heap[w_1.heap.size]? = some (.cells #[.int .i64 0, .int .i64 0, .int .i64 0, .int .i64 0, .int .i64 0, .int .i64 0, .int .i64 0, .int .i64 0, .int .i64 0] 100 (0, 0)) ∧ Below w_1.heap.size w_1 W := ⟨_, rfl, heap_alloc_new w_1 _, below1 w_1 _⟩
         try rw [hw_2]
         clear hw_2
         have hp_2 := bs_1.size
         have hP3_2 := keepHeap hb_2 hP3_1
         have hQ3_2 := keepHeap hb_2 hQ3_1
         have bs_2 := bs_1.trans (hb_2.mono bs_1.size)
         have sz_2 := hb_2.size
         refine hK.out _ _ ?_ (fun hHeld => ?_)
         ·exact ⟨rowCells hP3_2, rowCells hQ3_2⟩
         clear hK K
         (try simp only [zP, zA, zB, zC])
         refine wpAnyH_ready (rs := [10]) (by kernel_rfl) (by simp) ?_
         refine AllReadyH.cons rfl (fun K hK => ?_) AllReadyH.nil
         have cn := rowCells P_2
         have fn := fun j => frozenHeap P_2 j
         go_simp
         have P_3 := putB_heapT P_2 rfl MB MB.x MB.y MB.vx MB.vy
         have hpp : w3.heap.size ≤ w_1.heap.size := by have := hp_2; first | omega | (simp at this ⊢; omega) | (simp at this ⊢)
         have bs_3 := putB_below bs_2 (c := w_1.heap.size) hpp MB MB.x MB.y MB.vx MB.vy
         have hP3_3 := putB_far hP3_2 (c := w_1.heap.size) (by have := (Array.getElem?_eq_some_iff.1 hP3).1; omega) MB MB.x MB.y MB.vx MB.vy
         have hQ3_3 := putB_far hQ3_2 (c := w_1.heap.size) (by have := (Array.getElem?_eq_some_iff.1 hQ3).1; omega) MB MB.x MB.y MB.vx MB.vy
         obtain ⟨w_3, hw_3⟩ : ∃ W, putB w_2 (w_1.heap.size) MB MB.x MB.y MB.vx MB.vy = W := ⟨_, rfl⟩
         rw [hw_3] at P_3 bs_3 hP3_3 hQ3_3
         unfold putB at hw_3
         try rw [hw_3]
         clear hw_3 cn fn
         refine hK.out _ _ ?_ (fun hHeld => ?_)
         ·exact ⟨rowCells hP3_3, rowCells hQ3_3⟩
         clear hK K
         (try simp only [zP, zA, zB, zC])
         refine tk 11 12 ?_
         (try simp only [zP, zA, zB, zC])
         refine wpAnyH_done (by kernel_rfl) ?_ _
         go_wp2_with (fail)
         go_meet
         case rel => exact ⟨_, rfl, rfl, hpp, P_3, bs_3⟩
        ·go_simp
         obtain ⟨w_1, hw_1, P_1, hb_1⟩ : ∃ W, (w3.alloc (.cells #[.int .i64 0, .int .i64 0, .int .i64 0, .int .i64 0, .int .i64 0, .int .i64 0, .int .i64 0, .int .i64 0, .int .i64 0] 100)).drew = W ∧ W.heap[w3.heap.size]? = some (.cells #[.int .i64 0, .int .i64 0, .int .i64 0, .int .i64 0, .int .i64 0, .int .i64 0, .int .i64 0, .int .i64 0, .int .i64 0] 100 (0, 0)) ∧ Below w3.drew.heap.size w3.drew W := ⟨_, rfl, heap_alloc_new w3.drew _, below1 w3.drew _⟩
         try rw [hw_1]
         clear hw_1
         have hp_1 := bs_0.size
         have hP3_1 := keepHeap hb_1 hP3_0
         have hQ3_1 := keepHeap hb_1 hQ3_0
         have bs_1 := bs_0.trans (hb_1.mono bs_0.size)
         have sz_1 := hb_1.size
         refine hK.out _ _ ?_ (fun hHeld => ?_)
         ·exact ⟨rowCells hP3_1, rowCells hQ3_1⟩
         clear hK K
         (try simp only [zP, zA, zB, zC])
         refine wpAnyH_ready (rs := [5]) (by kernel_rfl) (by simp) ?_
         refine AllReadyH.cons rfl (fun K hK => ?_) AllReadyH.nil
         go_simp
         refine (hmv bs_1).mono ?_
         rintro e w_2 ⟨rfl, hb_2⟩
         have hP3_2 := keepHeap hb_2 hP3_1
         have hQ3_2 := keepHeap hb_2 hQ3_1
         have bs_2 := bs_1.trans (hb_2.mono bs_1.size)
         have sz_2 := hb_2.size
         have P_2 := keepHeap hb_2 P_1
         (try go_wp2_with (fail))
         refine hK.out _ _ ?_ (fun hHeld => ?_)
         ·exact ⟨rowCells hP3_2, rowCells hQ3_2⟩
         clear hK K
         (try simp only [zP, zA, zB, zC])
         refine tk 6 148 ?_
         (try simp only [zP, zA, zB, zC])
         refine tk 7 155 ?_
         (try simp only [zP, zA, zB, zC])
         refine tk 8 156 ?_
         (try simp only [zP, zA, zB, zC])
         refine wpAnyH_ready (rs := [10]) (by kernel_rfl) (by simp) ?_
         refine AllReadyH.cons rfl (fun K hK => ?_) AllReadyH.nil
         have cn := rowCells P_2
         have fn := fun j => frozenHeap P_2 j
         go_simp
         have P_3 := putB_heapT P_2 rfl MB MB.x MB.y MB.vx MB.vy
         have hpp : w3.heap.size ≤ w3.heap.size := by have := hp_1; first | omega | (simp at this ⊢; omega) | (simp at this ⊢)
         have bs_3 := putB_below bs_2 (c := w3.heap.size) hpp MB MB.x MB.y MB.vx MB.vy
         have hP3_3 := putB_far hP3_2 (c := w3.heap.size) (by have := (Array.getElem?_eq_some_iff.1 hP3).1; omega) MB MB.x MB.y MB.vx MB.vy
         have hQ3_3 := putB_far hQ3_2 (c := w3.heap.size) (by have := (Array.getElem?_eq_some_iff.1 hQ3).1; omega) MB MB.x MB.y MB.vx MB.vy
         obtain ⟨w_3, hw_3⟩ : ∃ W, putB w_2 (w3.heap.size) MB MB.x MB.y MB.vx MB.vy = W := ⟨_, rfl⟩
         rw [hw_3] at P_3 bs_3 hP3_3 hQ3_3
         unfold putB at hw_3
         try rw [hw_3]
         clear hw_3 cn fn
         refine hK.out _ _ ?_ (fun hHeld => ?_)
         ·exact ⟨rowCells hP3_3, rowCells hQ3_3⟩
         clear hK K
         (try simp only [zP, zA, zB, zC])
         refine tk 11 12 ?_
         (try simp only [zP, zA, zB, zC])
         refine wpAnyH_done (by kernel_rfl) ?_ _
         go_wp2_with (fail)
         go_meet
         case rel => exact ⟨_, rfl, rfl, hpp, P_3, bs_3⟩
       obtain ⟨q, rfl, rfl, hqr, hQ, hb4⟩ := hcut
       obtain ⟨w4, ew⟩ : ∃ w4, w4 = wc := ⟨_, rfl⟩
       subst ew
       have hb14 := hb13.trans (hb4.mono hb13.size)
       have hb34 := hb3.trans (hb4.mono hb3.size)
       have cQ3 := rowCells (keepHeap hb4 hQ3)
       have cQ4 := rowCells hQ
       clear hQ3 hP3
       have hba := below1 w4 (.cells #[.int .i64 MB.kind, .int .i64 MB.owner, .int .i64 MB.x, .int .i64 MB.y, .int .i64 MB.vx, .int .i64 MB.vy, .int .i64 MB.aim, .int .i64 MB.life, .int .i64 MB.timer] 100)
       obtain ⟨v7, w8, hra, ho8, hb8, -, -⟩ := HAP.out _ w4.heap.size MB (hb34.trans (hba.mono hb34.size)) (range_mk w4 MB _)
       have HN := Lib.hid (HNX.out HM.out ho8)
       have hbE := (hb14.trans (hba.mono hb14.size)).trans hb8
       clear ho8 hb8 hba hov
       go_wp2_with (at_builtin; refine Lib.wpList_append_run _ rfl _ _ _ _ rfl _ _ rfl rfl _ _ hra ?_)
       go_roundw
       case rel => exact ⟨j + 1, by omega, by go_num, HN.out, hbE⟩
       case measure => simp [intOf]; omega
     ·have hjn : ¬ j < n := fun e => by have := hfk.2 e; omega
      have hjni : ¬ (j : Int) < (n : Int) := by omega
      have z1 : ((b.kind : Int) == 2) = false := by simp; omega
      have z3 : ((b.kind : Int) == 1) = true := by simpa using hk1
      obtain ⟨-, -, ht1, ht2⟩ := kind1_facts hk1 p5
      have HM : Hid (mvB x.rows b = if MT || decide (b.timer - 1 ≤ 0) then none else some ⟨MB.kind, MB.owner, MB.x, MB.y, MB.vx, MB.vy, MB.aim, MB.life, MB.timer - 1⟩) := Lib.hid (by unfold mvB; rw [if_neg (by omega), if_pos hk1, hMB, hMT]; rfl)
      have HTM : Hid (MB.timer = b.timer) := Lib.hid (by rw [hMB]; rfl)
      have ht3 : 1 ≤ MB.timer ∧ MB.timer ≤ 25 := by rw [HTM.out]; exact ⟨ht1, ht2⟩
      obtain ⟨ht4, ht5⟩ := ht3
      clear hk1
      obtain ⟨S, HS⟩ : ∃ S : Nat, sizeI b.kind = (S : Int) := Int.eq_ofNat_of_zero_le (sizeI_range _).1
      have hS := size_kind p0
      rw [HS] at p2 hS
      have hmv : ∀ {W : World}, Below w3.heap.size w3 W → Calls Tryz.prog 220 #[.agg #[.slice al x.rows.length cl], .agg #[.int .i64 b.kind, .int .i64 b.owner, .int .i64 b.x, .int .i64 b.y, .int .i64 b.vx, .int .i64 b.vy, .int .i64 b.aim, .int .i64 b.life, .int .i64 b.timer]] W fun e w' => e = .returned (.tuple #[.agg #[.int .i64 MB.kind, .int .i64 MB.owner, .int .i64 MB.x, .int .i64 MB.y, .int .i64 MB.vx, .int .i64 MB.vy, .int .i64 MB.aim, .int .i64 MB.life, .int .i64 MB.timer], .bool MT]) ∧ Below W.heap.size W w' := fun {W} hb => by
       have h1 : RdS W (.slice al x.rows.length cl) y.rows := (HBA.out.keep (hb13.trans (hb.mono hb13.size)) hTA).rd.1
       rw [HYR.out] at h1
       have := move_spec h1 hgL b S HS (by omega) (by omega) p2 ((inR_iff _ _ _).1 p3) ((inR_iff _ _ _).1 p4)
       rw [← hMB, ← hMT] at this
       exact this
      have HMB := Lib.hid hMB
      have HMT := Lib.hid hMT
      clear hMB hMT HS hS p0 p1 p2 p3 p4 p5 hfk hfit
      go_upto_region 19 with (fail)
      clear cQ3
      go_cut [11, 12] from 148 to 156 (fun q tt wq => ∃ q' : Nat, q = .pointer (some ⟨q', 0, none⟩) ∧ tt = .bool MT ∧ w3.heap.size ≤ q' ∧ wq.heap[q']? = some (.cells #[.int .i64 MB.kind, .int .i64 MB.owner, .int .i64 MB.x, .int .i64 MB.y, .int .i64 MB.vx, .int .i64 MB.vy, .int .i64 MB.aim, .int .i64 MB.life, .int .i64 MB.timer] 100 (0, 0)) ∧ Below w3.heap.size w3 wq)
      case first =>
       have bs_0 : Below w3.heap.size w3 w3.drew := belowDrew w3 1
       have hP3_0 : w3.drew.heap[p]? = _ := hP3
       have hQ3_0 : w3.drew.heap[wr.heap.size]? = _ := hQ3
       refine wp_region_held_drew (S := (fun w' => (∀ j, w'.cell? ⟨p, j, none⟩ = #[Value.slice al x.rows.length cl, .int .i64 y.tick, .int .i64 y.seed, .slice aq x.scores.length cq, .slice (some ⟨g, 0, none⟩) N cap][j]?) ∧ (∀ j, w'.cell? ⟨wr.heap.size, j, none⟩ = #[Value.int .i64 b.kind, .int .i64 b.owner, .int .i64 b.x, .int .i64 b.y, .int .i64 b.vx, .int .i64 b.vy, .int .i64 b.aim, .int .i64 b.life, .int .i64 b.timer][j]?))) (by kernel_rfl) ?_ (fun hHeld => ?_)
       ·exact ⟨rowCells hP3_0, rowCells hQ3_0⟩
       refine tk 0 149 ?_
       (try simp only [zP, zA, zB, zC])
       refine tk 1 150 ?_
       (try simp only [zP, zA, zB, zC])
       refine tk 2 151 ?_
       (try simp only [zP, zA, zB, zC])
       refine tk 3 152 ?_
       (try simp only [zP, zA, zB, zC])
       refine tk 4 153 ?_
       (try simp only [zP, zA, zB, zC])
       refine wpAnyH_ready (rs := [5, 9]) (by kernel_rfl) (by simp) ?_
       refine AllReadyH.cons rfl (fun K hK => ?_) (AllReadyH.cons rfl (fun K hK => ?_) AllReadyH.nil)
       ·go_simp
        refine (hmv bs_0).mono ?_
        rintro e w_1 ⟨rfl, hb_1⟩
        have hP3_1 := keepHeap hb_1 hP3_0
        have hQ3_1 := keepHeap hb_1 hQ3_0
        have bs_1 := bs_0.trans (hb_1.mono bs_0.size)
        have sz_1 := hb_1.size
        (try go_wp2_with (fail))
        refine hK.out _ _ ?_ (fun hHeld => ?_)
        ·exact ⟨rowCells hP3_1, rowCells hQ3_1⟩
        clear hK K
        (try simp only [zP, zA, zB, zC])
        refine tk 6 148 ?_
        (try simp only [zP, zA, zB, zC])
        refine tk 7 155 ?_
        (try simp only [zP, zA, zB, zC])
        refine tk 8 156 ?_
        (try simp only [zP, zA, zB, zC])
        refine wpAnyH_ready (rs := [9]) (by kernel_rfl) (by simp) ?_
        refine AllReadyH.cons rfl (fun K hK => ?_) AllReadyH.nil
        go_simp
        obtain ⟨w_2, hw_2, P_2, hb_2⟩ : ∃ W, w_1.alloc (.cells #[.int .i64 0, .int .i64 0, .int .i64 0, .int .i64 0, .int .i64 0, .int .i64 0, .int .i64 0, .int .i64 0, .int .i64 0] 100) = W ∧ W.heap[w_1.heap.size]? = some (.cells #[.int .i64 0, .int .i64 0, .int .i64 0, .int .i64 0, .int .i64 0, .int .i64 0, .int .i64 0, .int .i64 0, .int .i64 0] 100 (0, 0)) ∧ Below w_1.heap.size w_1 W := ⟨_, rfl, heap_alloc_new w_1 _, below1 w_1 _⟩
        try rw [hw_2]
        clear hw_2
        have hp_2 := bs_1.size
        have hP3_2 := keepHeap hb_2 hP3_1
        have hQ3_2 := keepHeap hb_2 hQ3_1
        have bs_2 := bs_1.trans (hb_2.mono bs_1.size)
        have sz_2 := hb_2.size
        refine hK.out _ _ ?_ (fun hHeld => ?_)
        ·exact ⟨rowCells hP3_2, rowCells hQ3_2⟩
        clear hK K
        (try simp only [zP, zA, zB, zC])
        refine wpAnyH_ready (rs := [10]) (by kernel_rfl) (by simp) ?_
        refine AllReadyH.cons rfl (fun K hK => ?_) AllReadyH.nil
        have cn := rowCells P_2
        have fn := fun j => frozenHeap P_2 j
        go_simp
        have P_3 := putB_heapT P_2 rfl MB MB.x MB.y MB.vx MB.vy
        have hpp : w3.heap.size ≤ w_1.heap.size := by have := hp_2; first | omega | (simp at this ⊢; omega) | (simp at this ⊢)
        have bs_3 := putB_below bs_2 (c := w_1.heap.size) hpp MB MB.x MB.y MB.vx MB.vy
        have hP3_3 := putB_far hP3_2 (c := w_1.heap.size) (by have := (Array.getElem?_eq_some_iff.1 hP3).1; omega) MB MB.x MB.y MB.vx MB.vy
        have hQ3_3 := putB_far hQ3_2 (c := w_1.heap.size) (by have := (Array.getElem?_eq_some_iff.1 hQ3).1; omega) MB MB.x MB.y MB.vx MB.vy
        obtain ⟨w_3, hw_3⟩ : ∃ W, putB w_2 (w_1.heap.size) MB MB.x MB.y MB.vx MB.vy = W := ⟨_, rfl⟩
        rw [hw_3] at P_3 bs_3 hP3_3 hQ3_3
        unfold putB at hw_3
        try rw [hw_3]
        clear hw_3 cn fn
        refine hK.out _ _ ?_ (fun hHeld => ?_)
        ·exact ⟨rowCells hP3_3, rowCells hQ3_3⟩
        clear hK K
        (try simp only [zP, zA, zB, zC])
        refine tk 11 12 ?_
        (try simp only [zP, zA, zB, zC])
        refine wpAnyH_done (by kernel_rfl) ?_ _
        go_wp2_with (fail)
        go_meet
        case rel => exact ⟨_, rfl, rfl, hpp, P_3, bs_3⟩
       ·go_simp
        obtain ⟨w_1, hw_1, P_1, hb_1⟩ : ∃ W, (w3.alloc (.cells #[.int .i64 0, .int .i64 0, .int .i64 0, .int .i64 0, .int .i64 0, .int .i64 0, .int .i64 0, .int .i64 0, .int .i64 0] 100)).drew = W ∧ W.heap[w3.heap.size]? = some (.cells #[.int .i64 0, .int .i64 0, .int .i64 0, .int .i64 0, .int .i64 0, .int .i64 0, .int .i64 0, .int .i64 0, .int .i64 0] 100 (0, 0)) ∧ Below w3.drew.heap.size w3.drew W := ⟨_, rfl, heap_alloc_new w3.drew _, below1 w3.drew _⟩
        try rw [hw_1]
        clear hw_1
        have hp_1 := bs_0.size
        have hP3_1 := keepHeap hb_1 hP3_0
        have hQ3_1 := keepHeap hb_1 hQ3_0
        have bs_1 := bs_0.trans (hb_1.mono bs_0.size)
        have sz_1 := hb_1.size
        refine hK.out _ _ ?_ (fun hHeld => ?_)
        ·exact ⟨rowCells hP3_1, rowCells hQ3_1⟩
        clear hK K
        (try simp only [zP, zA, zB, zC])
        refine wpAnyH_ready (rs := [5]) (by kernel_rfl) (by simp) ?_
        refine AllReadyH.cons rfl (fun K hK => ?_) AllReadyH.nil
        go_simp
        refine (hmv bs_1).mono ?_
        rintro e w_2 ⟨rfl, hb_2⟩
        have hP3_2 := keepHeap hb_2 hP3_1
        have hQ3_2 := keepHeap hb_2 hQ3_1
        have bs_2 := bs_1.trans (hb_2.mono bs_1.size)
        have sz_2 := hb_2.size
        have P_2 := keepHeap hb_2 P_1
        (try go_wp2_with (fail))
        refine hK.out _ _ ?_ (fun hHeld => ?_)
        ·exact ⟨rowCells hP3_2, rowCells hQ3_2⟩
        clear hK K
        (try simp only [zP, zA, zB, zC])
        refine tk 6 148 ?_
        (try simp only [zP, zA, zB, zC])
        refine tk 7 155 ?_
        (try simp only [zP, zA, zB, zC])
        refine tk 8 156 ?_
        (try simp only [zP, zA, zB, zC])
        refine wpAnyH_ready (rs := [10]) (by kernel_rfl) (by simp) ?_
        refine AllReadyH.cons rfl (fun K hK => ?_) AllReadyH.nil
        have cn := rowCells P_2
        have fn := fun j => frozenHeap P_2 j
        go_simp
        have P_3 := putB_heapT P_2 rfl MB MB.x MB.y MB.vx MB.vy
        have hpp : w3.heap.size ≤ w3.heap.size := by have := hp_1; first | omega | (simp at this ⊢; omega) | (simp at this ⊢)
        have bs_3 := putB_below bs_2 (c := w3.heap.size) hpp MB MB.x MB.y MB.vx MB.vy
        have hP3_3 := putB_far hP3_2 (c := w3.heap.size) (by have := (Array.getElem?_eq_some_iff.1 hP3).1; omega) MB MB.x MB.y MB.vx MB.vy
        have hQ3_3 := putB_far hQ3_2 (c := w3.heap.size) (by have := (Array.getElem?_eq_some_iff.1 hQ3).1; omega) MB MB.x MB.y MB.vx MB.vy
        obtain ⟨w_3, hw_3⟩ : ∃ W, putB w_2 (w3.heap.size) MB MB.x MB.y MB.vx MB.vy = W := ⟨_, rfl⟩
        rw [hw_3] at P_3 bs_3 hP3_3 hQ3_3
        unfold putB at hw_3
        try rw [hw_3]
        clear hw_3 cn fn
        refine hK.out _ _ ?_ (fun hHeld => ?_)
        ·exact ⟨rowCells hP3_3, rowCells hQ3_3⟩
        clear hK K
        (try simp only [zP, zA, zB, zC])
        refine tk 11 12 ?_
        (try simp only [zP, zA, zB, zC])
        refine wpAnyH_done (by kernel_rfl) ?_ _
        go_wp2_with (fail)
        go_meet
        case rel => exact ⟨_, rfl, rfl, hpp, P_3, bs_3⟩
      obtain ⟨q, rfl, rfl, hqr, hQ, hb4⟩ := hcut
      obtain ⟨w4, ew⟩ : ∃ w4, w4 = wc := ⟨_, rfl⟩
      subst ew
      have hb14 := hb13.trans (hb4.mono hb13.size)
      have hb34 := hb3.trans (hb4.mono hb3.size)
      have cQ3 := rowCells (keepHeap hb4 hQ3)
      have cQ4 := rowCells hQ
      have fQ4 := fun j => frozenHeap hQ j
      clear hQ3 hP3
      have hqw : wr.heap.size ≤ q := by omega
      have hb5 : Below wr.heap.size wr (w4.setCell ⟨q, 8, none⟩ (.int .i64 (MB.timer - 1))) := hb34.setCell (p := ⟨q, 8, none⟩) hqw _
      have hb15 : Below wA.heap.size wA (w4.setCell ⟨q, 8, none⟩ (.int .i64 (MB.timer - 1))) := hb14.setCell (p := ⟨q, 8, none⟩) (by show wA.heap.size ≤ q; omega) _
      have hQ5 := setH (k := 8) (v := .int .i64 (MB.timer - 1)) hQ
      have ht6 : -9223372036854775808 ≤ MB.timer - 1 := by omega
      go_upto_region 22 with (fail)
      obtain ⟨w5, hw5⟩ : ∃ W, w4.setCell ⟨q, 8, none⟩ (.int .i64 (MB.timer - 1)) = W := ⟨_, rfl⟩
      rw [hw5] at hb5 hb15 hQ5 ⊢
      have hQ5 : w5.heap[q]? = some (.cells #[.int .i64 MB.kind, .int .i64 MB.owner, .int .i64 MB.x, .int .i64 MB.y, .int .i64 MB.vx, .int .i64 MB.vy, .int .i64 MB.aim, .int .i64 MB.life, .int .i64 (MB.timer - 1)] 100 (0, 0)) := hQ5
      have cQ5 := rowCells hQ5
      clear cQ3 cQ4 fQ4 hw5 hQ hmv
      cases MT with
      | true =>
       have HMN : Hid (mvB x.rows b = none) := Lib.hid (by rw [HM.out]; rfl)
       have HN : Hid (OwnRB w5 wA.heap.size u8 (mvL x.rows (y.bods.take (j + 1)))) := Lib.hid (by rw [HNO.out HMN.out]; exact hov.keep hb5 (Nat.le_refl _))
       clear hov
       go_wp2_with (fail)
       go_roundw
       case rel => exact ⟨j + 1, by omega, by go_num, HN.out, hb15⟩
       case measure => simp [intOf]; omega
      | false =>
       by_cases hz : MB.timer - 1 = 0
       ·have z4 : ((MB.timer - 1 : Int) == 0) = true := by simpa using hz
        have HMN : Hid (mvB x.rows b = none) := Lib.hid (by rw [HM.out, ← HTM.out, decide_eq_true (by omega)]; rfl)
        have HN : Hid (OwnRB w5 wA.heap.size u8 (mvL x.rows (y.bods.take (j + 1)))) := Lib.hid (by rw [HNO.out HMN.out]; exact hov.keep hb5 (Nat.le_refl _))
        clear hov hz
        go_wp2_with (fail)
        go_roundw
        case rel => exact ⟨j + 1, by omega, by go_num, HN.out, hb15⟩
        case measure => simp [intOf]; omega
       ·have z4 : ((MB.timer - 1 : Int) == 0) = false := by simpa using hz
        obtain ⟨c5, hc5⟩ : ∃ c, c = (⟨MB.kind, MB.owner, MB.x, MB.y, MB.vx, MB.vy, MB.aim, MB.life, MB.timer - 1⟩ : Bd) := ⟨_, rfl⟩
        have HMN : Hid (mvB x.rows b = some c5) := Lib.hid (by rw [HM.out, ← HTM.out, decide_eq_false (by omega), hc5]; rfl)
        have hba := below1 w5 (.cells #[.int .i64 c5.kind, .int .i64 c5.owner, .int .i64 c5.x, .int .i64 c5.y, .int .i64 c5.vx, .int .i64 c5.vy, .int .i64 c5.aim, .int .i64 c5.life, .int .i64 c5.timer] 100)
        obtain ⟨v7, w8, hra, ho8, hb8, -, -⟩ := HAP.out _ w5.heap.size c5 (hb5.trans (hba.mono hb5.size)) (range_mk w5 c5 _)
        have HN := Lib.hid (HNX.out HMN.out ho8)
        have hbE := (hb15.trans (hba.mono hb15.size)).trans hb8
        rw [hc5] at hra
        clear ho8 hb8 hba hov hz hc5
        go_wp2_with (at_builtin; refine Lib.wpList_append_run _ rfl _ _ _ _ rfl _ _ rfl rfl _ _ hra ?_)
        go_roundw
        case rel => exact ⟨j + 1, by omega, by go_num, HN.out, hbE⟩
        case measure => simp [intOf]; omega
     ·have z1 : ((b.kind : Int) == 2) = true := by simpa using hk2
      have HM : Hid (mvB x.rows b = some b) := Lib.hid (by unfold mvB; rw [if_neg (by omega), if_neg (by omega)])
      clear hk2 p0 p1 p2 p3 p4 p5 hMB hMT hfk hfit
      have hba := below1 w3 (.cells #[.int .i64 b.kind, .int .i64 b.owner, .int .i64 b.x, .int .i64 b.y, .int .i64 b.vx, .int .i64 b.vy, .int .i64 b.aim, .int .i64 b.life, .int .i64 b.timer] 100)
      obtain ⟨v7, w8, hra, ho8, hb8, -, -⟩ := HAP.out _ w3.heap.size b (hb3.trans (hba.mono hb3.size)) (range_mk w3 b _)
      have HN := Lib.hid (HNX.out HM.out ho8)
      have hbE := (hb13.trans (hba.mono hb13.size)).trans hb8
      clear ho8 hb8 hba hov hP3
      go_wp2_with (at_builtin; refine Lib.wpList_append_run _ rfl _ _ _ _ rfl _ _ rfl rfl _ _ hra ?_)
      go_roundw
      case rel => exact ⟨j + 1, by omega, by go_num, HN.out, hbE⟩
      case measure => simp [intOf]; omega
    ·have hje : j = N := by omega
     have hnl : ¬ (j : Int) < (N : Int) := by omega
     have e1 : y.bods.take j = y.bods := List.take_of_length_le (by have := HNY.out; omega)
     rw [e1] at hov
     clear e1 hje
     have hF2 := moveXW_fine HFY.out
     have hMX : moveXW y = ⟨y.rows, y.tick, y.seed, y.scores, mvL x.rows y.bods⟩ := by unfold moveXW; rw [HYR.out]
     have hml : 0 < (mvL x.rows y.bods).length := by
      have h1 := hF2.2.1.1
      have h2 := hF2.2.2.2.1
      rw [hMX] at h1 h2
      exact Nat.lt_of_lt_of_le h1 h2
     have hBr := HBA.out.keep hbv hTA
     have h4 := hBr.rows4 rfl (Below.refl _ _) hBr.2.2.2.1 (v5 := u8) (X := mvL x.rows y.bods) ⟨hov.1, by
      rcases hov.2 with e | ⟨g', cap', cur, e, hB, rest⟩
      ·exact .inl e
      ·exact .inr ⟨g', cap', cur, e, by omega, rest⟩⟩
     have h4 := bxOf h4 hMX.symm
     have hsA := HFA.out.size
     have hF4 := (HFA.out.trans (FrW.below hbv hTA) rfl HOA.out).trans (frP (w := wr) hBr.2.1 (.slice aq x.scores.length cq) (.slice (some ⟨g, 0, none⟩) N cap) 4 u8) rfl HOA.out
     have hOT : OwnTo w.heap.size vb u8 := fun k hk => .inr (by have := (World.ownsRow.lt hov k hk).1; omega)
     obtain ⟨g3, cap3, e3, -, -, -⟩ := hov.shape hml
     generalize (mvL x.rows y.bods).length = M at e3
     clear hov hml hMX hBr
     subst e3
     have cPr := rowCells hPr
     have fPr := fun k => frozenHeap hPr k
     go_upto_region 25 with (fail)
     obtain ⟨W4, hW4⟩ : ∃ W4, W4 = wr.setCell ⟨p, 4, none⟩ (.slice (some ⟨g3, 0, none⟩) M cap3) := ⟨_, rfl⟩
     rw [← hW4] at h4 hF4 ⊢
     have hits := hits_spec h4 hF2
     obtain ⟨hF3, hl3⟩ := meetX_fine hF2 1
     obtain ⟨hFz, hlz⟩ := meetX_fine hF3 2
     have hSV : stepV x row = timeX (meetX 2 (meetX 1 (moveXW y))) := HSV.out
     have hzr : (meetX 2 (meetX 1 (moveXW y))).rows = x.rows := HYR.out
     have hzt : (meetX 2 (meetX 1 (moveXW y))).tick = x.tick := HYT.out
     have hzs : (meetX 2 (meetX 1 (moveXW y))).seed = x.seed := HYS.out
     have hzn : (meetX 2 (meetX 1 (moveXW y))).scores.length = n := by rw [hlz, hl3]; exact HYN.out
     generalize meetX 2 (meetX 1 (moveXW y)) = z at *
     have HSZ := Lib.hid hSV
     have HFZ := Lib.hid hFz
     have HZR := Lib.hid hzr
     have HZT := Lib.hid hzt
     have HZS := Lib.hid hzs
     have HZN := Lib.hid hzn
     clear hSV hFz hzr hzt hzs hzn hl3 hlz hF3 hF2 hW4 h4 cPr fPr hPr hPA HBA HFA HOA hFi1 HYR HYT HYS HYN HSV hbv hnl HST HR0
     go_upto_region 26 with (go_at_call 221; refine hits.mono ?_; rintro e w5 ⟨rfl, vs5, vb5, h5, hF5, hs5, ho5⟩)
     have hF05 := hF4.trans hF5 rfl hOT
     have hO05 := hOT.trans ho5 hF4.size
     clear hF4 hF5 hOT ho5 hits
     obtain ⟨hLz, hnz, -, hFiz⟩ := HFZ.out
     obtain ⟨as5, cs5, e5, -⟩ := id h5.rd.2.1
     subst e5
     obtain ⟨g5, cap5, e5, hTg5, hgw5, hcap5⟩ := h5.2.2.2.2.shape (by have := hFiz.1; omega)
     subst e5
     have hT5 := Nat.le_of_lt h5.low
     obtain ⟨N5, hN5⟩ : ∃ N5, N5 = z.bods.length := ⟨_, rfl⟩
     have hN24' : N5 ≤ 24 := by rw [hN5]; exact hFiz.2.1
     have hnN5 : n ≤ N5 := by rw [hN5, ← HZN.out]; exact hFiz.1
     rw [HZN.out] at hFiz
     rw [← hN5] at h5 hO05 hcap5
     have HNZ := Lib.hid hN5
     have hN5i : (N5 : Int) ≤ 24 := by omega
     have hTM : timeX z = if (x.tick + 1) % 16 = 0 ∧ N5 < 24 then brX ⟨z.rows, x.tick + 1, nextR x.seed, z.scores, z.bods⟩ else ⟨z.rows, x.tick + 1, nextR x.seed, z.scores, z.bods⟩ := by
      unfold timeX brX; rw [HZT.out, HZS.out, ← hN5]
     have HTMZ := Lib.hid hTM
     have h6 := h5.num (y := ⟨z.rows, x.tick + 1, z.seed, z.scores, z.bods⟩) 1 (.int .i64 (x.tick + 1)) rfl rfl rfl rfl
     have h7 := h6.num (y := ⟨z.rows, x.tick + 1, nextR x.seed, z.scores, z.bods⟩) 2 (.int .i64 (nextR x.seed)) rfl rfl rfl rfl
     have hF7 := (frP (w := w5) h5.2.1 (.slice as5 z.scores.length cs5) (.slice (some ⟨g5, 0, none⟩) N5 cap5) 1 (.int .i64 (x.tick + 1))).trans (frP (w := w5.setCell ⟨p, 1, none⟩ (.int .i64 (x.tick + 1))) h5.2.1 (.slice as5 z.scores.length cs5) (.slice (some ⟨g5, 0, none⟩) N5 cap5) 2 (.int .i64 (nextR x.seed))) rfl (OwnTo.refl _ _)
     have hP5 := h5.1
     unfold wdC at hP5
     rw [HZT.out, HZS.out] at hP5
     have cP5 := rowCells hP5
     have fP5 := fun j => frozenHeap hP5 j
     have hnx := fun W => next_spec x.seed W
     have hnr := nextR_bd x.seed
     obtain ⟨s1, hs1⟩ : ∃ s1, s1 = nextR x.seed := ⟨_, rfl⟩
     rw [← hs1] at h7 hF7 HTMZ hnr
     simp only [← hs1] at hnx
     obtain ⟨ht0, ht1⟩ := HTK.out
     have hti : x.tick + 1 ≤ 9223372036854775807 := by omega
     clear hs1 hTM hN5 h6 hnN
     go_upto_region 28 with (go_at_call 222; refine (hnx _).mono ?_; rintro e w6 ⟨rfl, rfl⟩)
     obtain ⟨w7, hw7⟩ : ∃ w7, (w5.setCell ⟨p, 1, none⟩ (.int .i64 (x.tick + 1))).setCell ⟨p, 2, none⟩ (.int .i64 s1) = w7 := ⟨_, rfl⟩
     rw [hw7] at h7 hF7 ⊢
     clear hw7 cP5 fP5 hP5 h5
     have hT7 := Nat.le_of_lt h7.low
     have hlv : RdS w7 (.slice al x.rows.length cl) z.rows := h7.rd.1
     have hgz := levelB_facts hLz
     have hsp := spL_good hgz
     have hspo := spotsOf_spec hlv (by rw [HZR.out]; exact HSN.out)
     rw [show spotsP z.rows = spL z.rows 0 by unfold spotsP; rw [if_pos hLz]] at hspo
     have hP7 := h7.1
     unfold wdC at hP7
     dsimp only at hP7
     have cP7 := rowCells hP7
     have HS5 := Lib.hid hs5
     have HO5 := Lib.hid hO05
     clear hs5 hO05
     go_upto_region 29 with (go_at_call 223; refine hspo.mono ?_; rintro e w8 ⟨v3, rfl, hv3, hb8⟩; obtain ⟨av, cv, rfl⟩ := hv3.len)
     have h8 := h7.keep hb8 hT7
     have hF8 := hF7.trans (FrW.below (vs := .slice as5 z.scores.length cs5) (vb := .slice (some ⟨g5, 0, none⟩) N5 cap5) (p := p) hb8 hT7) rfl (OwnTo.refl _ _)
     have hF08 := hF05.trans hF8 HS5.out HO5.out
     have hP8 := keepHeap hb8 hP7
     have cP8 := rowCells hP8
     have hT8 := Nat.le_of_lt h8.low
     obtain ⟨np, hnp⟩ : ∃ np, np = (spL z.rows 0).length := ⟨_, rfl⟩
     have hnpi : (np : Int) ≤ 240 := by omega
     rw [← hnp]
     have HBR : Hid (spL z.rows 0 = [] → brX ⟨z.rows, x.tick + 1, s1, z.scores, z.bods⟩ = ⟨z.rows, x.tick + 1, s1, z.scores, z.bods⟩) := Lib.hid (fun e => by unfold brX bring; rw [if_pos e])
     have hpos : 0 ≤ x.tick + 1 := by omega
     have H8 := Lib.hid h8
     have HF8 := Lib.hid hF08
     have hTp := h8.2.1
     clear cP7 hP7 hlv hspo hF7 hF8 hF05 h7 h8 hF08 hLz
     by_cases h16 : (x.tick + 1) % 16 = 0
     ·have z1 : (((x.tick + 1) % 16 : Int) == 0) = true := by simpa using h16
      by_cases hps : spL z.rows 0 = []
      ·have hn0 : np = 0 := by rw [hnp, hps]; rfl
       have z2 : ((np : Int) == 0) = true := by rw [hn0]; rfl
       have HE : Hid (stepV x row = ⟨z.rows, x.tick + 1, s1, z.scores, z.bods⟩) := Lib.hid (by
        rw [HSZ.out, HTMZ.out]
        split
        ·exact HBR.out hps
        ·rfl)
       clear hn0 hnp hps
       go_wp2_with (fail)
       refine bodyPost_ret (v := .tuple #[]) (by simp [results, Tryz.results161]) rfl ⟨rfl, _, _, bxOf H8.out HE.out.symm, HF8.out, HS5.out, HO5.out⟩
      ·have hpl : 0 < (spL z.rows 0).length := List.length_pos_iff.2 hps
       have z2 : ((np : Int) == 0) = false := by simp; omega
       by_cases h24 : N5 < 24
       ·have z3 : decide ((24 : Int) ≤ (N5 : Int)) = false := by simp; omega
        have HE0 : Hid (stepV x row = brX ⟨z.rows, x.tick + 1, s1, z.scores, z.bods⟩) := Lib.hid (by rw [HSZ.out, HTMZ.out, if_pos ⟨h16, h24⟩])
        obtain ⟨hr1, hr2, hr3, hr4⟩ := belowR_in (s := s1) (n := ((spL z.rows 0).length : Int)) (by omega)
        have hbl := fun W => below_spec s1 ((spL z.rows 0).length : Int) W
        have HX : Hid (brX ⟨z.rows, x.tick + 1, s1, z.scores, z.bods⟩ = ⟨z.rows, x.tick + 1, (belowR s1 (spL z.rows 0).length).1, z.scores, if lies ((spL z.rows 0).getD (belowR s1 (spL z.rows 0).length).2.toNat (0, 0)) z.bods then z.bods else z.bods ++ [itemB ((spL z.rows 0).getD (belowR s1 (spL z.rows 0).length).2.toNat (0, 0))]⟩) := Lib.hid (by unfold brX bring; rw [if_neg hps])
        have hmem := spot_pick hps s1
        obtain ⟨-, hq1, hq2, hq3, hq4⟩ := spot_free hgz hmem
        generalize belowR s1 ((spL z.rows 0).length : Int) = r at *
        obtain ⟨s2, nb⟩ := r
        dsimp only at hr1 hr2 hr3 hr4 hbl HX hmem hq1 hq2 hq3 hq4
        obtain ⟨i, rfl⟩ := Int.eq_ofNat_of_zero_le hr1
        rw [Int.toNat_natCast] at HX hmem hq1 hq2 hq3 hq4
        have hil : i < (spL z.rows 0).length := by omega
        obtain ⟨gp, cp, bp, cur, e0, hgp, hcur, hbp⟩ := hv3.at hil
        obtain ⟨rfl, -, rfl⟩ := Value.slice.inj e0
        have epi : (spL z.rows 0).getD i (0, 0) = (spL z.rows 0)[i] := by rw [List.getD_eq_getElem?_getD, List.getElem?_eq_getElem hil]; rfl
        rw [epi] at HX hq1 hq2 hq3 hq4
        generalize (spL z.rows 0)[i] = pt at *
        obtain ⟨px, py⟩ := pt
        dsimp only at hbp hq1 hq2 hq3 hq4
        rw [← hnp] at hbl hr2 hsp hil
        have hgpp : p ≠ gp := fun e => by
         have h1 := hP8; rw [e, hgp] at h1
         exact absurd (Obj.cells.inj (Option.some.inj h1)).2.1 (by decide)
        have hbpp : p ≠ bp := fun e => by
         have h1 := hP8; rw [e, hbp] at h1
         exact absurd (Obj.cells.inj (Option.some.inj h1)).2.1 (by decide)
        have hgpg : gp ≠ g5 := fun e => H8.out.2.2.2.2.notBox hgp (by decide) (by rw [e]; rfl)
        have hbpg : bp ≠ g5 := fun e => H8.out.2.2.2.2.notBox hbp (by decide) (by rw [e]; rfl)
        have hii : (i : Int) < (np : Int) := by omega
        have hNi : (N5 : Int) < 24 := by omega
        clear e0 epi hps hnp hmem hv3 hr1 hpl hr2
        go_upto_region 32 with (go_at_call 224; refine (hbl _).mono ?_; rintro e w9 ⟨rfl, k9, hw9⟩; have hb9 : Below w8.heap.size w8 w9 := (by rw [hw9]; exact belowDrew w8 k9); clear hw9; have hP9 := keepHeap hb9 hP8; have cP9 := rowCells hP9; have fP9 := fun j => frozenHeap hP9 j)
        have hxB := (H8.out.keep hb9 hT8).num (y := ⟨z.rows, x.tick + 1, s2, z.scores, z.bods⟩) 2 (.int .i64 s2) rfl rfl rfl rfl
        have hFB := (HF8.out.trans (FrW.below (vs := .slice as5 z.scores.length cs5) (vb := .slice (some ⟨g5, 0, none⟩) N5 cap5) (p := p) hb9 hT8) HS5.out HO5.out).trans (frP (w := w9) hTp (.slice as5 z.scores.length cs5) (.slice (some ⟨g5, 0, none⟩) N5 cap5) 2 (.int .i64 s2)) HS5.out HO5.out
        have hGB := farHeap (p := ⟨p, 2, none⟩) (keepHeap hb9 hgp) (by show gp ≠ p; exact hgpp.symm) (.int .i64 s2)
        have hDB := farHeap (p := ⟨p, 2, none⟩) (keepHeap hb9 hbp) (by show bp ≠ p; exact hbpp.symm) (.int .i64 s2)
        obtain ⟨wB, hwB⟩ : ∃ wB, w9.setCell ⟨p, 2, none⟩ (.int .i64 s2) = wB := ⟨_, rfl⟩
        rw [hwB] at hxB hFB hGB hDB ⊢
        have hTB := Nat.le_of_lt hxB.low
        have hPB := hxB.1
        unfold wdC at hPB
        dsimp only at hPB
        have cPB := rowCells hPB
        have cG : ∀ {W : World}, W.heap[gp]? = some (.cells cur 27 (0, 0)) → W.cell? ⟨gp, i, none⟩ = some (.slice (some ⟨bp, 0, none⟩) 2 2) := fun hW => by rw [Lib.cell_of_heap hW]; exact hcur
        have HFB := Lib.hid hFB
        have HXB := Lib.hid hxB
        have HL0 : Hid (lies (px, py) (z.bods.take n) = false) := Lib.hid (lies_players fun k hk hkn => (hFiz.2.2 k hk).2.1.2 hkn)
        have hnN : n ≤ N5 := hnN5
        have hbB0 := Below.refl wB.heap.size wB
        clear hwB cP8 hP8 cP9 fP9 hP9 hb9 hgp hbp hbl hxB hFB
        go_wp2_with (fail)
        clear cPB
        go_loopw [16] (fun i wr => ∃ k : Nat, n ≤ k ∧ k ≤ N5 ∧ i = .int .i64 (k : Int) ∧ lies (px, py) (z.bods.take k) = false ∧ Below wB.heap.size wB wr) (fun i _ => N5 - (intOf i).toNat)
        case atStart => exact ⟨n, Nat.le_refl _, hnN, rfl, HL0.out, hbB0⟩
        case round =>
         obtain ⟨k, hnk, hk, rfl, hnh, hbel⟩ := hrel
         have hPr := keepHeap hbel hPB
         have hGr := keepHeap hbel hGB
         have hDr := keepHeap hbel hDB
         have hxr := HXB.out.keep hbel hTB
         by_cases hkN : k < N5
         ·have hkx : k < z.bods.length := by rw [← HNZ.out]; exact hkN
          obtain ⟨cu5, hBo, rG⟩ := hxr.2.2.2.2.heapAt hkx
          have rG : ∀ {W : World}, W.heap[g5]? = some (.cells cu5 100 (0, 0)) → W.rangeAt g5 (k * 9) (bdL z.bods[k]) := fun hW => (rG hW).1
          have HN : Hid ((decide (z.bods[k].kind = 2) && (decide (z.bods[k].x = px) && decide (z.bods[k].y = py))) = false → lies (px, py) (z.bods.take (k + 1)) = false) := Lib.hid (fun e => by rw [lies_snoc hkx, hnh, e]; rfl)
          have HH : Hid ((decide (z.bods[k].kind = 2) && (decide (z.bods[k].x = px) && decide (z.bods[k].y = py))) = true → lies (px, py) z.bods = true) := Lib.hid (fun e => lies_hit hkx e)
          generalize z.bods[k] = c at *
          have hki : (k : Int) < (N5 : Int) := by omega
          have cPr := rowCells hPr
          have HXr := Lib.hid hxr
          clear hnh hxr hPB hGB hDB
          go_upto_region 35 with (fail)
          clear cPr
          as_aux_lemma =>
           have bs_0 : Below wr.heap.size wr wr.drew := belowDrew wr 1
           have hPr_0 : wr.drew.heap[p]? = _ := hPr
           have hBo_0 : wr.drew.heap[g5]? = _ := hBo
           have hGr_0 : wr.drew.heap[gp]? = _ := hGr
           have hDr_0 : wr.drew.heap[bp]? = _ := hDr
           refine wp_region_held_drew (S := (fun w' => (∀ j, w'.cell? ⟨p, j, none⟩ = #[Value.slice al x.rows.length cl, .int .i64 (x.tick + 1), .int .i64 s2, .slice as5 z.scores.length cs5, .slice (some ⟨g5, 0, none⟩) N5 cap5][j]?) ∧ (w'.cell? ⟨g5, k * 9, none⟩ = some (.int .i64 c.kind) ∧ w'.cell? ⟨g5, k * 9 + 1, none⟩ = some (.int .i64 c.owner) ∧ w'.cell? ⟨g5, k * 9 + 2, none⟩ = some (.int .i64 c.x) ∧ w'.cell? ⟨g5, k * 9 + 3, none⟩ = some (.int .i64 c.y) ∧ w'.cell? ⟨g5, k * 9 + 4, none⟩ = some (.int .i64 c.vx) ∧ w'.cell? ⟨g5, k * 9 + 5, none⟩ = some (.int .i64 c.vy) ∧ w'.cell? ⟨g5, k * 9 + 6, none⟩ = some (.int .i64 c.aim) ∧ w'.cell? ⟨g5, k * 9 + 7, none⟩ = some (.int .i64 c.life) ∧ w'.cell? ⟨g5, k * 9 + 8, none⟩ = some (.int .i64 c.timer)) ∧ w'.cell? ⟨gp, i, none⟩ = some (.slice (some ⟨bp, 0, none⟩) 2 2) ∧ (∀ j, w'.cell? ⟨bp, j, none⟩ = #[Value.int .i64 px, .int .i64 py][j]?))) (by kernel_rfl) ?_ (fun hHeld => ?_)
           ·exact ⟨rowCells hPr_0, cells9 (rG hBo_0), cG hGr_0, rowCells hDr_0⟩
           refine wpAnyH_abs (fun c a d v w h => by cases d <;> exact h) ?_
           intro Q' hQ' hN
           refine wpAnyH_listed #[false, false, false, false, false, false, false, false, false, false, false, false, false, false, false, false, false, false, false, false, false, false, false, false, false, false, false, false, false, false, false, false, false, false, false, false, false, false, false, false, false, false, false] (by kernel_rfl) ?_
           refine take_on (i := 0) (v := ?_) (some 243) rfl (by kernel_rfl) (by kernel_rfl) (by kernel_rfl) rfl (fun c a w => hQ' c a _ _ w) (by rfl) ?_ (by assumption) ?_
           rotate_left
           ·intro w hSw; (try dsimp only at hSw); go_simp; (try with_reducible rfl)
           (try simp only [zP, zA, zB, zC])
           refine wpAnyH_listed #[true, false, false, false, false, false, false, false, false, false, false, false, false, false, false, false, false, false, false, false, false, false, false, false, false, false, false, false, false, false, false, false, false, false, false, false, false, false, false, false, false, false, false] (by kernel_rfl) ?_
           refine take_on (i := 1) (v := ?_) (some 244) rfl (by kernel_rfl) (by kernel_rfl) (by kernel_rfl) rfl (fun c a w => hQ' c a _ _ w) (by rfl) ?_ (by assumption) ?_
           rotate_left
           ·intro w hSw; (try dsimp only at hSw); go_simp; (try with_reducible rfl)
           (try simp only [zP, zA, zB, zC])
           refine wpAnyH_listed #[true, true, false, false, false, false, false, false, false, false, false, false, false, false, false, false, false, false, false, false, false, false, false, false, false, false, false, false, false, false, false, false, false, false, false, false, false, false, false, false, false, false, false] (by kernel_rfl) ?_
           refine take_on (i := 2) (v := ?_) (some 245) rfl (by kernel_rfl) (by kernel_rfl) (by kernel_rfl) rfl (fun c a w => hQ' c a _ _ w) (by rfl) ?_ (by assumption) ?_
           rotate_left
           ·intro w hSw; (try dsimp only at hSw); go_simp; (try with_reducible rfl)
           (try simp only [zP, zA, zB, zC])
           refine wpAnyH_listed #[true, true, true, false, false, false, false, false, false, false, false, false, false, false, false, false, false, false, false, false, false, false, false, false, false, false, false, false, false, false, false, false, false, false, false, false, false, false, false, false, false, false, false] (by kernel_rfl) ?_
           refine take_on (i := 3) (v := ?_) (some 246) rfl (by kernel_rfl) (by kernel_rfl) (by kernel_rfl) rfl (fun c a w => hQ' c a _ _ w) (by rfl) ?_ (by assumption) ?_
           rotate_left
           ·intro w hSw; (try dsimp only at hSw); go_simp; (try with_reducible rfl)
           (try simp only [zP, zA, zB, zC])
           refine wpAnyH_listed #[true, true, true, true, false, false, false, false, false, false, false, false, false, false, false, false, false, false, false, false, false, false, false, false, false, false, false, false, false, false, false, false, false, false, false, false, false, false, false, false, false, false, false] (by kernel_rfl) ?_
           refine take_on (i := 4) (v := ?_) (some 247) rfl (by kernel_rfl) (by kernel_rfl) (by kernel_rfl) rfl (fun c a w => hQ' c a _ _ w) (by rfl) ?_ (by assumption) ?_
           rotate_left
           ·intro w hSw; (try dsimp only at hSw); go_simp; (try with_reducible rfl)
           (try simp only [zP, zA, zB, zC])
           refine wpAnyH_listed #[true, true, true, true, true, false, false, false, false, false, false, false, false, false, false, false, false, false, false, false, false, false, false, false, false, false, false, false, false, false, false, false, false, false, false, false, false, false, false, false, false, false, false] (by kernel_rfl) ?_
           refine take_on (i := 5) (v := ?_) (some 248) rfl (by kernel_rfl) (by kernel_rfl) (by kernel_rfl) rfl (fun c a w => hQ' c a _ _ w) (by rfl) ?_ (by assumption) ?_
           rotate_left
           ·intro w hSw; (try dsimp only at hSw); go_simp; (try with_reducible rfl)
           (try simp only [zP, zA, zB, zC])
           refine wpAnyH_listed #[true, true, true, true, true, true, false, false, false, false, false, false, false, false, false, false, false, false, false, false, false, false, false, false, false, false, false, false, false, false, false, false, false, false, false, false, false, false, false, false, false, false, false] (by kernel_rfl) ?_
           refine take_on (i := 6) (v := ?_) (some 249) rfl (by kernel_rfl) (by kernel_rfl) (by kernel_rfl) rfl (fun c a w => hQ' c a _ _ w) (by rfl) ?_ (by assumption) ?_
           rotate_left
           ·intro w hSw; (try dsimp only at hSw); go_simp; (try with_reducible rfl)
           (try simp only [zP, zA, zB, zC])
           refine wpAnyH_listed #[true, true, true, true, true, true, true, false, false, false, false, false, false, false, false, false, false, false, false, false, false, false, false, false, false, false, false, false, false, false, false, false, false, false, false, false, false, false, false, false, false, false, false] (by kernel_rfl) ?_
           refine take_on (i := 7) (v := ?_) (some 250) rfl (by kernel_rfl) (by kernel_rfl) (by kernel_rfl) rfl (fun c a w => hQ' c a _ _ w) (by rfl) ?_ (by assumption) ?_
           rotate_left
           ·intro w hSw; (try dsimp only at hSw); go_simp; (try with_reducible rfl)
           (try simp only [zP, zA, zB, zC])
           refine wpAnyH_listed #[true, true, true, true, true, true, true, true, false, false, false, false, false, false, false, false, false, false, false, false, false, false, false, false, false, false, false, false, false, false, false, false, false, false, false, false, false, false, false, false, false, false, false] (by kernel_rfl) ?_
           by_cases h1 : c.kind = 2
           ·have z1 : ((c.kind : Int) == 2) = true := by simpa using h1
            have H1 := Lib.hid h1
            clear h1
            refine take_on (i := 8) (v := ?_) (some 251) rfl (by kernel_rfl) (by kernel_rfl) (by kernel_rfl) rfl (fun c a w => hQ' c a _ _ w) (by rfl) ?_ (by assumption) ?_
            rotate_left
            ·intro w hSw; (try dsimp only at hSw); go_simp; (try with_reducible rfl)
            (try simp only [zP, zA, zB, zC])
            refine wpAnyH_listed #[true, true, true, true, true, true, true, true, true, false, false, false, false, false, false, false, false, false, false, false, false, false, false, false, false, false, false, false, false, false, false, false, false, false, false, false, false, false, false, false, false, false, false] (by kernel_rfl) ?_
            refine take_on (i := 9) (v := ?_) (some 252) rfl (by kernel_rfl) (by kernel_rfl) (by kernel_rfl) rfl (fun c a w => hQ' c a _ _ w) (by rfl) ?_ (by assumption) ?_
            rotate_left
            ·intro w hSw; (try dsimp only at hSw); go_simp; (try with_reducible rfl)
            (try simp only [zP, zA, zB, zC])
            refine wpAnyH_listed #[true, true, true, true, true, true, true, true, true, true, false, false, false, false, false, false, false, false, false, false, false, false, false, false, false, false, false, false, false, false, false, false, false, false, false, false, false, false, false, false, false, false, false] (by kernel_rfl) ?_
            refine take_on (i := 10) (v := ?_) (some 253) rfl (by kernel_rfl) (by kernel_rfl) (by kernel_rfl) rfl (fun c a w => hQ' c a _ _ w) (wanted_on (k := 9) (d := 252) (b := true) rfl rfl rfl) ?_ (by assumption) ?_
            rotate_left
            ·intro w hSw; (try dsimp only at hSw); go_simp; (try with_reducible rfl)
            (try simp only [zP, zA, zB, zC])
            refine wpAnyH_listed #[true, true, true, true, true, true, true, true, true, true, true, false, false, false, false, false, false, false, false, false, false, false, false, false, false, false, false, false, false, false, false, false, false, false, false, false, false, false, false, false, false, false, false] (by kernel_rfl) ?_
            refine take_on (i := 11) (v := ?_) (some 254) rfl (by kernel_rfl) (by kernel_rfl) (by kernel_rfl) rfl (fun c a w => hQ' c a _ _ w) (wanted_on (k := 9) (d := 252) (b := true) rfl rfl rfl) ?_ (by assumption) ?_
            rotate_left
            ·intro w hSw; (try dsimp only at hSw); go_simp; (try with_reducible rfl)
            (try simp only [zP, zA, zB, zC])
            refine wpAnyH_listed #[true, true, true, true, true, true, true, true, true, true, true, true, false, false, false, false, false, false, false, false, false, false, false, false, false, false, false, false, false, false, false, false, false, false, false, false, false, false, false, false, false, false, false] (by kernel_rfl) ?_
            refine take_on (i := 12) (v := ?_) (some 255) rfl (by kernel_rfl) (by kernel_rfl) (by kernel_rfl) rfl (fun c a w => hQ' c a _ _ w) (wanted_on (k := 9) (d := 252) (b := true) rfl rfl rfl) ?_ (by assumption) ?_
            rotate_left
            ·intro w hSw; (try dsimp only at hSw); go_simp; (try with_reducible rfl)
            (try simp only [zP, zA, zB, zC])
            refine wpAnyH_listed #[true, true, true, true, true, true, true, true, true, true, true, true, true, false, false, false, false, false, false, false, false, false, false, false, false, false, false, false, false, false, false, false, false, false, false, false, false, false, false, false, false, false, false] (by kernel_rfl) ?_
            refine take_on (i := 13) (v := ?_) (some 256) rfl (by kernel_rfl) (by kernel_rfl) (by kernel_rfl) rfl (fun c a w => hQ' c a _ _ w) (wanted_on (k := 9) (d := 252) (b := true) rfl rfl rfl) ?_ (by assumption) ?_
            rotate_left
            ·intro w hSw; (try dsimp only at hSw); go_simp; (try with_reducible rfl)
            (try simp only [zP, zA, zB, zC])
            refine wpAnyH_listed #[true, true, true, true, true, true, true, true, true, true, true, true, true, true, false, false, false, false, false, false, false, false, false, false, false, false, false, false, false, false, false, false, false, false, false, false, false, false, false, false, false, false, false] (by kernel_rfl) ?_
            refine take_on (i := 14) (v := ?_) (some 257) rfl (by kernel_rfl) (by kernel_rfl) (by kernel_rfl) rfl (fun c a w => hQ' c a _ _ w) (wanted_on (k := 9) (d := 252) (b := true) rfl rfl rfl) ?_ (by assumption) ?_
            rotate_left
            ·intro w hSw; (try dsimp only at hSw); go_simp; (try with_reducible rfl)
            (try simp only [zP, zA, zB, zC])
            refine wpAnyH_listed #[true, true, true, true, true, true, true, true, true, true, true, true, true, true, true, false, false, false, false, false, false, false, false, false, false, false, false, false, false, false, false, false, false, false, false, false, false, false, false, false, false, false, false] (by kernel_rfl) ?_
            refine take_on (i := 15) (v := ?_) (some 258) rfl (by kernel_rfl) (by kernel_rfl) (by kernel_rfl) rfl (fun c a w => hQ' c a _ _ w) (wanted_on (k := 9) (d := 252) (b := true) rfl rfl rfl) ?_ (by assumption) ?_
            rotate_left
            ·intro w hSw; (try dsimp only at hSw); go_simp; (try with_reducible rfl)
            (try simp only [zP, zA, zB, zC])
            refine wpAnyH_listed #[true, true, true, true, true, true, true, true, true, true, true, true, true, true, true, true, false, false, false, false, false, false, false, false, false, false, false, false, false, false, false, false, false, false, false, false, false, false, false, false, false, false, false] (by kernel_rfl) ?_
            refine take_on (i := 16) (v := ?_) (some 259) rfl (by kernel_rfl) (by kernel_rfl) (by kernel_rfl) rfl (fun c a w => hQ' c a _ _ w) (wanted_on (k := 9) (d := 252) (b := true) rfl rfl rfl) ?_ (by assumption) ?_
            rotate_left
            ·intro w hSw; (try dsimp only at hSw); go_simp; (try with_reducible rfl)
            (try simp only [zP, zA, zB, zC])
            refine wpAnyH_listed #[true, true, true, true, true, true, true, true, true, true, true, true, true, true, true, true, true, false, false, false, false, false, false, false, false, false, false, false, false, false, false, false, false, false, false, false, false, false, false, false, false, false, false] (by kernel_rfl) ?_
            refine take_on (i := 17) (v := ?_) (some 260) rfl (by kernel_rfl) (by kernel_rfl) (by kernel_rfl) rfl (fun c a w => hQ' c a _ _ w) (wanted_on (k := 9) (d := 252) (b := true) rfl rfl rfl) ?_ (by assumption) ?_
            rotate_left
            ·intro w hSw; (try dsimp only at hSw); go_simp; (try with_reducible rfl)
            (try simp only [zP, zA, zB, zC])
            refine wpAnyH_listed #[true, true, true, true, true, true, true, true, true, true, true, true, true, true, true, true, true, true, false, false, false, false, false, false, false, false, false, false, false, false, false, false, false, false, false, false, false, false, false, false, false, false, false] (by kernel_rfl) ?_
            refine take_on (i := 18) (v := ?_) (some 261) rfl (by kernel_rfl) (by kernel_rfl) (by kernel_rfl) rfl (fun c a w => hQ' c a _ _ w) (wanted_on (k := 9) (d := 252) (b := true) rfl rfl rfl) ?_ (by assumption) ?_
            rotate_left
            ·intro w hSw; (try dsimp only at hSw); go_simp; (try with_reducible rfl)
            (try simp only [zP, zA, zB, zC])
            refine wpAnyH_listed #[true, true, true, true, true, true, true, true, true, true, true, true, true, true, true, true, true, true, true, false, false, false, false, false, false, false, false, false, false, false, false, false, false, false, false, false, false, false, false, false, false, false, false] (by kernel_rfl) ?_
            refine take_on (i := 19) (v := ?_) (some 262) rfl (by kernel_rfl) (by kernel_rfl) (by kernel_rfl) rfl (fun c a w => hQ' c a _ _ w) (wanted_on (k := 9) (d := 252) (b := true) rfl rfl rfl) ?_ (by assumption) ?_
            rotate_left
            ·intro w hSw; (try dsimp only at hSw); go_simp; (try with_reducible rfl)
            (try simp only [zP, zA, zB, zC])
            refine wpAnyH_listed #[true, true, true, true, true, true, true, true, true, true, true, true, true, true, true, true, true, true, true, true, false, false, false, false, false, false, false, false, false, false, false, false, false, false, false, false, false, false, false, false, false, false, false] (by kernel_rfl) ?_
            refine take_on (i := 20) (v := ?_) (some 263) rfl (by kernel_rfl) (by kernel_rfl) (by kernel_rfl) rfl (fun c a w => hQ' c a _ _ w) (wanted_on (k := 9) (d := 252) (b := true) rfl rfl rfl) ?_ (by assumption) ?_
            rotate_left
            ·intro w hSw; (try dsimp only at hSw); go_simp; (try with_reducible rfl)
            (try simp only [zP, zA, zB, zC])
            refine wpAnyH_listed #[true, true, true, true, true, true, true, true, true, true, true, true, true, true, true, true, true, true, true, true, true, false, false, false, false, false, false, false, false, false, false, false, false, false, false, false, false, false, false, false, false, false, false] (by kernel_rfl) ?_
            refine take_on (i := 21) (v := ?_) (some 264) rfl (by kernel_rfl) (by kernel_rfl) (by kernel_rfl) rfl (fun c a w => hQ' c a _ _ w) (wanted_on (k := 9) (d := 252) (b := true) rfl rfl rfl) ?_ (by assumption) ?_
            rotate_left
            ·intro w hSw; (try dsimp only at hSw); go_simp; (try with_reducible rfl)
            (try simp only [zP, zA, zB, zC])
            refine wpAnyH_listed #[true, true, true, true, true, true, true, true, true, true, true, true, true, true, true, true, true, true, true, true, true, true, false, false, false, false, false, false, false, false, false, false, false, false, false, false, false, false, false, false, false, false, false] (by kernel_rfl) ?_
            refine take_on (i := 22) (v := ?_) (some 265) rfl (by kernel_rfl) (by kernel_rfl) (by kernel_rfl) rfl (fun c a w => hQ' c a _ _ w) (wanted_on (k := 9) (d := 252) (b := true) rfl rfl rfl) ?_ (by assumption) ?_
            rotate_left
            ·intro w hSw; (try dsimp only at hSw); go_simp; (try with_reducible rfl)
            (try simp only [zP, zA, zB, zC])
            refine wpAnyH_listed #[true, true, true, true, true, true, true, true, true, true, true, true, true, true, true, true, true, true, true, true, true, true, true, false, false, false, false, false, false, false, false, false, false, false, false, false, false, false, false, false, false, false, false] (by kernel_rfl) ?_
            refine take_on (i := 23) (v := ?_) (some 266) rfl (by kernel_rfl) (by kernel_rfl) (by kernel_rfl) rfl (fun c a w => hQ' c a _ _ w) (wanted_on (k := 9) (d := 252) (b := true) rfl rfl rfl) ?_ (by assumption) ?_
            rotate_left
            ·intro w hSw; (try dsimp only at hSw); go_simp; (try with_reducible rfl)
            (try simp only [zP, zA, zB, zC])
            refine wpAnyH_listed #[true, true, true, true, true, true, true, true, true, true, true, true, true, true, true, true, true, true, true, true, true, true, true, true, false, false, false, false, false, false, false, false, false, false, false, false, false, false, false, false, false, false, false] (by kernel_rfl) ?_
            by_cases h2 : c.x = px
            ·have z2 : ((c.x : Int) == px) = true := by simpa using h2
             have H2 := Lib.hid h2
             clear h2
             refine take_on (i := 24) (v := ?_) (some 267) rfl (by kernel_rfl) (by kernel_rfl) (by kernel_rfl) rfl (fun c a w => hQ' c a _ _ w) (wanted_on (k := 9) (d := 252) (b := true) rfl rfl rfl) ?_ (by assumption) ?_
             rotate_left
             ·intro w hSw; (try dsimp only at hSw); go_simp; (try with_reducible rfl)
             (try simp only [zP, zA, zB, zC])
             refine wpAnyH_listed #[true, true, true, true, true, true, true, true, true, true, true, true, true, true, true, true, true, true, true, true, true, true, true, true, true, false, false, false, false, false, false, false, false, false, false, false, false, false, false, false, false, false, false] (by kernel_rfl) ?_
             refine take_on (i := 25) (v := ?_) (some 268) rfl (by kernel_rfl) (by kernel_rfl) (by kernel_rfl) rfl (fun c a w => hQ' c a _ _ w) (by rfl) ?_ (by assumption) ?_
             rotate_left
             ·intro w hSw; (try dsimp only at hSw); go_simp; (try with_reducible rfl)
             (try simp only [zP, zA, zB, zC])
             refine wpAnyH_listed #[true, true, true, true, true, true, true, true, true, true, true, true, true, true, true, true, true, true, true, true, true, true, true, true, true, true, false, false, false, false, false, false, false, false, false, false, false, false, false, false, false, false, false] (by kernel_rfl) ?_
             refine take_on (i := 26) (v := ?_) (some 269) rfl (by kernel_rfl) (by kernel_rfl) (by kernel_rfl) rfl (fun c a w => hQ' c a _ _ w) (by rfl) ?_ (by assumption) ?_
             rotate_left
             ·intro w hSw; (try dsimp only at hSw); go_simp; (try with_reducible rfl)
             (try simp only [zP, zA, zB, zC])
             refine wpAnyH_listed #[true, true, true, true, true, true, true, true, true, true, true, true, true, true, true, true, true, true, true, true, true, true, true, true, true, true, true, false, false, false, false, false, false, false, false, false, false, false, false, false, false, false, false] (by kernel_rfl) ?_
             refine take_on (i := 27) (v := ?_) (some 270) rfl (by kernel_rfl) (by kernel_rfl) (by kernel_rfl) rfl (fun c a w => hQ' c a _ _ w) (wanted_on (k := 26) (d := 269) (b := true) rfl rfl rfl) ?_ (by assumption) ?_
             rotate_left
             ·intro w hSw; (try dsimp only at hSw); go_simp; (try with_reducible rfl)
             (try simp only [zP, zA, zB, zC])
             refine wpAnyH_listed #[true, true, true, true, true, true, true, true, true, true, true, true, true, true, true, true, true, true, true, true, true, true, true, true, true, true, true, true, false, false, false, false, false, false, false, false, false, false, false, false, false, false, false] (by kernel_rfl) ?_
             refine take_on (i := 28) (v := ?_) (some 271) rfl (by kernel_rfl) (by kernel_rfl) (by kernel_rfl) rfl (fun c a w => hQ' c a _ _ w) (wanted_on (k := 26) (d := 269) (b := true) rfl rfl rfl) ?_ (by assumption) ?_
             rotate_left
             ·intro w hSw; (try dsimp only at hSw); go_simp; (try with_reducible rfl)
             (try simp only [zP, zA, zB, zC])
             refine wpAnyH_listed #[true, true, true, true, true, true, true, true, true, true, true, true, true, true, true, true, true, true, true, true, true, true, true, true, true, true, true, true, true, false, false, false, false, false, false, false, false, false, false, false, false, false, false] (by kernel_rfl) ?_
             refine take_on (i := 29) (v := ?_) (some 272) rfl (by kernel_rfl) (by kernel_rfl) (by kernel_rfl) rfl (fun c a w => hQ' c a _ _ w) (wanted_on (k := 26) (d := 269) (b := true) rfl rfl rfl) ?_ (by assumption) ?_
             rotate_left
             ·intro w hSw; (try dsimp only at hSw); go_simp; (try with_reducible rfl)
             (try simp only [zP, zA, zB, zC])
             refine wpAnyH_listed #[true, true, true, true, true, true, true, true, true, true, true, true, true, true, true, true, true, true, true, true, true, true, true, true, true, true, true, true, true, true, false, false, false, false, false, false, false, false, false, false, false, false, false] (by kernel_rfl) ?_
             refine take_on (i := 30) (v := ?_) (some 273) rfl (by kernel_rfl) (by kernel_rfl) (by kernel_rfl) rfl (fun c a w => hQ' c a _ _ w) (wanted_on (k := 26) (d := 269) (b := true) rfl rfl rfl) ?_ (by assumption) ?_
             rotate_left
             ·intro w hSw; (try dsimp only at hSw); go_simp; (try with_reducible rfl)
             (try simp only [zP, zA, zB, zC])
             refine wpAnyH_listed #[true, true, true, true, true, true, true, true, true, true, true, true, true, true, true, true, true, true, true, true, true, true, true, true, true, true, true, true, true, true, true, false, false, false, false, false, false, false, false, false, false, false, false] (by kernel_rfl) ?_
             refine take_on (i := 31) (v := ?_) (some 274) rfl (by kernel_rfl) (by kernel_rfl) (by kernel_rfl) rfl (fun c a w => hQ' c a _ _ w) (wanted_on (k := 26) (d := 269) (b := true) rfl rfl rfl) ?_ (by assumption) ?_
             rotate_left
             ·intro w hSw; (try dsimp only at hSw); go_simp; (try with_reducible rfl)
             (try simp only [zP, zA, zB, zC])
             refine wpAnyH_listed #[true, true, true, true, true, true, true, true, true, true, true, true, true, true, true, true, true, true, true, true, true, true, true, true, true, true, true, true, true, true, true, true, false, false, false, false, false, false, false, false, false, false, false] (by kernel_rfl) ?_
             refine take_on (i := 32) (v := ?_) (some 275) rfl (by kernel_rfl) (by kernel_rfl) (by kernel_rfl) rfl (fun c a w => hQ' c a _ _ w) (wanted_on (k := 26) (d := 269) (b := true) rfl rfl rfl) ?_ (by assumption) ?_
             rotate_left
             ·intro w hSw; (try dsimp only at hSw); go_simp; (try with_reducible rfl)
             (try simp only [zP, zA, zB, zC])
             refine wpAnyH_listed #[true, true, true, true, true, true, true, true, true, true, true, true, true, true, true, true, true, true, true, true, true, true, true, true, true, true, true, true, true, true, true, true, true, false, false, false, false, false, false, false, false, false, false] (by kernel_rfl) ?_
             refine take_on (i := 33) (v := ?_) (some 276) rfl (by kernel_rfl) (by kernel_rfl) (by kernel_rfl) rfl (fun c a w => hQ' c a _ _ w) (wanted_on (k := 26) (d := 269) (b := true) rfl rfl rfl) ?_ (by assumption) ?_
             rotate_left
             ·intro w hSw; (try dsimp only at hSw); go_simp; (try with_reducible rfl)
             (try simp only [zP, zA, zB, zC])
             refine wpAnyH_listed #[true, true, true, true, true, true, true, true, true, true, true, true, true, true, true, true, true, true, true, true, true, true, true, true, true, true, true, true, true, true, true, true, true, true, false, false, false, false, false, false, false, false, false] (by kernel_rfl) ?_
             refine take_on (i := 34) (v := ?_) (some 277) rfl (by kernel_rfl) (by kernel_rfl) (by kernel_rfl) rfl (fun c a w => hQ' c a _ _ w) (wanted_on (k := 26) (d := 269) (b := true) rfl rfl rfl) ?_ (by assumption) ?_
             rotate_left
             ·intro w hSw; (try dsimp only at hSw); go_simp; (try with_reducible rfl)
             (try simp only [zP, zA, zB, zC])
             refine wpAnyH_listed #[true, true, true, true, true, true, true, true, true, true, true, true, true, true, true, true, true, true, true, true, true, true, true, true, true, true, true, true, true, true, true, true, true, true, true, false, false, false, false, false, false, false, false] (by kernel_rfl) ?_
             refine take_on (i := 35) (v := ?_) (some 278) rfl (by kernel_rfl) (by kernel_rfl) (by kernel_rfl) rfl (fun c a w => hQ' c a _ _ w) (wanted_on (k := 26) (d := 269) (b := true) rfl rfl rfl) ?_ (by assumption) ?_
             rotate_left
             ·intro w hSw; (try dsimp only at hSw); go_simp; (try with_reducible rfl)
             (try simp only [zP, zA, zB, zC])
             refine wpAnyH_listed #[true, true, true, true, true, true, true, true, true, true, true, true, true, true, true, true, true, true, true, true, true, true, true, true, true, true, true, true, true, true, true, true, true, true, true, true, false, false, false, false, false, false, false] (by kernel_rfl) ?_
             refine take_on (i := 36) (v := ?_) (some 279) rfl (by kernel_rfl) (by kernel_rfl) (by kernel_rfl) rfl (fun c a w => hQ' c a _ _ w) (wanted_on (k := 26) (d := 269) (b := true) rfl rfl rfl) ?_ (by assumption) ?_
             rotate_left
             ·intro w hSw; (try dsimp only at hSw); go_simp; (try with_reducible rfl)
             (try simp only [zP, zA, zB, zC])
             refine wpAnyH_listed #[true, true, true, true, true, true, true, true, true, true, true, true, true, true, true, true, true, true, true, true, true, true, true, true, true, true, true, true, true, true, true, true, true, true, true, true, true, false, false, false, false, false, false] (by kernel_rfl) ?_
             refine take_on (i := 37) (v := ?_) (some 280) rfl (by kernel_rfl) (by kernel_rfl) (by kernel_rfl) rfl (fun c a w => hQ' c a _ _ w) (wanted_on (k := 26) (d := 269) (b := true) rfl rfl rfl) ?_ (by assumption) ?_
             rotate_left
             ·intro w hSw; (try dsimp only at hSw); go_simp; (try with_reducible rfl)
             (try simp only [zP, zA, zB, zC])
             refine wpAnyH_listed #[true, true, true, true, true, true, true, true, true, true, true, true, true, true, true, true, true, true, true, true, true, true, true, true, true, true, true, true, true, true, true, true, true, true, true, true, true, true, false, false, false, false, false] (by kernel_rfl) ?_
             refine take_on (i := 38) (v := ?_) (some 281) rfl (by kernel_rfl) (by kernel_rfl) (by kernel_rfl) rfl (fun c a w => hQ' c a _ _ w) (wanted_on (k := 26) (d := 269) (b := true) rfl rfl rfl) ?_ (by assumption) ?_
             rotate_left
             ·intro w hSw; (try dsimp only at hSw); go_simp; (try with_reducible rfl)
             (try simp only [zP, zA, zB, zC])
             refine wpAnyH_listed #[true, true, true, true, true, true, true, true, true, true, true, true, true, true, true, true, true, true, true, true, true, true, true, true, true, true, true, true, true, true, true, true, true, true, true, true, true, true, true, false, false, false, false] (by kernel_rfl) ?_
             refine take_on (i := 39) (v := ?_) (some 282) rfl (by kernel_rfl) (by kernel_rfl) (by kernel_rfl) rfl (fun c a w => hQ' c a _ _ w) (wanted_on (k := 26) (d := 269) (b := true) rfl rfl rfl) ?_ (by assumption) ?_
             rotate_left
             ·intro w hSw; (try dsimp only at hSw); go_simp; (try with_reducible rfl)
             (try simp only [zP, zA, zB, zC])
             refine wpAnyH_listed #[true, true, true, true, true, true, true, true, true, true, true, true, true, true, true, true, true, true, true, true, true, true, true, true, true, true, true, true, true, true, true, true, true, true, true, true, true, true, true, true, false, false, false] (by kernel_rfl) ?_
             refine take_on (i := 40) (v := ?_) (some 283) rfl (by kernel_rfl) (by kernel_rfl) (by kernel_rfl) rfl (fun c a w => hQ' c a _ _ w) (wanted_on (k := 26) (d := 269) (b := true) rfl rfl rfl) ?_ (by assumption) ?_
             rotate_left
             ·intro w hSw; (try dsimp only at hSw); go_simp; (try with_reducible rfl)
             (try simp only [zP, zA, zB, zC])
             refine wpAnyH_listed #[true, true, true, true, true, true, true, true, true, true, true, true, true, true, true, true, true, true, true, true, true, true, true, true, true, true, true, true, true, true, true, true, true, true, true, true, true, true, true, true, true, false, false] (by kernel_rfl) ?_
             by_cases h3 : c.y = py
             ·have z3 : ((c.y : Int) == py) = true := by simpa using h3
              have HE := Lib.hid (HH.out (by have h1 := H1.out; have h2 := H2.out; simp [h1, h2, h3]))
              clear h3 HN HH
              refine take_on (i := 41) (v := ?_) (some 284) rfl (by kernel_rfl) (by kernel_rfl) (by kernel_rfl) rfl (fun c a w => hQ' c a _ _ w) (wanted_on (k := 26) (d := 269) (b := true) rfl rfl rfl) ?_ (by assumption) ?_
              rotate_left
              ·intro w hSw; (try dsimp only at hSw); go_simp; (try with_reducible rfl)
              (try simp only [zP, zA, zB, zC])
              refine wpAnyH_listed #[true, true, true, true, true, true, true, true, true, true, true, true, true, true, true, true, true, true, true, true, true, true, true, true, true, true, true, true, true, true, true, true, true, true, true, true, true, true, true, true, true, true, false] (by kernel_rfl) ?_
              refine take_on (i := 42) (v := ?_) (some 285) rfl (by kernel_rfl) (by kernel_rfl) (by kernel_rfl) rfl (fun c a w => hQ' c a _ _ w) (by rfl) ?_ (by assumption) ?_
              rotate_left
              ·intro w hSw; (try dsimp only at hSw); go_simp; (try with_reducible rfl)
              (try simp only [zP, zA, zB, zC])
              refine wpAnyH_listed #[true, true, true, true, true, true, true, true, true, true, true, true, true, true, true, true, true, true, true, true, true, true, true, true, true, true, true, true, true, true, true, true, true, true, true, true, true, true, true, true, true, true, true] (by kernel_rfl) ?_
              refine wpAnyH_done (by kernel_rfl) ?_ _
              refine hN _ _ ?_
              clear hN hQ' Q'
              have hbn := hbel.trans (bs_0.mono hbel.size)
              have HFr := Lib.hid (HFB.out.trans (FrW.below (vs := .slice as5 z.scores.length cs5) (vb := .slice (some ⟨g5, 0, none⟩) N5 cap5) (p := p) hbn hTB) HS5.out HO5.out)
              have HXn := Lib.hid (HXB.out.keep hbn hTB)
              go_wp2_with (fail)
              refine bodyPost_ret (v := .tuple #[]) (by simp [results, Tryz.results161]) rfl ⟨rfl, _, _, bxOf HXn.out ?_, HFr.out, HS5.out, HO5.out⟩
              rw [HE0.out, HX.out, HE.out]; rfl
             ·have z3 : ((c.y : Int) == py) = false := by simpa using h3
              have HE := Lib.hid (HN.out (by have h1 := H1.out; have h2 := H2.out; simp [h1, h2, h3]))
              clear h3 HN HH
              refine take_on (i := 41) (v := ?_) (some 284) rfl (by kernel_rfl) (by kernel_rfl) (by kernel_rfl) rfl (fun c a w => hQ' c a _ _ w) (wanted_on (k := 26) (d := 269) (b := true) rfl rfl rfl) ?_ (by assumption) ?_
              rotate_left
              ·intro w hSw; (try dsimp only at hSw); go_simp; (try with_reducible rfl)
              (try simp only [zP, zA, zB, zC])
              refine wpAnyH_listed #[true, true, true, true, true, true, true, true, true, true, true, true, true, true, true, true, true, true, true, true, true, true, true, true, true, true, true, true, true, true, true, true, true, true, true, true, true, true, true, true, true, true, false] (by kernel_rfl) ?_
              refine take_on (i := 42) (v := ?_) (some 285) rfl (by kernel_rfl) (by kernel_rfl) (by kernel_rfl) rfl (fun c a w => hQ' c a _ _ w) (by rfl) ?_ (by assumption) ?_
              rotate_left
              ·intro w hSw; (try dsimp only at hSw); go_simp; (try with_reducible rfl)
              (try simp only [zP, zA, zB, zC])
              refine wpAnyH_listed #[true, true, true, true, true, true, true, true, true, true, true, true, true, true, true, true, true, true, true, true, true, true, true, true, true, true, true, true, true, true, true, true, true, true, true, true, true, true, true, true, true, true, true] (by kernel_rfl) ?_
              refine wpAnyH_done (by kernel_rfl) ?_ _
              refine hN _ _ ?_
              clear hN hQ' Q'
              go_wp2_with (fail)
              go_roundw
              case rel => exact ⟨k + 1, by omega, by omega, by go_num, HE.out, hbel.trans (bs_0.mono hbel.size)⟩
              case measure => simp [intOf]; omega
            ·have z2 : ((c.x : Int) == px) = false := by simpa using h2
             have HE := Lib.hid (HN.out (by have h1 := H1.out; simp [h1, h2]))
             clear h2 HN HH
             refine take_on (i := 24) (v := ?_) (some 267) rfl (by kernel_rfl) (by kernel_rfl) (by kernel_rfl) rfl (fun c a w => hQ' c a _ _ w) (wanted_on (k := 9) (d := 252) (b := true) rfl rfl rfl) ?_ (by assumption) ?_
             rotate_left
             ·intro w hSw; (try dsimp only at hSw); go_simp; (try with_reducible rfl)
             (try simp only [zP, zA, zB, zC])
             refine wpAnyH_listed #[true, true, true, true, true, true, true, true, true, true, true, true, true, true, true, true, true, true, true, true, true, true, true, true, true, false, false, false, false, false, false, false, false, false, false, false, false, false, false, false, false, false, false] (by kernel_rfl) ?_
             refine take_on (i := 25) (v := ?_) (some 268) rfl (by kernel_rfl) (by kernel_rfl) (by kernel_rfl) rfl (fun c a w => hQ' c a _ _ w) (by rfl) ?_ (by assumption) ?_
             rotate_left
             ·intro w hSw; (try dsimp only at hSw); go_simp; (try with_reducible rfl)
             (try simp only [zP, zA, zB, zC])
             refine wpAnyH_listed #[true, true, true, true, true, true, true, true, true, true, true, true, true, true, true, true, true, true, true, true, true, true, true, true, true, true, false, false, false, false, false, false, false, false, false, false, false, false, false, false, false, false, false] (by kernel_rfl) ?_
             refine take_on (i := 26) (v := ?_) (some 269) rfl (by kernel_rfl) (by kernel_rfl) (by kernel_rfl) rfl (fun c a w => hQ' c a _ _ w) (by rfl) ?_ (by assumption) ?_
             rotate_left
             ·intro w hSw; (try dsimp only at hSw); go_simp; (try with_reducible rfl)
             (try simp only [zP, zA, zB, zC])
             refine wpAnyH_listed #[true, true, true, true, true, true, true, true, true, true, true, true, true, true, true, true, true, true, true, true, true, true, true, true, true, true, true, false, false, false, false, false, false, false, false, false, false, false, false, false, false, false, false] (by kernel_rfl) ?_
             refine take_off (i := 27) (some 270) rfl (by kernel_rfl) (by kernel_rfl) (by kernel_rfl) rfl (fun c a w => hQ' c a _ _ w) (wanted_off (k := 26) (d := 269) (b := true) (c := false) rfl rfl rfl rfl) (by assumption) ?_
             (try simp only [zP, zA, zB, zC])
             refine wpAnyH_listed #[true, true, true, true, true, true, true, true, true, true, true, true, true, true, true, true, true, true, true, true, true, true, true, true, true, true, true, true, false, false, false, false, false, false, false, false, false, false, false, false, false, false, false] (by kernel_rfl) ?_
             refine take_off (i := 28) (some 271) rfl (by kernel_rfl) (by kernel_rfl) (by kernel_rfl) rfl (fun c a w => hQ' c a _ _ w) (wanted_off (k := 26) (d := 269) (b := true) (c := false) rfl rfl rfl rfl) (by assumption) ?_
             (try simp only [zP, zA, zB, zC])
             refine wpAnyH_listed #[true, true, true, true, true, true, true, true, true, true, true, true, true, true, true, true, true, true, true, true, true, true, true, true, true, true, true, true, true, false, false, false, false, false, false, false, false, false, false, false, false, false, false] (by kernel_rfl) ?_
             refine take_off (i := 29) (some 272) rfl (by kernel_rfl) (by kernel_rfl) (by kernel_rfl) rfl (fun c a w => hQ' c a _ _ w) (wanted_off (k := 26) (d := 269) (b := true) (c := false) rfl rfl rfl rfl) (by assumption) ?_
             (try simp only [zP, zA, zB, zC])
             refine wpAnyH_listed #[true, true, true, true, true, true, true, true, true, true, true, true, true, true, true, true, true, true, true, true, true, true, true, true, true, true, true, true, true, true, false, false, false, false, false, false, false, false, false, false, false, false, false] (by kernel_rfl) ?_
             refine take_off (i := 30) (some 273) rfl (by kernel_rfl) (by kernel_rfl) (by kernel_rfl) rfl (fun c a w => hQ' c a _ _ w) (wanted_off (k := 26) (d := 269) (b := true) (c := false) rfl rfl rfl rfl) (by assumption) ?_
             (try simp only [zP, zA, zB, zC])
             refine wpAnyH_listed #[true, true, true, true, true, true, true, true, true, true, true, true, true, true, true, true, true, true, true, true, true, true, true, true, true, true, true, true, true, true, true, false, false, false, false, false, false, false, false, false, false, false, false] (by kernel_rfl) ?_
             refine take_off (i := 31) (some 274) rfl (by kernel_rfl) (by kernel_rfl) (by kernel_rfl) rfl (fun c a w => hQ' c a _ _ w) (wanted_off (k := 26) (d := 269) (b := true) (c := false) rfl rfl rfl rfl) (by assumption) ?_
             (try simp only [zP, zA, zB, zC])
             refine wpAnyH_listed #[true, true, true, true, true, true, true, true, true, true, true, true, true, true, true, true, true, true, true, true, true, true, true, true, true, true, true, true, true, true, true, true, false, false, false, false, false, false, false, false, false, false, false] (by kernel_rfl) ?_
             refine take_off (i := 32) (some 275) rfl (by kernel_rfl) (by kernel_rfl) (by kernel_rfl) rfl (fun c a w => hQ' c a _ _ w) (wanted_off (k := 26) (d := 269) (b := true) (c := false) rfl rfl rfl rfl) (by assumption) ?_
             (try simp only [zP, zA, zB, zC])
             refine wpAnyH_listed #[true, true, true, true, true, true, true, true, true, true, true, true, true, true, true, true, true, true, true, true, true, true, true, true, true, true, true, true, true, true, true, true, true, false, false, false, false, false, false, false, false, false, false] (by kernel_rfl) ?_
             refine take_off (i := 33) (some 276) rfl (by kernel_rfl) (by kernel_rfl) (by kernel_rfl) rfl (fun c a w => hQ' c a _ _ w) (wanted_off (k := 26) (d := 269) (b := true) (c := false) rfl rfl rfl rfl) (by assumption) ?_
             (try simp only [zP, zA, zB, zC])
             refine wpAnyH_listed #[true, true, true, true, true, true, true, true, true, true, true, true, true, true, true, true, true, true, true, true, true, true, true, true, true, true, true, true, true, true, true, true, true, true, false, false, false, false, false, false, false, false, false] (by kernel_rfl) ?_
             refine take_off (i := 34) (some 277) rfl (by kernel_rfl) (by kernel_rfl) (by kernel_rfl) rfl (fun c a w => hQ' c a _ _ w) (wanted_off (k := 26) (d := 269) (b := true) (c := false) rfl rfl rfl rfl) (by assumption) ?_
             (try simp only [zP, zA, zB, zC])
             refine wpAnyH_listed #[true, true, true, true, true, true, true, true, true, true, true, true, true, true, true, true, true, true, true, true, true, true, true, true, true, true, true, true, true, true, true, true, true, true, true, false, false, false, false, false, false, false, false] (by kernel_rfl) ?_
             refine take_off (i := 35) (some 278) rfl (by kernel_rfl) (by kernel_rfl) (by kernel_rfl) rfl (fun c a w => hQ' c a _ _ w) (wanted_off (k := 26) (d := 269) (b := true) (c := false) rfl rfl rfl rfl) (by assumption) ?_
             (try simp only [zP, zA, zB, zC])
             refine wpAnyH_listed #[true, true, true, true, true, true, true, true, true, true, true, true, true, true, true, true, true, true, true, true, true, true, true, true, true, true, true, true, true, true, true, true, true, true, true, true, false, false, false, false, false, false, false] (by kernel_rfl) ?_
             refine take_off (i := 36) (some 279) rfl (by kernel_rfl) (by kernel_rfl) (by kernel_rfl) rfl (fun c a w => hQ' c a _ _ w) (wanted_off (k := 26) (d := 269) (b := true) (c := false) rfl rfl rfl rfl) (by assumption) ?_
             (try simp only [zP, zA, zB, zC])
             refine wpAnyH_listed #[true, true, true, true, true, true, true, true, true, true, true, true, true, true, true, true, true, true, true, true, true, true, true, true, true, true, true, true, true, true, true, true, true, true, true, true, true, false, false, false, false, false, false] (by kernel_rfl) ?_
             refine take_off (i := 37) (some 280) rfl (by kernel_rfl) (by kernel_rfl) (by kernel_rfl) rfl (fun c a w => hQ' c a _ _ w) (wanted_off (k := 26) (d := 269) (b := true) (c := false) rfl rfl rfl rfl) (by assumption) ?_
             (try simp only [zP, zA, zB, zC])
             refine wpAnyH_listed #[true, true, true, true, true, true, true, true, true, true, true, true, true, true, true, true, true, true, true, true, true, true, true, true, true, true, true, true, true, true, true, true, true, true, true, true, true, true, false, false, false, false, false] (by kernel_rfl) ?_
             refine take_off (i := 38) (some 281) rfl (by kernel_rfl) (by kernel_rfl) (by kernel_rfl) rfl (fun c a w => hQ' c a _ _ w) (wanted_off (k := 26) (d := 269) (b := true) (c := false) rfl rfl rfl rfl) (by assumption) ?_
             (try simp only [zP, zA, zB, zC])
             refine wpAnyH_listed #[true, true, true, true, true, true, true, true, true, true, true, true, true, true, true, true, true, true, true, true, true, true, true, true, true, true, true, true, true, true, true, true, true, true, true, true, true, true, true, false, false, false, false] (by kernel_rfl) ?_
             refine take_off (i := 39) (some 282) rfl (by kernel_rfl) (by kernel_rfl) (by kernel_rfl) rfl (fun c a w => hQ' c a _ _ w) (wanted_off (k := 26) (d := 269) (b := true) (c := false) rfl rfl rfl rfl) (by assumption) ?_
             (try simp only [zP, zA, zB, zC])
             refine wpAnyH_listed #[true, true, true, true, true, true, true, true, true, true, true, true, true, true, true, true, true, true, true, true, true, true, true, true, true, true, true, true, true, true, true, true, true, true, true, true, true, true, true, true, false, false, false] (by kernel_rfl) ?_
             refine take_off (i := 40) (some 283) rfl (by kernel_rfl) (by kernel_rfl) (by kernel_rfl) rfl (fun c a w => hQ' c a _ _ w) (wanted_off (k := 26) (d := 269) (b := true) (c := false) rfl rfl rfl rfl) (by assumption) ?_
             (try simp only [zP, zA, zB, zC])
             refine wpAnyH_listed #[true, true, true, true, true, true, true, true, true, true, true, true, true, true, true, true, true, true, true, true, true, true, true, true, true, true, true, true, true, true, true, true, true, true, true, true, true, true, true, true, true, false, false] (by kernel_rfl) ?_
             refine take_off (i := 41) (some 284) rfl (by kernel_rfl) (by kernel_rfl) (by kernel_rfl) rfl (fun c a w => hQ' c a _ _ w) (wanted_off (k := 26) (d := 269) (b := true) (c := false) rfl rfl rfl rfl) (by assumption) ?_
             (try simp only [zP, zA, zB, zC])
             refine wpAnyH_listed #[true, true, true, true, true, true, true, true, true, true, true, true, true, true, true, true, true, true, true, true, true, true, true, true, true, true, true, true, true, true, true, true, true, true, true, true, true, true, true, true, true, true, false] (by kernel_rfl) ?_
             refine take_on (i := 42) (v := ?_) (some 285) rfl (by kernel_rfl) (by kernel_rfl) (by kernel_rfl) rfl (fun c a w => hQ' c a _ _ w) (by rfl) ?_ (by assumption) ?_
             rotate_left
             ·intro w hSw; (try dsimp only at hSw); go_simp; (try with_reducible rfl)
             (try simp only [zP, zA, zB, zC])
             refine wpAnyH_listed #[true, true, true, true, true, true, true, true, true, true, true, true, true, true, true, true, true, true, true, true, true, true, true, true, true, true, true, true, true, true, true, true, true, true, true, true, true, true, true, true, true, true, true] (by kernel_rfl) ?_
             refine wpAnyH_done (by kernel_rfl) ?_ _
             refine hN _ _ ?_
             clear hN hQ' Q'
             go_wp2_with (fail)
             go_roundw
             case rel => exact ⟨k + 1, by omega, by omega, by go_num, HE.out, hbel.trans (bs_0.mono hbel.size)⟩
             case measure => simp [intOf]; omega
           ·have z1 : ((c.kind : Int) == 2) = false := by simpa using h1
            have HE := Lib.hid (HN.out (by simp [h1]))
            clear h1 HN HH
            refine take_on (i := 8) (v := ?_) (some 251) rfl (by kernel_rfl) (by kernel_rfl) (by kernel_rfl) rfl (fun c a w => hQ' c a _ _ w) (by rfl) ?_ (by assumption) ?_
            rotate_left
            ·intro w hSw; (try dsimp only at hSw); go_simp; (try with_reducible rfl)
            (try simp only [zP, zA, zB, zC])
            refine wpAnyH_listed #[true, true, true, true, true, true, true, true, true, false, false, false, false, false, false, false, false, false, false, false, false, false, false, false, false, false, false, false, false, false, false, false, false, false, false, false, false, false, false, false, false, false, false] (by kernel_rfl) ?_
            refine take_on (i := 9) (v := ?_) (some 252) rfl (by kernel_rfl) (by kernel_rfl) (by kernel_rfl) rfl (fun c a w => hQ' c a _ _ w) (by rfl) ?_ (by assumption) ?_
            rotate_left
            ·intro w hSw; (try dsimp only at hSw); go_simp; (try with_reducible rfl)
            (try simp only [zP, zA, zB, zC])
            refine wpAnyH_listed #[true, true, true, true, true, true, true, true, true, true, false, false, false, false, false, false, false, false, false, false, false, false, false, false, false, false, false, false, false, false, false, false, false, false, false, false, false, false, false, false, false, false, false] (by kernel_rfl) ?_
            refine take_off (i := 10) (some 253) rfl (by kernel_rfl) (by kernel_rfl) (by kernel_rfl) rfl (fun c a w => hQ' c a _ _ w) (wanted_off (k := 9) (d := 252) (b := true) (c := false) rfl rfl rfl rfl) (by assumption) ?_
            (try simp only [zP, zA, zB, zC])
            refine wpAnyH_listed #[true, true, true, true, true, true, true, true, true, true, true, false, false, false, false, false, false, false, false, false, false, false, false, false, false, false, false, false, false, false, false, false, false, false, false, false, false, false, false, false, false, false, false] (by kernel_rfl) ?_
            refine take_off (i := 11) (some 254) rfl (by kernel_rfl) (by kernel_rfl) (by kernel_rfl) rfl (fun c a w => hQ' c a _ _ w) (wanted_off (k := 9) (d := 252) (b := true) (c := false) rfl rfl rfl rfl) (by assumption) ?_
            (try simp only [zP, zA, zB, zC])
            refine wpAnyH_listed #[true, true, true, true, true, true, true, true, true, true, true, true, false, false, false, false, false, false, false, false, false, false, false, false, false, false, false, false, false, false, false, false, false, false, false, false, false, false, false, false, false, false, false] (by kernel_rfl) ?_
            refine take_off (i := 12) (some 255) rfl (by kernel_rfl) (by kernel_rfl) (by kernel_rfl) rfl (fun c a w => hQ' c a _ _ w) (wanted_off (k := 9) (d := 252) (b := true) (c := false) rfl rfl rfl rfl) (by assumption) ?_
            (try simp only [zP, zA, zB, zC])
            refine wpAnyH_listed #[true, true, true, true, true, true, true, true, true, true, true, true, true, false, false, false, false, false, false, false, false, false, false, false, false, false, false, false, false, false, false, false, false, false, false, false, false, false, false, false, false, false, false] (by kernel_rfl) ?_
            refine take_off (i := 13) (some 256) rfl (by kernel_rfl) (by kernel_rfl) (by kernel_rfl) rfl (fun c a w => hQ' c a _ _ w) (wanted_off (k := 9) (d := 252) (b := true) (c := false) rfl rfl rfl rfl) (by assumption) ?_
            (try simp only [zP, zA, zB, zC])
            refine wpAnyH_listed #[true, true, true, true, true, true, true, true, true, true, true, true, true, true, false, false, false, false, false, false, false, false, false, false, false, false, false, false, false, false, false, false, false, false, false, false, false, false, false, false, false, false, false] (by kernel_rfl) ?_
            refine take_off (i := 14) (some 257) rfl (by kernel_rfl) (by kernel_rfl) (by kernel_rfl) rfl (fun c a w => hQ' c a _ _ w) (wanted_off (k := 9) (d := 252) (b := true) (c := false) rfl rfl rfl rfl) (by assumption) ?_
            (try simp only [zP, zA, zB, zC])
            refine wpAnyH_listed #[true, true, true, true, true, true, true, true, true, true, true, true, true, true, true, false, false, false, false, false, false, false, false, false, false, false, false, false, false, false, false, false, false, false, false, false, false, false, false, false, false, false, false] (by kernel_rfl) ?_
            refine take_off (i := 15) (some 258) rfl (by kernel_rfl) (by kernel_rfl) (by kernel_rfl) rfl (fun c a w => hQ' c a _ _ w) (wanted_off (k := 9) (d := 252) (b := true) (c := false) rfl rfl rfl rfl) (by assumption) ?_
            (try simp only [zP, zA, zB, zC])
            refine wpAnyH_listed #[true, true, true, true, true, true, true, true, true, true, true, true, true, true, true, true, false, false, false, false, false, false, false, false, false, false, false, false, false, false, false, false, false, false, false, false, false, false, false, false, false, false, false] (by kernel_rfl) ?_
            refine take_off (i := 16) (some 259) rfl (by kernel_rfl) (by kernel_rfl) (by kernel_rfl) rfl (fun c a w => hQ' c a _ _ w) (wanted_off (k := 9) (d := 252) (b := true) (c := false) rfl rfl rfl rfl) (by assumption) ?_
            (try simp only [zP, zA, zB, zC])
            refine wpAnyH_listed #[true, true, true, true, true, true, true, true, true, true, true, true, true, true, true, true, true, false, false, false, false, false, false, false, false, false, false, false, false, false, false, false, false, false, false, false, false, false, false, false, false, false, false] (by kernel_rfl) ?_
            refine take_off (i := 17) (some 260) rfl (by kernel_rfl) (by kernel_rfl) (by kernel_rfl) rfl (fun c a w => hQ' c a _ _ w) (wanted_off (k := 9) (d := 252) (b := true) (c := false) rfl rfl rfl rfl) (by assumption) ?_
            (try simp only [zP, zA, zB, zC])
            refine wpAnyH_listed #[true, true, true, true, true, true, true, true, true, true, true, true, true, true, true, true, true, true, false, false, false, false, false, false, false, false, false, false, false, false, false, false, false, false, false, false, false, false, false, false, false, false, false] (by kernel_rfl) ?_
            refine take_off (i := 18) (some 261) rfl (by kernel_rfl) (by kernel_rfl) (by kernel_rfl) rfl (fun c a w => hQ' c a _ _ w) (wanted_off (k := 9) (d := 252) (b := true) (c := false) rfl rfl rfl rfl) (by assumption) ?_
            (try simp only [zP, zA, zB, zC])
            refine wpAnyH_listed #[true, true, true, true, true, true, true, true, true, true, true, true, true, true, true, true, true, true, true, false, false, false, false, false, false, false, false, false, false, false, false, false, false, false, false, false, false, false, false, false, false, false, false] (by kernel_rfl) ?_
            refine take_off (i := 19) (some 262) rfl (by kernel_rfl) (by kernel_rfl) (by kernel_rfl) rfl (fun c a w => hQ' c a _ _ w) (wanted_off (k := 9) (d := 252) (b := true) (c := false) rfl rfl rfl rfl) (by assumption) ?_
            (try simp only [zP, zA, zB, zC])
            refine wpAnyH_listed #[true, true, true, true, true, true, true, true, true, true, true, true, true, true, true, true, true, true, true, true, false, false, false, false, false, false, false, false, false, false, false, false, false, false, false, false, false, false, false, false, false, false, false] (by kernel_rfl) ?_
            refine take_off (i := 20) (some 263) rfl (by kernel_rfl) (by kernel_rfl) (by kernel_rfl) rfl (fun c a w => hQ' c a _ _ w) (wanted_off (k := 9) (d := 252) (b := true) (c := false) rfl rfl rfl rfl) (by assumption) ?_
            (try simp only [zP, zA, zB, zC])
            refine wpAnyH_listed #[true, true, true, true, true, true, true, true, true, true, true, true, true, true, true, true, true, true, true, true, true, false, false, false, false, false, false, false, false, false, false, false, false, false, false, false, false, false, false, false, false, false, false] (by kernel_rfl) ?_
            refine take_off (i := 21) (some 264) rfl (by kernel_rfl) (by kernel_rfl) (by kernel_rfl) rfl (fun c a w => hQ' c a _ _ w) (wanted_off (k := 9) (d := 252) (b := true) (c := false) rfl rfl rfl rfl) (by assumption) ?_
            (try simp only [zP, zA, zB, zC])
            refine wpAnyH_listed #[true, true, true, true, true, true, true, true, true, true, true, true, true, true, true, true, true, true, true, true, true, true, false, false, false, false, false, false, false, false, false, false, false, false, false, false, false, false, false, false, false, false, false] (by kernel_rfl) ?_
            refine take_off (i := 22) (some 265) rfl (by kernel_rfl) (by kernel_rfl) (by kernel_rfl) rfl (fun c a w => hQ' c a _ _ w) (wanted_off (k := 9) (d := 252) (b := true) (c := false) rfl rfl rfl rfl) (by assumption) ?_
            (try simp only [zP, zA, zB, zC])
            refine wpAnyH_listed #[true, true, true, true, true, true, true, true, true, true, true, true, true, true, true, true, true, true, true, true, true, true, true, false, false, false, false, false, false, false, false, false, false, false, false, false, false, false, false, false, false, false, false] (by kernel_rfl) ?_
            refine take_off (i := 23) (some 266) rfl (by kernel_rfl) (by kernel_rfl) (by kernel_rfl) rfl (fun c a w => hQ' c a _ _ w) (wanted_off (k := 9) (d := 252) (b := true) (c := false) rfl rfl rfl rfl) (by assumption) ?_
            (try simp only [zP, zA, zB, zC])
            refine wpAnyH_listed #[true, true, true, true, true, true, true, true, true, true, true, true, true, true, true, true, true, true, true, true, true, true, true, true, false, false, false, false, false, false, false, false, false, false, false, false, false, false, false, false, false, false, false] (by kernel_rfl) ?_
            refine take_off (i := 24) (some 267) rfl (by kernel_rfl) (by kernel_rfl) (by kernel_rfl) rfl (fun c a w => hQ' c a _ _ w) (wanted_off (k := 9) (d := 252) (b := true) (c := false) rfl rfl rfl rfl) (by assumption) ?_
            (try simp only [zP, zA, zB, zC])
            refine wpAnyH_listed #[true, true, true, true, true, true, true, true, true, true, true, true, true, true, true, true, true, true, true, true, true, true, true, true, true, false, false, false, false, false, false, false, false, false, false, false, false, false, false, false, false, false, false] (by kernel_rfl) ?_
            refine take_on (i := 25) (v := ?_) (some 268) rfl (by kernel_rfl) (by kernel_rfl) (by kernel_rfl) rfl (fun c a w => hQ' c a _ _ w) (by rfl) ?_ (by assumption) ?_
            rotate_left
            ·intro w hSw; (try dsimp only at hSw); go_simp; (try with_reducible rfl)
            (try simp only [zP, zA, zB, zC])
            refine wpAnyH_listed #[true, true, true, true, true, true, true, true, true, true, true, true, true, true, true, true, true, true, true, true, true, true, true, true, true, true, false, false, false, false, false, false, false, false, false, false, false, false, false, false, false, false, false] (by kernel_rfl) ?_
            refine take_on (i := 26) (v := ?_) (some 269) rfl (by kernel_rfl) (by kernel_rfl) (by kernel_rfl) rfl (fun c a w => hQ' c a _ _ w) (by rfl) ?_ (by assumption) ?_
            rotate_left
            ·intro w hSw; (try dsimp only at hSw); go_simp; (try with_reducible rfl)
            (try simp only [zP, zA, zB, zC])
            refine wpAnyH_listed #[true, true, true, true, true, true, true, true, true, true, true, true, true, true, true, true, true, true, true, true, true, true, true, true, true, true, true, false, false, false, false, false, false, false, false, false, false, false, false, false, false, false, false] (by kernel_rfl) ?_
            refine take_off (i := 27) (some 270) rfl (by kernel_rfl) (by kernel_rfl) (by kernel_rfl) rfl (fun c a w => hQ' c a _ _ w) (wanted_off (k := 26) (d := 269) (b := true) (c := false) rfl rfl rfl rfl) (by assumption) ?_
            (try simp only [zP, zA, zB, zC])
            refine wpAnyH_listed #[true, true, true, true, true, true, true, true, true, true, true, true, true, true, true, true, true, true, true, true, true, true, true, true, true, true, true, true, false, false, false, false, false, false, false, false, false, false, false, false, false, false, false] (by kernel_rfl) ?_
            refine take_off (i := 28) (some 271) rfl (by kernel_rfl) (by kernel_rfl) (by kernel_rfl) rfl (fun c a w => hQ' c a _ _ w) (wanted_off (k := 26) (d := 269) (b := true) (c := false) rfl rfl rfl rfl) (by assumption) ?_
            (try simp only [zP, zA, zB, zC])
            refine wpAnyH_listed #[true, true, true, true, true, true, true, true, true, true, true, true, true, true, true, true, true, true, true, true, true, true, true, true, true, true, true, true, true, false, false, false, false, false, false, false, false, false, false, false, false, false, false] (by kernel_rfl) ?_
            refine take_off (i := 29) (some 272) rfl (by kernel_rfl) (by kernel_rfl) (by kernel_rfl) rfl (fun c a w => hQ' c a _ _ w) (wanted_off (k := 26) (d := 269) (b := true) (c := false) rfl rfl rfl rfl) (by assumption) ?_
            (try simp only [zP, zA, zB, zC])
            refine wpAnyH_listed #[true, true, true, true, true, true, true, true, true, true, true, true, true, true, true, true, true, true, true, true, true, true, true, true, true, true, true, true, true, true, false, false, false, false, false, false, false, false, false, false, false, false, false] (by kernel_rfl) ?_
            refine take_off (i := 30) (some 273) rfl (by kernel_rfl) (by kernel_rfl) (by kernel_rfl) rfl (fun c a w => hQ' c a _ _ w) (wanted_off (k := 26) (d := 269) (b := true) (c := false) rfl rfl rfl rfl) (by assumption) ?_
            (try simp only [zP, zA, zB, zC])
            refine wpAnyH_listed #[true, true, true, true, true, true, true, true, true, true, true, true, true, true, true, true, true, true, true, true, true, true, true, true, true, true, true, true, true, true, true, false, false, false, false, false, false, false, false, false, false, false, false] (by kernel_rfl) ?_
            refine take_off (i := 31) (some 274) rfl (by kernel_rfl) (by kernel_rfl) (by kernel_rfl) rfl (fun c a w => hQ' c a _ _ w) (wanted_off (k := 26) (d := 269) (b := true) (c := false) rfl rfl rfl rfl) (by assumption) ?_
            (try simp only [zP, zA, zB, zC])
            refine wpAnyH_listed #[true, true, true, true, true, true, true, true, true, true, true, true, true, true, true, true, true, true, true, true, true, true, true, true, true, true, true, true, true, true, true, true, false, false, false, false, false, false, false, false, false, false, false] (by kernel_rfl) ?_
            refine take_off (i := 32) (some 275) rfl (by kernel_rfl) (by kernel_rfl) (by kernel_rfl) rfl (fun c a w => hQ' c a _ _ w) (wanted_off (k := 26) (d := 269) (b := true) (c := false) rfl rfl rfl rfl) (by assumption) ?_
            (try simp only [zP, zA, zB, zC])
            refine wpAnyH_listed #[true, true, true, true, true, true, true, true, true, true, true, true, true, true, true, true, true, true, true, true, true, true, true, true, true, true, true, true, true, true, true, true, true, false, false, false, false, false, false, false, false, false, false] (by kernel_rfl) ?_
            refine take_off (i := 33) (some 276) rfl (by kernel_rfl) (by kernel_rfl) (by kernel_rfl) rfl (fun c a w => hQ' c a _ _ w) (wanted_off (k := 26) (d := 269) (b := true) (c := false) rfl rfl rfl rfl) (by assumption) ?_
            (try simp only [zP, zA, zB, zC])
            refine wpAnyH_listed #[true, true, true, true, true, true, true, true, true, true, true, true, true, true, true, true, true, true, true, true, true, true, true, true, true, true, true, true, true, true, true, true, true, true, false, false, false, false, false, false, false, false, false] (by kernel_rfl) ?_
            refine take_off (i := 34) (some 277) rfl (by kernel_rfl) (by kernel_rfl) (by kernel_rfl) rfl (fun c a w => hQ' c a _ _ w) (wanted_off (k := 26) (d := 269) (b := true) (c := false) rfl rfl rfl rfl) (by assumption) ?_
            (try simp only [zP, zA, zB, zC])
            refine wpAnyH_listed #[true, true, true, true, true, true, true, true, true, true, true, true, true, true, true, true, true, true, true, true, true, true, true, true, true, true, true, true, true, true, true, true, true, true, true, false, false, false, false, false, false, false, false] (by kernel_rfl) ?_
            refine take_off (i := 35) (some 278) rfl (by kernel_rfl) (by kernel_rfl) (by kernel_rfl) rfl (fun c a w => hQ' c a _ _ w) (wanted_off (k := 26) (d := 269) (b := true) (c := false) rfl rfl rfl rfl) (by assumption) ?_
            (try simp only [zP, zA, zB, zC])
            refine wpAnyH_listed #[true, true, true, true, true, true, true, true, true, true, true, true, true, true, true, true, true, true, true, true, true, true, true, true, true, true, true, true, true, true, true, true, true, true, true, true, false, false, false, false, false, false, false] (by kernel_rfl) ?_
            refine take_off (i := 36) (some 279) rfl (by kernel_rfl) (by kernel_rfl) (by kernel_rfl) rfl (fun c a w => hQ' c a _ _ w) (wanted_off (k := 26) (d := 269) (b := true) (c := false) rfl rfl rfl rfl) (by assumption) ?_
            (try simp only [zP, zA, zB, zC])
            refine wpAnyH_listed #[true, true, true, true, true, true, true, true, true, true, true, true, true, true, true, true, true, true, true, true, true, true, true, true, true, true, true, true, true, true, true, true, true, true, true, true, true, false, false, false, false, false, false] (by kernel_rfl) ?_
            refine take_off (i := 37) (some 280) rfl (by kernel_rfl) (by kernel_rfl) (by kernel_rfl) rfl (fun c a w => hQ' c a _ _ w) (wanted_off (k := 26) (d := 269) (b := true) (c := false) rfl rfl rfl rfl) (by assumption) ?_
            (try simp only [zP, zA, zB, zC])
            refine wpAnyH_listed #[true, true, true, true, true, true, true, true, true, true, true, true, true, true, true, true, true, true, true, true, true, true, true, true, true, true, true, true, true, true, true, true, true, true, true, true, true, true, false, false, false, false, false] (by kernel_rfl) ?_
            refine take_off (i := 38) (some 281) rfl (by kernel_rfl) (by kernel_rfl) (by kernel_rfl) rfl (fun c a w => hQ' c a _ _ w) (wanted_off (k := 26) (d := 269) (b := true) (c := false) rfl rfl rfl rfl) (by assumption) ?_
            (try simp only [zP, zA, zB, zC])
            refine wpAnyH_listed #[true, true, true, true, true, true, true, true, true, true, true, true, true, true, true, true, true, true, true, true, true, true, true, true, true, true, true, true, true, true, true, true, true, true, true, true, true, true, true, false, false, false, false] (by kernel_rfl) ?_
            refine take_off (i := 39) (some 282) rfl (by kernel_rfl) (by kernel_rfl) (by kernel_rfl) rfl (fun c a w => hQ' c a _ _ w) (wanted_off (k := 26) (d := 269) (b := true) (c := false) rfl rfl rfl rfl) (by assumption) ?_
            (try simp only [zP, zA, zB, zC])
            refine wpAnyH_listed #[true, true, true, true, true, true, true, true, true, true, true, true, true, true, true, true, true, true, true, true, true, true, true, true, true, true, true, true, true, true, true, true, true, true, true, true, true, true, true, true, false, false, false] (by kernel_rfl) ?_
            refine take_off (i := 40) (some 283) rfl (by kernel_rfl) (by kernel_rfl) (by kernel_rfl) rfl (fun c a w => hQ' c a _ _ w) (wanted_off (k := 26) (d := 269) (b := true) (c := false) rfl rfl rfl rfl) (by assumption) ?_
            (try simp only [zP, zA, zB, zC])
            refine wpAnyH_listed #[true, true, true, true, true, true, true, true, true, true, true, true, true, true, true, true, true, true, true, true, true, true, true, true, true, true, true, true, true, true, true, true, true, true, true, true, true, true, true, true, true, false, false] (by kernel_rfl) ?_
            refine take_off (i := 41) (some 284) rfl (by kernel_rfl) (by kernel_rfl) (by kernel_rfl) rfl (fun c a w => hQ' c a _ _ w) (wanted_off (k := 26) (d := 269) (b := true) (c := false) rfl rfl rfl rfl) (by assumption) ?_
            (try simp only [zP, zA, zB, zC])
            refine wpAnyH_listed #[true, true, true, true, true, true, true, true, true, true, true, true, true, true, true, true, true, true, true, true, true, true, true, true, true, true, true, true, true, true, true, true, true, true, true, true, true, true, true, true, true, true, false] (by kernel_rfl) ?_
            refine take_on (i := 42) (v := ?_) (some 285) rfl (by kernel_rfl) (by kernel_rfl) (by kernel_rfl) rfl (fun c a w => hQ' c a _ _ w) (by rfl) ?_ (by assumption) ?_
            rotate_left
            ·intro w hSw; (try dsimp only at hSw); go_simp; (try with_reducible rfl)
            (try simp only [zP, zA, zB, zC])
            refine wpAnyH_listed #[true, true, true, true, true, true, true, true, true, true, true, true, true, true, true, true, true, true, true, true, true, true, true, true, true, true, true, true, true, true, true, true, true, true, true, true, true, true, true, true, true, true, true] (by kernel_rfl) ?_
            refine wpAnyH_done (by kernel_rfl) ?_ _
            refine hN _ _ ?_
            clear hN hQ' Q'
            go_wp2_with (fail)
            go_roundw
            case rel => exact ⟨k + 1, by omega, by omega, by go_num, HE.out, hbel.trans (bs_0.mono hbel.size)⟩
            case measure => simp [intOf]; omega
         ·have hkN' : k = N5 := by omega
          have HE : Hid (lies (px, py) z.bods = false) := Lib.hid (by rw [hkN', HNZ.out, List.take_length] at hnh; exact hnh)
          have hnl : ¬ (k : Int) < (N5 : Int) := by omega
          have cPr := rowCells hPr
          clear hnh hkN'
          go_upto_region 36 with (fail)
          obtain ⟨wC, ew⟩ : ∃ wC, wC = wr := ⟨_, rfl⟩
          subst ew
          obtain ⟨X1, hX1⟩ : ∃ X1, X1 = z.bods ++ [itemB (px, py)] := ⟨_, rfl⟩
          have HX1b := Lib.hid hX1
          have hpC := hxr.lt
          have hlG := (Array.getElem?_eq_some_iff.1 hGr).1
          have hlD := (Array.getElem?_eq_some_iff.1 hDr).1
          have hpg5 : p ≠ g5 := fun e => hxr.notP.2 (by rw [e]; rfl)
          have hszC : w.heap.size ≤ wC.heap.size := by have := HFB.out.size; have := hbel.size; omega
          clear hX1 hnl cPr hPB hGB hDB
          have ho_0 : OwnRB wC.drew T (.slice (some ⟨g5, 0, none⟩) N5 cap5) z.bods := hxr.2.2.2.2
          have bs_0 : Below wC.heap.size wC wC.drew := belowDrew wC 1
          have hGr_0 : wC.drew.heap[gp]? = _ := hGr
          have hDr_0 : wC.drew.heap[bp]? = _ := hDr
          have hPr_0 : wC.drew.heap[p]? = _ := hPr
          refine wp_region_held_drew (S := (fun w' => w'.cell? ⟨gp, i, none⟩ = some (.slice (some ⟨bp, 0, none⟩) 2 2) ∧ (∀ j, w'.cell? ⟨bp, j, none⟩ = #[Value.int .i64 px, .int .i64 py][j]?))) (by kernel_rfl) ?_ (fun hHeld => ?_)
          ·exact ⟨cG hGr_0, rowCells hDr_0⟩
          refine wpAnyH_abs (fun c a d v w h => by cases d <;> exact h) ?_
          intro Q' hQ' hN
          refine wpAnyH_listed #[false, false, false, false, false, false, false, false, false, false, false, false, false, false, false, false, false, false, false, false, false, false, false] (by kernel_rfl) ?_
          refine take_on (i := 0) (v := ?_) (some 286) rfl (by kernel_rfl) (by kernel_rfl) (by kernel_rfl) rfl (fun c a w => hQ' c a _ _ w) (by rfl) ?_ (by assumption) ?_
          rotate_left
          ·intro w hSw; (try dsimp only at hSw); go_simp; (try with_reducible rfl)
          (try simp only [zP, zA, zB, zC])
          refine wpAnyH_listed #[true, false, false, false, false, false, false, false, false, false, false, false, false, false, false, false, false, false, false, false, false, false, false] (by kernel_rfl) ?_
          refine take_on (i := 1) (v := ?_) (some 287) rfl (by kernel_rfl) (by kernel_rfl) (by kernel_rfl) rfl (fun c a w => hQ' c a _ _ w) (by rfl) ?_ (by assumption) ?_
          rotate_left
          ·intro w hSw; (try dsimp only at hSw); go_simp; (try with_reducible rfl)
          (try simp only [zP, zA, zB, zC])
          refine wpAnyH_listed #[true, true, false, false, false, false, false, false, false, false, false, false, false, false, false, false, false, false, false, false, false, false, false] (by kernel_rfl) ?_
          refine take_on (i := 2) (v := ?_) (some 288) rfl (by kernel_rfl) (by kernel_rfl) (by kernel_rfl) rfl (fun c a w => hQ' c a _ _ w) (by rfl) ?_ (by assumption) ?_
          rotate_left
          ·intro w hSw; (try dsimp only at hSw); go_simp; (try with_reducible rfl)
          (try simp only [zP, zA, zB, zC])
          refine wpAnyH_listed #[true, true, true, false, false, false, false, false, false, false, false, false, false, false, false, false, false, false, false, false, false, false, false] (by kernel_rfl) ?_
          refine take_on (i := 3) (v := ?_) (some 289) rfl (by kernel_rfl) (by kernel_rfl) (by kernel_rfl) rfl (fun c a w => hQ' c a _ _ w) (by rfl) ?_ (by assumption) ?_
          rotate_left
          ·intro w hSw; (try dsimp only at hSw); go_simp; (try with_reducible rfl)
          (try simp only [zP, zA, zB, zC])
          refine wpAnyH_listed #[true, true, true, true, false, false, false, false, false, false, false, false, false, false, false, false, false, false, false, false, false, false, false] (by kernel_rfl) ?_
          refine take_on (i := 5) (v := ?_) (some 291) rfl (by kernel_rfl) (by kernel_rfl) (by kernel_rfl) rfl (fun c a w => hQ' c a _ _ w) (by rfl) ?_ (by assumption) ?_
          rotate_left
          ·intro w hSw; (try dsimp only at hSw); go_simp; (try with_reducible rfl)
          (try simp only [zP, zA, zB, zC])
          refine wpAnyH_listed #[true, true, true, true, false, true, false, false, false, false, false, false, false, false, false, false, false, false, false, false, false, false, false] (by kernel_rfl) ?_
          refine take_on (i := 6) (v := ?_) (some 292) rfl (by kernel_rfl) (by kernel_rfl) (by kernel_rfl) rfl (fun c a w => hQ' c a _ _ w) (by rfl) ?_ (by assumption) ?_
          rotate_left
          ·intro w hSw; (try dsimp only at hSw); go_simp; (try with_reducible rfl)
          (try simp only [zP, zA, zB, zC])
          refine wpAnyH_listed #[true, true, true, true, false, true, true, false, false, false, false, false, false, false, false, false, false, false, false, false, false, false, false] (by kernel_rfl) ?_
          refine take_on (i := 7) (v := ?_) (some 293) rfl (by kernel_rfl) (by kernel_rfl) (by kernel_rfl) rfl (fun c a w => hQ' c a _ _ w) (by rfl) ?_ (by assumption) ?_
          rotate_left
          ·intro w hSw; (try dsimp only at hSw); go_simp; (try with_reducible rfl)
          (try simp only [zP, zA, zB, zC])
          refine wpAnyH_listed #[true, true, true, true, false, true, true, true, false, false, false, false, false, false, false, false, false, false, false, false, false, false, false] (by kernel_rfl) ?_
          refine take_on (i := 8) (v := ?_) (some 294) rfl (by kernel_rfl) (by kernel_rfl) (by kernel_rfl) rfl (fun c a w => hQ' c a _ _ w) (by rfl) ?_ (by assumption) ?_
          rotate_left
          ·intro w hSw; (try dsimp only at hSw); go_simp; (try with_reducible rfl)
          (try simp only [zP, zA, zB, zC])
          refine wpAnyH_listed #[true, true, true, true, false, true, true, true, true, false, false, false, false, false, false, false, false, false, false, false, false, false, false] (by kernel_rfl) ?_
          refine take_on (i := 9) (v := ?_) (some 295) rfl (by kernel_rfl) (by kernel_rfl) (by kernel_rfl) rfl (fun c a w => hQ' c a _ _ w) (by rfl) ?_ (by assumption) ?_
          rotate_left
          ·intro w hSw; (try dsimp only at hSw); go_simp; (try with_reducible rfl)
          (try simp only [zP, zA, zB, zC])
          refine wpAnyH_listed #[true, true, true, true, false, true, true, true, true, true, false, false, false, false, false, false, false, false, false, false, false, false, false] (by kernel_rfl) ?_
          refine take_on (i := 10) (v := ?_) (some 296) rfl (by kernel_rfl) (by kernel_rfl) (by kernel_rfl) rfl (fun c a w => hQ' c a _ _ w) (by rfl) ?_ (by assumption) ?_
          rotate_left
          ·intro w hSw; (try dsimp only at hSw); go_simp; (try with_reducible rfl)
          (try simp only [zP, zA, zB, zC])
          refine wpAnyH_listed #[true, true, true, true, false, true, true, true, true, true, true, false, false, false, false, false, false, false, false, false, false, false, false] (by kernel_rfl) ?_
          refine take_on (i := 11) (v := ?_) (some 297) rfl (by kernel_rfl) (by kernel_rfl) (by kernel_rfl) rfl (fun c a w => hQ' c a _ _ w) (by rfl) ?_ (by assumption) ?_
          rotate_left
          ·intro w hSw; (try dsimp only at hSw); go_simp; (try with_reducible rfl)
          (try simp only [zP, zA, zB, zC])
          refine wpAnyH_listed #[true, true, true, true, false, true, true, true, true, true, true, true, false, false, false, false, false, false, false, false, false, false, false] (by kernel_rfl) ?_
          refine take_on (i := 12) (v := ?_) (some 298) rfl (by kernel_rfl) (by kernel_rfl) (by kernel_rfl) rfl (fun c a w => hQ' c a _ _ w) (by rfl) ?_ (by assumption) ?_
          rotate_left
          ·intro w hSw; (try dsimp only at hSw); go_simp; (try with_reducible rfl)
          (try simp only [zP, zA, zB, zC])
          refine wpAnyH_listed #[true, true, true, true, false, true, true, true, true, true, true, true, true, false, false, false, false, false, false, false, false, false, false] (by kernel_rfl) ?_
          refine take_on (i := 13) (v := ?_) (some 299) rfl (by kernel_rfl) (by kernel_rfl) (by kernel_rfl) rfl (fun c a w => hQ' c a _ _ w) (by rfl) ?_ (by assumption) ?_
          rotate_left
          ·intro w hSw; (try dsimp only at hSw); go_simp; (try with_reducible rfl)
          (try simp only [zP, zA, zB, zC])
          refine wpAnyH_listed #[true, true, true, true, false, true, true, true, true, true, true, true, true, true, false, false, false, false, false, false, false, false, false] (by kernel_rfl) ?_
          refine take_on (i := 14) (v := ?_) (some 300) rfl (by kernel_rfl) (by kernel_rfl) (by kernel_rfl) rfl (fun c a w => hQ' c a _ _ w) (by rfl) ?_ (by assumption) ?_
          rotate_left
          ·intro w hSw; (try dsimp only at hSw); go_simp; (try with_reducible rfl)
          (try simp only [zP, zA, zB, zC])
          refine wpAnyH_listed #[true, true, true, true, false, true, true, true, true, true, true, true, true, true, true, false, false, false, false, false, false, false, false] (by kernel_rfl) ?_
          refine take_on (i := 15) (v := ?_) (some 301) rfl (by kernel_rfl) (by kernel_rfl) (by kernel_rfl) rfl (fun c a w => hQ' c a _ _ w) (by rfl) ?_ (by assumption) ?_
          rotate_left
          ·intro w hSw; (try dsimp only at hSw); go_simp; (try with_reducible rfl)
          (try simp only [zP, zA, zB, zC])
          refine wpAnyH_listed #[true, true, true, true, false, true, true, true, true, true, true, true, true, true, true, true, false, false, false, false, false, false, false] (by kernel_rfl) ?_
          refine take_on (i := 16) (v := ?_) (some 302) rfl (by kernel_rfl) (by kernel_rfl) (by kernel_rfl) rfl (fun c a w => hQ' c a _ _ w) (by rfl) ?_ (by assumption) ?_
          rotate_left
          ·intro w hSw; (try dsimp only at hSw); go_simp; (try with_reducible rfl)
          (try simp only [zP, zA, zB, zC])
          refine wpAnyH_listed #[true, true, true, true, false, true, true, true, true, true, true, true, true, true, true, true, true, false, false, false, false, false, false] (by kernel_rfl) ?_
          refine take_on (i := 17) (v := ?_) (some 303) rfl (by kernel_rfl) (by kernel_rfl) (by kernel_rfl) rfl (fun c a w => hQ' c a _ _ w) (by rfl) ?_ (by assumption) ?_
          rotate_left
          ·intro w hSw; (try dsimp only at hSw); go_simp; (try with_reducible rfl)
          (try simp only [zP, zA, zB, zC])
          refine wpAnyH_listed #[true, true, true, true, false, true, true, true, true, true, true, true, true, true, true, true, true, true, false, false, false, false, false] (by kernel_rfl) ?_
          refine wpAnyH_ready (rs := [4, 18]) (by kernel_rfl) (by simp) ?_
          refine AllReadyH.cons rfl (fun K hK => ?_) (AllReadyH.cons rfl (fun K hK => ?_) AllReadyH.nil)
          ·have cx := rowCells hPr
           go_simp
           clear cx
           refine hK.out _ _ ?_ (fun hHeld => ?_)
           ·exact ⟨cG hGr_0, rowCells hDr_0⟩
           clear hK K
           (try simp only [zP, zA, zB, zC])
           refine wpAnyH_listed #[true, true, true, true, true, true, true, true, true, true, true, true, true, true, true, true, true, true, false, false, false, false, false] (by kernel_rfl) ?_
           refine wpAnyH_ready (rs := [18]) (by kernel_rfl) (by simp) ?_
           refine AllReadyH.cons rfl (fun K hK => ?_) AllReadyH.nil
           go_simp
           have hrg : ((wC.alloc (.cells #[.int .i64 2, .int .i64 0, .int .i64 px, .int .i64 py, .int .i64 0, .int .i64 0, .int .i64 0, .int .i64 0, .int .i64 0] 100)).drew).rangeAt wC.heap.size 0 (bdL (itemB (px, py))) := range_mk wC (itemB (px, py)) 100
           obtain ⟨w_1, hw_1, P_1, hb_1⟩ : ∃ W, (wC.alloc (.cells #[.int .i64 2, .int .i64 0, .int .i64 px, .int .i64 py, .int .i64 0, .int .i64 0, .int .i64 0, .int .i64 0, .int .i64 0] 100)).drew = W ∧ W.heap[wC.heap.size]? = some (.cells #[.int .i64 2, .int .i64 0, .int .i64 px, .int .i64 py, .int .i64 0, .int .i64 0, .int .i64 0, .int .i64 0, .int .i64 0] 100 (0, 0)) ∧ Below wC.drew.heap.size wC.drew W := ⟨_, rfl, heap_alloc_new wC.drew _, below1 wC.drew _⟩
           rw [hw_1] at hrg
           try rw [hw_1]
           clear hw_1
           have hp_1 := bs_0.size
           have hGr_1 := keepHeap hb_1 hGr_0
           have hDr_1 := keepHeap hb_1 hDr_0
           have hPr_1 := keepHeap hb_1 hPr_0
           have bs_1 := bs_0.trans (hb_1.mono bs_0.size)
           have sz_1 := hb_1.size
           have ho_1 := ho_0.keep hb_1 (Nat.le_refl _)
           refine hK.out _ _ ?_ (fun hHeld => ?_)
           ·exact ⟨cG hGr_1, rowCells hDr_1⟩
           clear hK K
           (try simp only [zP, zA, zB, zC])
           refine wpAnyH_listed #[true, true, true, true, true, true, true, true, true, true, true, true, true, true, true, true, true, true, true, false, false, false, false] (by kernel_rfl) ?_
           refine wpAnyH_ready (rs := [19]) (by kernel_rfl) (by simp) ?_
           refine AllReadyH.cons rfl (fun K hK => ?_) AllReadyH.nil
           refine step_bodyT rfl (.tmp 290) (.tmp 304) rfl T _ z.bods rfl ho_1 (wC.heap.size) (itemB (px, py)) rfl hrg (by have := HNZ.out; omega) (by omega) ?_
           intro v5 w_2 ho_2 hb_2 hg_2 hto
           rw [← HX1b.out] at ho_2
           obtain ⟨a5, c5, rfl, -⟩ := id ho_2.own
           have hPU := bx_push hxr bs_1 hb_2 hg_2 ho_2 hto
           have hGr_2 := (hPU.2.2.2 _ hlG hgpg).trans hGr
           have hDr_2 := (hPU.2.2.2 _ hlD hbpg).trans hDr
           have hPr_2 := (hPU.2.2.2 _ hpC hpg5).trans hPr
           refine hK.out _ _ ?_ (fun hHeld => ?_)
           ·exact ⟨cG hGr_2, rowCells hDr_2⟩
           clear hK K
           (try simp only [zP, zA, zB, zC])
           refine wpAnyH_listed #[true, true, true, true, true, true, true, true, true, true, true, true, true, true, true, true, true, true, true, true, false, false, false] (by kernel_rfl) ?_
           refine take_on (i := 20) (v := ?_) (some 306) rfl (by kernel_rfl) (by kernel_rfl) (by kernel_rfl) rfl (fun c a w => hQ' c a _ _ w) (by rfl) ?_ (by assumption) ?_
           rotate_left
           ·intro w hSw; (try dsimp only at hSw); go_simp; (try with_reducible rfl)
           (try simp only [zP, zA, zB, zC])
           refine wpAnyH_listed #[true, true, true, true, true, true, true, true, true, true, true, true, true, true, true, true, true, true, true, true, true, false, false] (by kernel_rfl) ?_
           refine take_on (i := 21) (v := ?_) (some 307) rfl (by kernel_rfl) (by kernel_rfl) (by kernel_rfl) rfl (fun c a w => hQ' c a _ _ w) (by rfl) ?_ (by assumption) ?_
           rotate_left
           ·intro w hSw; (try dsimp only at hSw); go_simp; (try with_reducible rfl)
           (try simp only [zP, zA, zB, zC])
           refine wpAnyH_listed #[true, true, true, true, true, true, true, true, true, true, true, true, true, true, true, true, true, true, true, true, true, true, false] (by kernel_rfl) ?_
           refine wpAnyH_ready (rs := [22]) (by kernel_rfl) (by simp) ?_
           refine AllReadyH.cons rfl (fun K hK => ?_) AllReadyH.nil
           have cn := rowCells hPr_2
           have fn := fun j => frozenHeap hPr_2 j
           go_simp
           have hGr_3 := farHeap (p := ⟨p, 4, none⟩) hGr_2 (fun e => hgpp e.symm) (.slice a5 X1.length c5)
           have hDr_3 := farHeap (p := ⟨p, 4, none⟩) hDr_2 (fun e => hbpp e.symm) (.slice a5 X1.length c5)
           refine hK.out _ _ ?_ (fun hHeld => ?_)
           ·exact ⟨cG hGr_3, rowCells hDr_3⟩
           clear hK K
           (try simp only [zP, zA, zB, zC])
           refine wpAnyH_listed #[true, true, true, true, true, true, true, true, true, true, true, true, true, true, true, true, true, true, true, true, true, true, true] (by kernel_rfl) ?_
           refine wpAnyH_done (by kernel_rfl) ?_ _
           refine hN _ _ ?_
           clear hN hQ' Q'
           go_wp2_with (fail)
           refine bodyPost_ret (v := .tuple #[]) (by simp [results, Tryz.results161]) rfl ⟨rfl, _, _, bxOf hPU.1 ?_, (HFB.out.trans (FrW.below hbel hTB) HS5.out HO5.out).trans hPU.2.1 HS5.out HO5.out, HS5.out, HO5.out.trans hPU.2.2.1 hszC⟩
           rw [HE0.out, HX.out, HE.out, HX1b.out]; rfl
          ·go_simp
           have hrg : ((wC.alloc (.cells #[.int .i64 2, .int .i64 0, .int .i64 px, .int .i64 py, .int .i64 0, .int .i64 0, .int .i64 0, .int .i64 0, .int .i64 0] 100)).drew).rangeAt wC.heap.size 0 (bdL (itemB (px, py))) := range_mk wC (itemB (px, py)) 100
           obtain ⟨w_1, hw_1, P_1, hb_1⟩ : ∃ W, (wC.alloc (.cells #[.int .i64 2, .int .i64 0, .int .i64 px, .int .i64 py, .int .i64 0, .int .i64 0, .int .i64 0, .int .i64 0, .int .i64 0] 100)).drew = W ∧ W.heap[wC.heap.size]? = some (.cells #[.int .i64 2, .int .i64 0, .int .i64 px, .int .i64 py, .int .i64 0, .int .i64 0, .int .i64 0, .int .i64 0, .int .i64 0] 100 (0, 0)) ∧ Below wC.drew.heap.size wC.drew W := ⟨_, rfl, heap_alloc_new wC.drew _, below1 wC.drew _⟩
           rw [hw_1] at hrg
           try rw [hw_1]
           clear hw_1
           have hp_1 := bs_0.size
           have hGr_1 := keepHeap hb_1 hGr_0
           have hDr_1 := keepHeap hb_1 hDr_0
           have hPr_1 := keepHeap hb_1 hPr_0
           have bs_1 := bs_0.trans (hb_1.mono bs_0.size)
           have sz_1 := hb_1.size
           have ho_1 := ho_0.keep hb_1 (Nat.le_refl _)
           refine hK.out _ _ ?_ (fun hHeld => ?_)
           ·exact ⟨cG hGr_1, rowCells hDr_1⟩
           clear hK K
           (try simp only [zP, zA, zB, zC])
           refine wpAnyH_listed #[true, true, true, true, false, true, true, true, true, true, true, true, true, true, true, true, true, true, true, false, false, false, false] (by kernel_rfl) ?_
           refine wpAnyH_ready (rs := [4]) (by kernel_rfl) (by simp) ?_
           refine AllReadyH.cons rfl (fun K hK => ?_) AllReadyH.nil
           have cx := rowCells hPr_1
           go_simp
           clear cx
           refine hK.out _ _ ?_ (fun hHeld => ?_)
           ·exact ⟨cG hGr_1, rowCells hDr_1⟩
           clear hK K
           (try simp only [zP, zA, zB, zC])
           refine wpAnyH_listed #[true, true, true, true, true, true, true, true, true, true, true, true, true, true, true, true, true, true, true, false, false, false, false] (by kernel_rfl) ?_
           refine wpAnyH_ready (rs := [19]) (by kernel_rfl) (by simp) ?_
           refine AllReadyH.cons rfl (fun K hK => ?_) AllReadyH.nil
           refine step_bodyT rfl (.tmp 290) (.tmp 304) rfl T _ z.bods rfl ho_1 (wC.heap.size) (itemB (px, py)) rfl hrg (by have := HNZ.out; omega) (by omega) ?_
           intro v5 w_2 ho_2 hb_2 hg_2 hto
           rw [← HX1b.out] at ho_2
           obtain ⟨a5, c5, rfl, -⟩ := id ho_2.own
           have hPU := bx_push hxr bs_1 hb_2 hg_2 ho_2 hto
           have hGr_2 := (hPU.2.2.2 _ hlG hgpg).trans hGr
           have hDr_2 := (hPU.2.2.2 _ hlD hbpg).trans hDr
           have hPr_2 := (hPU.2.2.2 _ hpC hpg5).trans hPr
           refine hK.out _ _ ?_ (fun hHeld => ?_)
           ·exact ⟨cG hGr_2, rowCells hDr_2⟩
           clear hK K
           (try simp only [zP, zA, zB, zC])
           refine wpAnyH_listed #[true, true, true, true, true, true, true, true, true, true, true, true, true, true, true, true, true, true, true, true, false, false, false] (by kernel_rfl) ?_
           refine take_on (i := 20) (v := ?_) (some 306) rfl (by kernel_rfl) (by kernel_rfl) (by kernel_rfl) rfl (fun c a w => hQ' c a _ _ w) (by rfl) ?_ (by assumption) ?_
           rotate_left
           ·intro w hSw; (try dsimp only at hSw); go_simp; (try with_reducible rfl)
           (try simp only [zP, zA, zB, zC])
           refine wpAnyH_listed #[true, true, true, true, true, true, true, true, true, true, true, true, true, true, true, true, true, true, true, true, true, false, false] (by kernel_rfl) ?_
           refine take_on (i := 21) (v := ?_) (some 307) rfl (by kernel_rfl) (by kernel_rfl) (by kernel_rfl) rfl (fun c a w => hQ' c a _ _ w) (by rfl) ?_ (by assumption) ?_
           rotate_left
           ·intro w hSw; (try dsimp only at hSw); go_simp; (try with_reducible rfl)
           (try simp only [zP, zA, zB, zC])
           refine wpAnyH_listed #[true, true, true, true, true, true, true, true, true, true, true, true, true, true, true, true, true, true, true, true, true, true, false] (by kernel_rfl) ?_
           refine wpAnyH_ready (rs := [22]) (by kernel_rfl) (by simp) ?_
           refine AllReadyH.cons rfl (fun K hK => ?_) AllReadyH.nil
           have cn := rowCells hPr_2
           have fn := fun j => frozenHeap hPr_2 j
           go_simp
           have hGr_3 := farHeap (p := ⟨p, 4, none⟩) hGr_2 (fun e => hgpp e.symm) (.slice a5 X1.length c5)
           have hDr_3 := farHeap (p := ⟨p, 4, none⟩) hDr_2 (fun e => hbpp e.symm) (.slice a5 X1.length c5)
           refine hK.out _ _ ?_ (fun hHeld => ?_)
           ·exact ⟨cG hGr_3, rowCells hDr_3⟩
           clear hK K
           (try simp only [zP, zA, zB, zC])
           refine wpAnyH_listed #[true, true, true, true, true, true, true, true, true, true, true, true, true, true, true, true, true, true, true, true, true, true, true] (by kernel_rfl) ?_
           refine wpAnyH_done (by kernel_rfl) ?_ _
           refine hN _ _ ?_
           clear hN hQ' Q'
           go_wp2_with (fail)
           refine bodyPost_ret (v := .tuple #[]) (by simp [results, Tryz.results161]) rfl ⟨rfl, _, _, bxOf hPU.1 ?_, (HFB.out.trans (FrW.below hbel hTB) HS5.out HO5.out).trans hPU.2.1 HS5.out HO5.out, HS5.out, HO5.out.trans hPU.2.2.1 hszC⟩
           rw [HE0.out, HX.out, HE.out, HX1b.out]; rfl
       ·have z3 : decide ((24 : Int) ≤ (N5 : Int)) = true := by simp; omega
        have HE : Hid (stepV x row = ⟨z.rows, x.tick + 1, s1, z.scores, z.bods⟩) := Lib.hid (by rw [HSZ.out, HTMZ.out, if_neg (fun e => h24 e.2)])
        clear h24 hps hpl hnp
        go_wp2_with (fail)
        refine bodyPost_ret (v := .tuple #[]) (by simp [results, Tryz.results161]) rfl ⟨rfl, _, _, bxOf H8.out HE.out.symm, HF8.out, HS5.out, HO5.out⟩
     ·have z1 : (((x.tick + 1) % 16 : Int) == 0) = false := by simpa using h16
      have HE : Hid (stepV x row = ⟨z.rows, x.tick + 1, s1, z.scores, z.bods⟩) := Lib.hid (by rw [HSZ.out, HTMZ.out, if_neg (fun e => h16 e.1)])
      clear hnp
      go_wp2_with (fail)
      refine bodyPost_ret (v := .tuple #[]) (by simp [results, Tryz.results161]) rfl ⟨rfl, _, _, bxOf H8.out HE.out.symm, HF8.out, HS5.out, HO5.out⟩
end Go.Proofs.YtnlonkkbjkfkmaaGreatDoor
