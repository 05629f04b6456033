/-
  Texts of this proof: TkW5.
-/
import Derived.Test.YtnlonkkbjkfkmaaGreatDoorM29
import Derived.Test.YtnlonkkbjkfkmaaGreatDoorM11
import Derived.Deep.CutRange
import Derived.Deep.RegionLaw
namespace Go.Proofs.YtnlonkkbjkfkmaaGreatDoor
open Go.RowKit
set_option linter.all false
def stX (x : Wd) (row : List Int) (k : Nat) : Wd := ⟨x.rows, x.tick, x.seed, x.scores, stN x.rows row x.bods k⟩
def StR (w : World) (T p : Nat) (x : Wd) (row : List Int) (vl vs vb : Value) (k : Nat) (wr : World) : Prop := ∃ vb', BxW wr T p (stX x row k) vl vs vb' ∧ FrW T p vs vb w wr ∧ OwnTo w.heap.size vb vb'
theorem fit_place {L : Rowz} (hg : Good L) {n : Int} {b : Bd} (h : fitB L n b = true) (hk : b.kind = 0) : I64 b.x ∧ (-9223372036854775808 ≤ b.y ∧ b.y ≤ 1000) := by
 obtain ⟨-, -, p2, -⟩ := fit_parts h
 rw [hk] at p2
 obtain ⟨x0, x1, y0, y1⟩ := blockB_place hg (S := 12) p2
 exact ⟨⟨by omega, by omega⟩, by omega, by omega⟩
set_option maxRecDepth 100000 in
set_option maxHeartbeats 16000000 in
theorem steerPlayers_impl {w : World} {T p : Nat} {x : Wd} {vl vs vb : Value} (h : BxW w T p x vl vs vb) (hf : FineX x) {vr : Value} {row : List Int} (hrow : ∀ {W : World}, Below T w W → RdI W vr row) (hrl : row.length = x.scores.length) (hri : ∀ k (hk : k < row.length), 0 ≤ row[k] ∧ row[k] ≤ 15) :
  Calls Tryz.prog 141 #[.pointer (some ⟨p, 0, none⟩), vr] w (RetBx w T p (steerX x row) vl vs vb) := by
 obtain ⟨hL, hn, hSc, hFi⟩ := hf
 have hg := levelB_facts hL
 have hT := Nat.le_of_lt h.low
 obtain ⟨al, cl, e0, -⟩ := id h.rd.1
 subst e0
 obtain ⟨aq, cq, e0, -⟩ := id h.rd.2.1
 subst e0
 obtain ⟨ar, cr, e0, -⟩ := id (hrow (Below.refl T w))
 subst e0
 obtain ⟨n, hnn⟩ : ∃ n, n = x.scores.length := ⟨_, rfl⟩
 rw [← hnn] at hn hFi hSc hrl
 have HRL := Lib.hid hrl
 have HNN := Lib.hid hnn
 have HST : Hid (stX x row n = steerX x row) := Lib.hid (by rw [hnn]; rfl)
 have HR0 : Hid (StR w T p x row (.slice al x.rows.length cl) (.slice aq x.scores.length cq) vb 0 w) := Lib.hid ⟨vb, h, FrW.refl _ _ _ _ _, OwnTo.refl _ _⟩
 rw [hrl] at hrow ⊢
 have hni : (n : Int) ≤ 4 := by omega
 clear hnn hrl
 go_enter Tryz.func141, Tryz.ntmps141
 go_wp2_with (fail)
 go_loopw [10] (fun i wr => ∃ k : Nat, k ≤ n ∧ i = .int .i64 (k : Int) ∧ StR w T p x row (.slice al x.rows.length cl) (.slice aq x.scores.length cq) vb k wr) (fun i _ => n - (intOf i).toNat)
 case atStart => exact ⟨0, Nat.zero_le _, rfl, HR0.out⟩
 case round =>
  obtain ⟨k, hk, rfl, hR⟩ := hrel
  have HR := Lib.hid hR
  obtain ⟨vb', hBr, hFr, hOr⟩ := hR
  by_cases hkn : k < n
  ·have hkx : k < x.bods.length := by have := hFi.1; omega
   obtain ⟨hF1, hF2, hF3⟩ := stN_all hg hL hFi row k hk
   have hF1' := hF1.2.1
   obtain ⟨g, cap, e0, hTg, hgw, hcap⟩ := hBr.2.2.2.2.shape (by show 0 < (stN x.rows row x.bods k).length; omega)
   subst e0
   have hX : Hid (stN x.rows row x.bods (k + 1) = st1 x.rows (row.getD k 0) k x.bods[k] (stN x.rows row x.bods k)) := Lib.hid (by rw [stN, getD_at hkx])
   obtain ⟨X, hXX⟩ : ∃ X, X = stN x.rows row x.bods k := ⟨_, rfl⟩
   have hBr : BxW wr T p ⟨x.rows, x.tick, x.seed, x.scores, X⟩ (.slice al x.rows.length cl) (.slice aq x.scores.length cq) (.slice (some ⟨g, 0, none⟩) X.length cap) := by rw [hXX]; exact hBr
   have hcap : (stN x.rows row x.bods k).length ≤ cap := hcap
   rw [← hXX] at hF1 hF2 hF3 hX hcap hF1'
   have hXk : k < X.length := by omega
   have hXe : X[k] = x.bods[k] := by
    have := hF3 k (Nat.le_refl _) hkx
    rw [List.getElem?_eq_getElem hXk, List.getElem?_eq_getElem hkx, Option.some.injEq] at this
    exact this
   have hOr' : OwnTo w.heap.size vb (.slice (some ⟨g, 0, none⟩) X.length cap) := by rw [hXX]; exact hOr
   have hrr := hrow hFr.1
   obtain ⟨i, hi⟩ : ∃ i, i = row.getD k 0 := ⟨_, rfl⟩
   have hrk : k < row.length := by rw [HRL.out]; exact hkn
   have hie : i = row[k] := by rw [hi, List.getD_eq_getElem?_getD, List.getElem?_eq_getElem hrk]; rfl
   have hir : 0 ≤ i ∧ i ≤ 15 := by rw [hie]; exact hri k hrk
   obtain ⟨br, or, er, hcr⟩ : ∃ br or, ar = some ⟨br, or, none⟩ ∧ wr.cell? ⟨br, or + k, none⟩ = some (.int .i64 i) := by
    obtain ⟨a2, c2, e2, h2⟩ := hrr
    rcases h2 with h2 | ⟨b2, o2, ha2, hc2⟩
    ·rw [h2] at hrk; simp at hrk
    ·simp only [Value.slice.injEq] at e2
     refine ⟨b2, o2, by rw [e2.1, ha2], ?_⟩
     rw [hie]; exact hc2 k hrk
   subst er
   obtain ⟨hfit, hfk, hfo⟩ := hFi.2.2 k hkx
   have hkd := hfk.2 hkn
   have how := hfo hkn
   have hb0 := (hBr.2.2.2.2.body hXk).1
   rw [hXe] at hb0
   rw [← hi] at hX
   generalize x.bods[k] = c at *
   obtain ⟨d0, d1, d2, d3, d4, d5, d6, d7, d8⟩ := cells9 hb0
   have hki : (k : Int) < (n : Int) := by omega
   have hkXi : (k : Int) < (X.length : Int) := by omega
   have hX24 : (X.length : Int) ≤ 24 := by omega
   have hPr := hBr.1
   unfold wdC at hPr
   dsimp only at hPr
   have cPr := rowCells hPr
   have hTr := Nat.le_of_lt hBr.low
   obtain ⟨p0, p1, p2, p3, p4, p5⟩ := fit_parts hfit
   obtain ⟨q1, q2, q3, q4, q5⟩ := kind0_facts hkd p5
   have hpl := fit_place hg hfit hkd
   have HBR := Lib.hid hBr
   have hlv := fun {W : World} (hb : Below wr.heap.size wr W) => (hBr.keep hb hTr).rd.1
   have hlv : ∀ {W : World}, Below wr.heap.size wr W → RdS W (.slice al x.rows.length cl) x.rows := hlv
   have hgq : g ≠ wr.heap.size ∧ p ≠ wr.heap.size ∧ p ≠ g := by
    have h1 := (World.ownsRow.lt hBr.2.2.2.2 g rfl).2
    have h2 := hBr.lt
    exact ⟨by omega, by omega, fun e => hBr.notP.2 (by rw [e]; rfl)⟩
   obtain ⟨hgq1, hgq2, hgq3⟩ := hgq
   clear hb0 hrr hie hi hXX hF1 hF2 hF3 hOr hXe hfit hfk hfo hBr
   by_cases hlf : c.life = 0
   ·have z1 : ((c.life : Int) == 0) = true := by simpa using hlf
    have hwo : ∀ {W : World}, Below wr.heap.size wr W → Calls Tryz.prog 203 #[.agg #[.slice al x.rows.length cl], .agg #[.int .i64 c.kind, .int .i64 c.owner, .int .i64 c.x, .int .i64 c.y, .int .i64 c.vx, .int .i64 c.vy, .int .i64 c.aim, .int .i64 c.life, .int .i64 c.timer]] W fun e w' => e = .returned (.agg #[.int .i64 (waitB x.rows c).kind, .int .i64 (waitB x.rows c).owner, .int .i64 (waitB x.rows c).x, .int .i64 (waitB x.rows c).y, .int .i64 (waitB x.rows c).vx, .int .i64 (waitB x.rows c).vy, .int .i64 (waitB x.rows c).aim, .int .i64 (waitB x.rows c).life, .int .i64 (waitB x.rows c).timer]) ∧ Below W.heap.size W w' := fun hb => waitOut_impl (hlv hb) hg c k (by omega) how (q4 hlf)
    have HX1 : Hid (stN x.rows row x.bods (k + 1) = X.set k (waitB x.rows c)) := Lib.hid (by rw [hX.out]; unfold st1; rw [if_pos hlf])
    generalize waitB x.rows c = b at *
    clear hlf hX q4 q5 p0 p1 p2 p3 p4 p5 hkd how hpl
    go_upto_region 5 with (fail)
    obtain ⟨w3, hw3, hQ, hb3⟩ : ∃ w3, wr.alloc (.cells #[.int .i64 c.kind, .int .i64 c.owner, .int .i64 c.x, .int .i64 c.y, .int .i64 c.vx, .int .i64 c.vy, .int .i64 c.aim, .int .i64 c.life, .int .i64 c.timer] 100) = w3 ∧ w3.heap[wr.heap.size]? = some (.cells #[.int .i64 c.kind, .int .i64 c.owner, .int .i64 c.x, .int .i64 c.y, .int .i64 c.vx, .int .i64 c.vy, .int .i64 c.aim, .int .i64 c.life, .int .i64 c.timer] 100 (0, 0)) ∧ Below wr.heap.size wr w3 := ⟨_, rfl, heap_alloc_new wr _, below1 wr _⟩
    have hP3 := keepHeap hb3 hPr
    rw [hw3]
    clear hw3 d0 d1 d2 d3 d4 d5 d6 d7 d8 cPr hPr
    have ho := HBR.out.2.2.2.2.keep hb3 (Nat.le_refl _)
    have ho_0 : OwnRB w3.drew T (.slice (some ⟨g, 0, none⟩) X.length cap) X := ho
    have bs_0 : Below w3.heap.size w3 w3.drew := belowDrew w3 1
    have hP3_0 : w3.drew.heap[p]? = _ := hP3
    have hQ_0 : w3.drew.heap[wr.heap.size]? = _ := hQ
    refine wp_region_held_drew (S := (fun w' => (∀ j, w'.cell? ⟨p, j, none⟩ = #[Value.slice al x.rows.length cl, .int .i64 x.tick, .int .i64 x.seed, .slice aq x.scores.length cq, .slice (some ⟨g, 0, none⟩) X.length cap][j]?) ∧ (∀ j, w'.cell? ⟨wr.heap.size, j, none⟩ = #[Value.int .i64 c.kind, .int .i64 c.owner, .int .i64 c.x, .int .i64 c.y, .int .i64 c.vx, .int .i64 c.vy, .int .i64 c.aim, .int .i64 c.life, .int .i64 c.timer][j]?))) (by kernel_rfl) ?_ (fun hHeld => ?_)
    ·exact ⟨rowCells hP3_0, rowCells hQ_0⟩
    refine tk 0 25 ?_
    (try simp only [zP, zA, zB, zC])
    refine tk 1 26 ?_
    (try simp only [zP, zA, zB, zC])
    refine tk 2 27 ?_
    (try simp only [zP, zA, zB, zC])
    refine tk 3 28 ?_
    (try simp only [zP, zA, zB, zC])
    refine tk 4 29 ?_
    (try simp only [zP, zA, zB, zC])
    refine tk 5 30 ?_
    (try simp only [zP, zA, zB, zC])
    refine tk 6 31 ?_
    (try simp only [zP, zA, zB, zC])
    refine tk 7 32 ?_
    (try simp only [zP, zA, zB, zC])
    refine tk 8 33 ?_
    (try simp only [zP, zA, zB, zC])
    refine tk 9 34 ?_
    (try simp only [zP, zA, zB, zC])
    refine wpAnyH_ready (rs := [10]) (by kernel_rfl) (by simp) ?_
    refine AllReadyH.cons rfl (fun K hK => ?_) AllReadyH.nil
    go_simp
    refine (hwo (hb3.trans (bs_0.mono hb3.size))).mono ?_
    rintro e w_1 ⟨rfl, hb_1⟩
    have hP3_1 := keepHeap hb_1 hP3_0
    have hQ_1 := keepHeap hb_1 hQ_0
    have bs_1 := bs_0.trans (hb_1.mono bs_0.size)
    have sz_1 := hb_1.size
    have ho_1 := ho_0.keep hb_1 (Nat.le_refl _)
    (try go_wp2_with (fail))
    refine hK.out _ _ ?_ (fun hHeld => ?_)
    ·exact ⟨rowCells hP3_1, rowCells hQ_1⟩
    clear hK K
    (try simp only [zP, zA, zB, zC])
    refine tk 11 36 ?_
    (try simp only [zP, zA, zB, zC])
    refine wpAnyH_ready (rs := [12]) (by kernel_rfl) (by simp) ?_
    refine AllReadyH.cons rfl (fun K hK => ?_) AllReadyH.nil
    obtain ⟨hr_2, ht_2⟩ := ho_1.body hXk
    obtain ⟨d0, d1, d2, d3, d4, d5, d6, d7, d8⟩ := cells9 hr_2
    obtain ⟨f0, f1, f2, f3, f4, f5, f6, f7, f8⟩ := free9 ht_2
    clear hr_2 ht_2
    generalize X[k] = y at *
    go_simp
    rw [put9]
    have ho_2 := ho_1.put rfl hXk b
    have hP3_2 := (heap_setCells g (bdL b) (k * 9) w_1 _ (by omega)).trans hP3_1
    have hQ_2 := (heap_setCells g (bdL b) (k * 9) w_1 _ (by omega)).trans hQ_1
    obtain ⟨V, hV, hVF, hVZ⟩ : ∃ V, w_1.setCells g (k * 9) (bdL b) = V ∧ (∀ j, j ≠ g → V.heap[j]? = w_1.heap[j]?) ∧ Below T w_1 V := ⟨_, rfl, fun j hj => heap_setCells g (bdL b) (k * 9) w_1 j hj, belowSet hTg _ _ _⟩
    rw [hV] at ho_2 hP3_2 hQ_2 ⊢
    clear hV d0 d1 d2 d3 d4 d5 d6 d7 d8 f0 f1 f2 f3 f4 f5 f6 f7 f8
    refine hK.out _ _ ?_ (fun hHeld => ?_)
    ·exact ⟨rowCells hP3_2, rowCells hQ_2⟩
    clear hK K
    (try simp only [zP, zA, zB, zC])
    refine wpAnyH_done (by kernel_rfl) ?_ _
    have HB5 := Lib.hid ((HBR.out.keep (hb3.trans (bs_1.mono hb3.size)) hTr).bods (X := X.set k b) (by rw [List.length_set]) hVZ ho_2 hVF)
    have HF5 := Lib.hid ((hFr.trans (FrW.below (hb3.trans (bs_1.mono hb3.size)) hTr) rfl hOr').trans (frB hVZ hVF) rfl hOr')
    go_wp2_with (fail)
    go_roundw
    case rel => exact ⟨k + 1, by omega, by go_num, .slice (some ⟨g, 0, none⟩) X.length cap, by unfold stX; rw [HX1.out]; exact HB5.out, HF5.out, hOr'⟩
    case measure => simp [intOf]; omega
   ·have z1 : ((c.life : Int) == 0) = false := by simpa using hlf
    have hst : ∀ {W : World}, Below wr.heap.size wr W → Calls Tryz.prog 204 #[.agg #[.slice al x.rows.length cl], .agg #[.int .i64 c.kind, .int .i64 c.owner, .int .i64 c.x, .int .i64 c.y, .int .i64 c.vx, .int .i64 c.vy, .int .i64 c.aim, .int .i64 c.life, .int .i64 c.timer], .int .i64 i] W fun e w' => e = .returned (.tuple #[.agg #[.int .i64 (strB x.rows c i).kind, .int .i64 (strB x.rows c i).owner, .int .i64 (strB x.rows c i).x, .int .i64 (strB x.rows c i).y, .int .i64 (strB x.rows c i).vx, .int .i64 (strB x.rows c i).vy, .int .i64 (strB x.rows c i).aim, .int .i64 (strB x.rows c i).life, .int .i64 (strB x.rows c i).timer], .bool (strT c i)]) ∧ Below W.heap.size W w' := fun hb => steerIn_impl (hlv hb) hg c hkd hpl.1 hpl.2 (q5 hlf) ((inR_iff _ _ _).1 p4) i hir
    have HX1 : Hid (stN x.rows row x.bods (k + 1) = if strT c i && decide (X.length < 24) then X.set k (strB x.rows c i) ++ [shotB (strB x.rows c i)] else X.set k (strB x.rows c i)) := Lib.hid (by rw [hX.out]; unfold st1; rw [if_neg hlf])
    generalize strB x.rows c i = b at *
    generalize strT c i = t at *
    have hsh : ∀ (W : World), Calls Tryz.prog 205 #[.agg #[.int .i64 b.kind, .int .i64 b.owner, .int .i64 b.x, .int .i64 b.y, .int .i64 b.vx, .int .i64 b.vy, .int .i64 b.aim, .int .i64 b.life, .int .i64 b.timer]] W fun e w' => e = .returned (.agg #[.int .i64 (shotB b).kind, .int .i64 (shotB b).owner, .int .i64 (shotB b).x, .int .i64 (shotB b).y, .int .i64 (shotB b).vx, .int .i64 (shotB b).vy, .int .i64 (shotB b).aim, .int .i64 (shotB b).life, .int .i64 (shotB b).timer]) ∧ Below W.heap.size W w' := fun W => shotOf_impl b W
    generalize shotB b = sb at *
    clear hlf hX q4 q5 p0 p1 p2 p3 p4 p5 hkd how hpl
    go_upto_region 6 with (fail)
    obtain ⟨w3, hw3, hQ, hb3⟩ : ∃ w3, wr.alloc (.cells #[.int .i64 c.kind, .int .i64 c.owner, .int .i64 c.x, .int .i64 c.y, .int .i64 c.vx, .int .i64 c.vy, .int .i64 c.aim, .int .i64 c.life, .int .i64 c.timer] 100) = w3 ∧ w3.heap[wr.heap.size]? = some (.cells #[.int .i64 c.kind, .int .i64 c.owner, .int .i64 c.x, .int .i64 c.y, .int .i64 c.vx, .int .i64 c.vy, .int .i64 c.aim, .int .i64 c.life, .int .i64 c.timer] 100 (0, 0)) ∧ Below wr.heap.size wr w3 := ⟨_, rfl, heap_alloc_new wr _, below1 wr _⟩
    have hP3 := keepHeap hb3 hPr
    rw [hw3]
    clear hw3 d0 d1 d2 d3 d4 d5 d6 d7 d8 cPr hPr
    have ho := HBR.out.2.2.2.2.keep hb3 (Nat.le_refl _)
    have ho_0 : OwnRB w3.drew T (.slice (some ⟨g, 0, none⟩) X.length cap) X := ho
    have bs_0 : Below w3.heap.size w3 w3.drew := belowDrew w3 1
    have hP3_0 : w3.drew.heap[p]? = _ := hP3
    have hQ_0 : w3.drew.heap[wr.heap.size]? = _ := hQ
    refine wp_region_held_drew (S := (fun w' => ∀ j, w'.cell? ⟨p, j, none⟩ = #[Value.slice al x.rows.length cl, .int .i64 x.tick, .int .i64 x.seed, .slice aq x.scores.length cq, .slice (some ⟨g, 0, none⟩) X.length cap][j]?)) (by kernel_rfl) ?_ (fun hHeld => ?_)
    ·exact rowCells hP3_0
    refine tk 0 38 ?_
    (try simp only [zP, zA, zB, zC])
    refine tk 1 39 ?_
    (try simp only [zP, zA, zB, zC])
    refine tk 2 40 ?_
    (try simp only [zP, zA, zB, zC])
    refine tk 3 41 ?_
    (try simp only [zP, zA, zB, zC])
    refine tk 5 43 ?_
    (try simp only [zP, zA, zB, zC])
    refine wpAnyH_ready (rs := [4]) (by kernel_rfl) (by simp) ?_
    refine AllReadyH.cons rfl (fun K hK => ?_) AllReadyH.nil
    have cx := rowCells hQ
    go_simp
    clear cx
    refine hK.out _ _ ?_ (fun hHeld => ?_)
    ·exact rowCells hP3_0
    clear hK K
    (try simp only [zP, zA, zB, zC])
    refine wpAnyH_ready (rs := [6]) (by kernel_rfl) (by simp) ?_
    refine AllReadyH.cons rfl (fun K hK => ?_) AllReadyH.nil
    go_simp
    refine (hst (hb3.trans (bs_0.mono hb3.size))).mono ?_
    rintro e w_1 ⟨rfl, hb_1⟩
    have hP3_1 := keepHeap hb_1 hP3_0
    have hQ_1 := keepHeap hb_1 hQ_0
    have bs_1 := bs_0.trans (hb_1.mono bs_0.size)
    have sz_1 := hb_1.size
    have ho_1 := ho_0.keep hb_1 (Nat.le_refl _)
    (try go_wp2_with (fail))
    refine hK.out _ _ ?_ (fun hHeld => ?_)
    ·exact rowCells hP3_1
    clear hK K
    (try simp only [zP, zA, zB, zC])
    refine tk 7 37 ?_
    (try simp only [zP, zA, zB, zC])
    refine tk 8 45 ?_
    (try simp only [zP, zA, zB, zC])
    refine tk 9 46 ?_
    (try simp only [zP, zA, zB, zC])
    refine wpAnyH_ready (rs := [10]) (by kernel_rfl) (by simp) ?_
    refine AllReadyH.cons rfl (fun K hK => ?_) AllReadyH.nil
    have cn := rowCells hQ_1
    have fn := fun j => frozenHeap hQ_1 j
    go_simp
    have hQ_2 := putB_heap hQ_1 rfl b b.x b.y b.vx b.vy
    have hP3_2 := putB_far hP3_1 (c := wr.heap.size) (by omega) b b.x b.y b.vx b.vy
    have ho_2 := ho_1.putB (c := wr.heap.size) (by omega) b b.x b.y b.vx b.vy
    have hbR_2 := putB_below (hb3.trans (bs_1.mono hb3.size)) (c := wr.heap.size) (Nat.le_refl _) b b.x b.y b.vx b.vy
    have hlt_2 := (Array.getElem?_eq_some_iff.1 hQ_1).1
    obtain ⟨w5, hV, hVS⟩ : ∃ V, putB w_1 wr.heap.size b b.x b.y b.vx b.vy = V ∧ V.heap.size = w_1.heap.size := ⟨_, rfl, by simp [putB]⟩
    rw [hV] at hQ_2 hP3_2 ho_2 hbR_2
    unfold putB at hV
    rw [hV]
    clear hV cn fn
    refine hK.out _ _ ?_ (fun hHeld => ?_)
    ·exact rowCells hP3_2
    clear hK K
    (try simp only [zP, zA, zB, zC])
    refine tk 11 7 ?_
    (try simp only [zP, zA, zB, zC])
    refine wpAnyH_done (by kernel_rfl) ?_ _
    go_upto_region 7 with (fail)
    have hP7 := hP3_2
    have hQ7 := hQ_2
    have ho := ho_2
    have hbR := hbR_2
    clear hP3_0 hQ_0 ho_0 hP3_1 hQ_1 ho_1 hP3_2 hQ_2 ho_2
    have bs_0 : Below w5.heap.size w5 w5.drew := belowDrew w5 1
    have hP7_0 : w5.drew.heap[p]? = _ := hP7
    have hQ7_0 : w5.drew.heap[wr.heap.size]? = _ := hQ7
    refine wp_region_held_drew (S := (fun w' => (∀ j, w'.cell? ⟨p, j, none⟩ = #[Value.slice al x.rows.length cl, .int .i64 x.tick, .int .i64 x.seed, .slice aq x.scores.length cq, .slice (some ⟨g, 0, none⟩) X.length cap][j]?) ∧ (∀ j, w'.cell? ⟨wr.heap.size, j, none⟩ = #[Value.int .i64 b.kind, .int .i64 b.owner, .int .i64 b.x, .int .i64 b.y, .int .i64 b.vx, .int .i64 b.vy, .int .i64 b.aim, .int .i64 b.life, .int .i64 b.timer][j]?))) (by kernel_rfl) ?_ (fun hHeld => ?_)
    ·exact ⟨rowCells hP7_0, rowCells hQ7_0⟩
    refine tk 0 47 ?_
    (try simp only [zP, zA, zB, zC])
    refine tk 1 48 ?_
    (try simp only [zP, zA, zB, zC])
    refine tk 2 49 ?_
    (try simp only [zP, zA, zB, zC])
    refine tk 3 50 ?_
    (try simp only [zP, zA, zB, zC])
    refine tk 4 51 ?_
    (try simp only [zP, zA, zB, zC])
    refine tk 5 52 ?_
    (try simp only [zP, zA, zB, zC])
    refine tk 6 53 ?_
    (try simp only [zP, zA, zB, zC])
    refine wpAnyH_ready (rs := [7]) (by kernel_rfl) (by simp) ?_
    refine AllReadyH.cons rfl (fun K hK => ?_) AllReadyH.nil
    obtain ⟨hr_1, ht_1⟩ := ho.body hXk
    obtain ⟨d0, d1, d2, d3, d4, d5, d6, d7, d8⟩ := cells9 hr_1
    obtain ⟨f0, f1, f2, f3, f4, f5, f6, f7, f8⟩ := free9 ht_1
    clear hr_1 ht_1
    generalize X[k] = y at *
    go_simp
    rw [put9]
    have ho_1 := ho.put rfl hXk b
    have hP7_1 := (heap_setCells g (bdL b) (k * 9) w5 _ (by omega)).trans hP7
    have hQ7_1 := (heap_setCells g (bdL b) (k * 9) w5 _ (by omega)).trans hQ7
    obtain ⟨V, hV, hVF, hVZ⟩ : ∃ V, w5.setCells g (k * 9) (bdL b) = V ∧ (∀ j, j ≠ g → V.heap[j]? = w5.heap[j]?) ∧ Below T w5 V := ⟨_, rfl, fun j hj => heap_setCells g (bdL b) (k * 9) w5 j hj, belowSet hTg _ _ _⟩
    rw [hV] at ho_1 hP7_1 hQ7_1 ⊢
    clear hV d0 d1 d2 d3 d4 d5 d6 d7 d8 f0 f1 f2 f3 f4 f5 f6 f7 f8
    have hP7_1 : V.drew.heap[p]? = _ := hP7_1
    have hQ7_1 : V.drew.heap[wr.heap.size]? = _ := hQ7_1
    refine hK.out _ _ ?_ (fun hHeld => ?_)
    ·exact ⟨rowCells hP7_1, rowCells hQ7_1⟩
    clear hK K
    (try simp only [zP, zA, zB, zC])
    refine wpAnyH_done (by kernel_rfl) ?_ _
    obtain ⟨w7, hw7, hb7⟩ : ∃ w7, V.drew = w7 ∧ Below V.heap.size V w7 := ⟨_, rfl, belowDrew V 1⟩
    rw [hw7] at hP7_1 hQ7_1 ⊢
    clear hw7
    have h5 := HBR.out.keep hbR hTr
    have hF5 := FrW.below (vs := .slice aq x.scores.length cq) (vb := .slice (some ⟨g, 0, none⟩) X.length cap) (p := p) hbR hTr
    have h6 := h5.bods (X := X.set k b) (by rw [List.length_set]) hVZ ho_1 hVF
    have h7 := h6.keep hb7 (Nat.le_of_lt h6.low)
    have hF7 := (hF5.trans (frB (vs := .slice aq x.scores.length cq) (n := X.length) (cap := cap) hVZ hVF) rfl (OwnTo.refl _ _)).trans (FrW.below hb7 (Nat.le_of_lt h6.low)) rfl (OwnTo.refl _ _)
    have hsz7 : w.heap.size ≤ w7.heap.size := by have := hFr.size; have := hF7.size; omega
    have hP7 := hP7_1
    have hQ7 := hQ7_1
    clear hP7_1 hQ7_1 ho_1 hVF hVZ h5 hF5 h6 hb7
    have cP7 := rowCells hP7
    cases t with
    | false =>
     have HX9 : Hid (stN x.rows row x.bods (k + 1) = X.set k b) := Lib.hid (by rw [HX1.out]; rfl)
     have HB7 := Lib.hid h7
     have HF7 := Lib.hid (hFr.trans hF7 rfl hOr')
     clear h7 hF7
     go_wp2_with (fail)
     go_roundw
     case rel => exact ⟨k + 1, by omega, by go_num, _, by unfold stX; rw [HX9.out]; exact HB7.out, HF7.out, hOr'⟩
     case measure => simp [intOf]; omega
    | true =>
     by_cases h24 : X.length < 24
     ·have z4 : decide ((X.length : Int) < 24) = true := by simp; omega
      obtain ⟨X1, hX1⟩ : ∃ X1, X1 = X.set k b ++ [sb] := ⟨_, rfl⟩
      have HX1b := Lib.hid hX1
      have HX9 : Hid (stN x.rows row x.bods (k + 1) = X.set k b ++ [sb]) := Lib.hid (by rw [HX1.out]; simp [h24])
      clear hX1 h24
      go_upto_region 9 with (fail)
      clear cP7
      have ho_0 : OwnRB w7.drew T (.slice (some ⟨g, 0, none⟩) X.length cap) (X.set k b) := h7.2.2.2.2
      have bs_0 : Below w7.heap.size w7 w7.drew := belowDrew w7 1
      have hQ7_0 : w7.drew.heap[wr.heap.size]? = _ := hQ7
      have hP7_0 : w7.drew.heap[p]? = _ := hP7
      refine wp_region_held_drew (S := (fun w' => ∀ j, w'.cell? ⟨wr.heap.size, j, none⟩ = #[Value.int .i64 b.kind, .int .i64 b.owner, .int .i64 b.x, .int .i64 b.y, .int .i64 b.vx, .int .i64 b.vy, .int .i64 b.aim, .int .i64 b.life, .int .i64 b.timer][j]?)) (by kernel_rfl) ?_ (fun hHeld => ?_)
      ·exact rowCells hQ7_0
      refine tk 0 63 ?_
      (try simp only [zP, zA, zB, zC])
      refine tk 1 64 ?_
      (try simp only [zP, zA, zB, zC])
      refine tk 2 65 ?_
      (try simp only [zP, zA, zB, zC])
      refine tk 3 66 ?_
      (try simp only [zP, zA, zB, zC])
      refine tk 5 68 ?_
      (try simp only [zP, zA, zB, zC])
      refine wpAnyH_ready (rs := [4, 6]) (by kernel_rfl) (by simp) ?_
      refine AllReadyH.cons rfl (fun K hK => ?_) (AllReadyH.cons rfl (fun K hK => ?_) AllReadyH.nil)
      ·have cx := rowCells hP7
       go_simp
       clear cx
       refine hK.out _ _ ?_ (fun hHeld => ?_)
       ·exact rowCells hQ7_0
       clear hK K
       (try simp only [zP, zA, zB, zC])
       refine wpAnyH_ready (rs := [6]) (by kernel_rfl) (by simp) ?_
       refine AllReadyH.cons rfl (fun K hK => ?_) AllReadyH.nil
       go_simp
       refine (hsh _).mono ?_
       rintro e w_1 ⟨rfl, hb_1⟩
       have hQ7_1 := keepHeap hb_1 hQ7_0
       have hP7_1 := keepHeap hb_1 hP7_0
       have bs_1 := bs_0.trans (hb_1.mono bs_0.size)
       have sz_1 := hb_1.size
       have ho_1 := ho_0.keep hb_1 (Nat.le_refl _)
       (try go_wp2_with (fail))
       refine hK.out _ _ ?_ (fun hHeld => ?_)
       ·exact rowCells hQ7_1
       clear hK K
       (try simp only [zP, zA, zB, zC])
       refine wpAnyH_ready (rs := [7]) (by kernel_rfl) (by simp) ?_
       refine AllReadyH.cons rfl (fun K hK => ?_) AllReadyH.nil
       go_simp
       have hrg := range_mk w_1 sb 100
       obtain ⟨w_2, hw_2, P_2, hb_2⟩ : ∃ W, w_1.alloc (.cells #[Value.int .i64 sb.kind, .int .i64 sb.owner, .int .i64 sb.x, .int .i64 sb.y, .int .i64 sb.vx, .int .i64 sb.vy, .int .i64 sb.aim, .int .i64 sb.life, .int .i64 sb.timer] 100) = W ∧ W.heap[w_1.heap.size]? = some (.cells #[Value.int .i64 sb.kind, .int .i64 sb.owner, .int .i64 sb.x, .int .i64 sb.y, .int .i64 sb.vx, .int .i64 sb.vy, .int .i64 sb.aim, .int .i64 sb.life, .int .i64 sb.timer] 100 (0, 0)) ∧ Below w_1.heap.size w_1 W := ⟨_, rfl, heap_alloc_new w_1 _, below1 w_1 _⟩
       rw [hw_2] at hrg
       try rw [hw_2]
       clear hw_2
       have hp_2 := bs_1.size
       have hQ7_2 := keepHeap hb_2 hQ7_1
       have hP7_2 := keepHeap hb_2 hP7_1
       have bs_2 := bs_1.trans (hb_2.mono bs_1.size)
       have sz_2 := hb_2.size
       have ho_2 := ho_1.keep hb_2 (Nat.le_refl _)
       refine hK.out _ _ ?_ (fun hHeld => ?_)
       ·exact rowCells hQ7_2
       clear hK K
       (try simp only [zP, zA, zB, zC])
       refine wpAnyH_ready (rs := [8]) (by kernel_rfl) (by simp) ?_
       refine AllReadyH.cons rfl (fun K hK => ?_) AllReadyH.nil
       refine step_bodyT rfl (.tmp 67) (.tmp 70) rfl T _ (X.set k b) rfl ho_2 (w_1.heap.size) sb rfl (hrg) (by simp; omega) (by omega) ?_
       intro v5 w_3 ho_3 hb_3 hg_3 hto
       rw [← HX1b.out] at ho_3
       obtain ⟨a5, c5, rfl, -⟩ := id ho_3.own
       have hPU := bx_push h7 bs_2 hb_3 hg_3 ho_3 hto
       have hQ7_3 := (hPU.2.2.2 _ (by have := (Array.getElem?_eq_some_iff.1 hQ7).1; omega) hgq1.symm).trans hQ7
       have hP7_3 := (hPU.2.2.2 _ h7.lt hgq3).trans hP7
       refine hK.out _ _ ?_ (fun hHeld => ?_)
       ·exact rowCells hQ7_3
       clear hK K
       (try simp only [zP, zA, zB, zC])
       refine tk 9 72 ?_
       (try simp only [zP, zA, zB, zC])
       refine tk 10 73 ?_
       (try simp only [zP, zA, zB, zC])
       refine wpAnyH_ready (rs := [11]) (by kernel_rfl) (by simp) ?_
       refine AllReadyH.cons rfl (fun K hK => ?_) AllReadyH.nil
       have cn := rowCells hP7_3
       have fn := fun j => frozenHeap hP7_3 j
       go_simp
       have hQ7_4 := farHeap (p := ⟨p, 4, none⟩) hQ7_3 (fun e => hgq2 e.symm) (.slice a5 X1.length c5)
       refine hK.out _ _ ?_ (fun hHeld => ?_)
       ·exact rowCells hQ7_4
       clear hK K
       (try simp only [zP, zA, zB, zC])
       refine wpAnyH_done (by kernel_rfl) ?_ _
       go_wp2_with (fail)
       go_roundw
       case rel => exact ⟨k + 1, by omega, by go_num, _, by unfold stX; rw [HX9.out, ← HX1b.out]; exact hPU.1, (hFr.trans hF7 rfl hOr').trans hPU.2.1 rfl hOr', hOr'.trans hPU.2.2.1 hsz7⟩
       case measure => simp [intOf]; omega
      ·go_simp
       refine (hsh _).mono ?_
       rintro e w_1 ⟨rfl, hb_1⟩
       have hQ7_1 := keepHeap hb_1 hQ7_0
       have hP7_1 := keepHeap hb_1 hP7_0
       have bs_1 := bs_0.trans (hb_1.mono bs_0.size)
       have sz_1 := hb_1.size
       have ho_1 := ho_0.keep hb_1 (Nat.le_refl _)
       (try go_wp2_with (fail))
       refine hK.out _ _ ?_ (fun hHeld => ?_)
       ·exact rowCells hQ7_1
       clear hK K
       (try simp only [zP, zA, zB, zC])
       refine wpAnyH_ready (rs := [4, 7]) (by kernel_rfl) (by simp) ?_
       refine AllReadyH.cons rfl (fun K hK => ?_) (AllReadyH.cons rfl (fun K hK => ?_) AllReadyH.nil)
       ·have cx := rowCells hP7_1
        go_simp
        clear cx
        refine hK.out _ _ ?_ (fun hHeld => ?_)
        ·exact rowCells hQ7_1
        clear hK K
        (try simp only [zP, zA, zB, zC])
        refine wpAnyH_ready (rs := [7]) (by kernel_rfl) (by simp) ?_
        refine AllReadyH.cons rfl (fun K hK => ?_) AllReadyH.nil
        go_simp
        have hrg := range_mk w_1 sb 100
        obtain ⟨w_2, hw_2, P_2, hb_2⟩ : ∃ W, w_1.alloc (.cells #[Value.int .i64 sb.kind, .int .i64 sb.owner, .int .i64 sb.x, .int .i64 sb.y, .int .i64 sb.vx, .int .i64 sb.vy, .int .i64 sb.aim, .int .i64 sb.life, .int .i64 sb.timer] 100) = W ∧ W.heap[w_1.heap.size]? = some (.cells #[Value.int .i64 sb.kind, .int .i64 sb.owner, .int .i64 sb.x, .int .i64 sb.y, .int .i64 sb.vx, .int .i64 sb.vy, .int .i64 sb.aim, .int .i64 sb.life, .int .i64 sb.timer] 100 (0, 0)) ∧ Below w_1.heap.size w_1 W := ⟨_, rfl, heap_alloc_new w_1 _, below1 w_1 _⟩
        rw [hw_2] at hrg
        try rw [hw_2]
        clear hw_2
        have hp_2 := bs_1.size
        have hQ7_2 := keepHeap hb_2 hQ7_1
        have hP7_2 := keepHeap hb_2 hP7_1
        have bs_2 := bs_1.trans (hb_2.mono bs_1.size)
        have sz_2 := hb_2.size
        have ho_2 := ho_1.keep hb_2 (Nat.le_refl _)
        refine hK.out _ _ ?_ (fun hHeld => ?_)
        ·exact rowCells hQ7_2
        clear hK K
        (try simp only [zP, zA, zB, zC])
        refine wpAnyH_ready (rs := [8]) (by kernel_rfl) (by simp) ?_
        refine AllReadyH.cons rfl (fun K hK => ?_) AllReadyH.nil
        refine step_bodyT rfl (.tmp 67) (.tmp 70) rfl T _ (X.set k b) rfl ho_2 (w_1.heap.size) sb rfl (hrg) (by simp; omega) (by omega) ?_
        intro v5 w_3 ho_3 hb_3 hg_3 hto
        rw [← HX1b.out] at ho_3
        obtain ⟨a5, c5, rfl, -⟩ := id ho_3.own
        have hPU := bx_push h7 bs_2 hb_3 hg_3 ho_3 hto
        have hQ7_3 := (hPU.2.2.2 _ (by have := (Array.getElem?_eq_some_iff.1 hQ7).1; omega) hgq1.symm).trans hQ7
        have hP7_3 := (hPU.2.2.2 _ h7.lt hgq3).trans hP7
        refine hK.out _ _ ?_ (fun hHeld => ?_)
        ·exact rowCells hQ7_3
        clear hK K
        (try simp only [zP, zA, zB, zC])
        refine tk 9 72 ?_
        (try simp only [zP, zA, zB, zC])
        refine tk 10 73 ?_
        (try simp only [zP, zA, zB, zC])
        refine wpAnyH_ready (rs := [11]) (by kernel_rfl) (by simp) ?_
        refine AllReadyH.cons rfl (fun K hK => ?_) AllReadyH.nil
        have cn := rowCells hP7_3
        have fn := fun j => frozenHeap hP7_3 j
        go_simp
        have hQ7_4 := farHeap (p := ⟨p, 4, none⟩) hQ7_3 (fun e => hgq2 e.symm) (.slice a5 X1.length c5)
        refine hK.out _ _ ?_ (fun hHeld => ?_)
        ·exact rowCells hQ7_4
        clear hK K
        (try simp only [zP, zA, zB, zC])
        refine wpAnyH_done (by kernel_rfl) ?_ _
        go_wp2_with (fail)
        go_roundw
        case rel => exact ⟨k + 1, by omega, by go_num, _, by unfold stX; rw [HX9.out, ← HX1b.out]; exact hPU.1, (hFr.trans hF7 rfl hOr').trans hPU.2.1 rfl hOr', hOr'.trans hPU.2.2.1 hsz7⟩
        case measure => simp [intOf]; omega
       ·go_simp
        have hrg := range_mk w_1 sb 100
        obtain ⟨w_2, hw_2, P_2, hb_2⟩ : ∃ W, w_1.alloc (.cells #[Value.int .i64 sb.kind, .int .i64 sb.owner, .int .i64 sb.x, .int .i64 sb.y, .int .i64 sb.vx, .int .i64 sb.vy, .int .i64 sb.aim, .int .i64 sb.life, .int .i64 sb.timer] 100) = W ∧ W.heap[w_1.heap.size]? = some (.cells #[Value.int .i64 sb.kind, .int .i64 sb.owner, .int .i64 sb.x, .int .i64 sb.y, .int .i64 sb.vx, .int .i64 sb.vy, .int .i64 sb.aim, .int .i64 sb.life, .int .i64 sb.timer] 100 (0, 0)) ∧ Below w_1.heap.size w_1 W := ⟨_, rfl, heap_alloc_new w_1 _, below1 w_1 _⟩
        rw [hw_2] at hrg
        try rw [hw_2]
        clear hw_2
        have hp_2 := bs_1.size
        have hQ7_2 := keepHeap hb_2 hQ7_1
        have hP7_2 := keepHeap hb_2 hP7_1
        have bs_2 := bs_1.trans (hb_2.mono bs_1.size)
        have sz_2 := hb_2.size
        have ho_2 := ho_1.keep hb_2 (Nat.le_refl _)
        refine hK.out _ _ ?_ (fun hHeld => ?_)
        ·exact rowCells hQ7_2
        clear hK K
        (try simp only [zP, zA, zB, zC])
        refine wpAnyH_ready (rs := [4]) (by kernel_rfl) (by simp) ?_
        refine AllReadyH.cons rfl (fun K hK => ?_) AllReadyH.nil
        have cx := rowCells hP7_2
        go_simp
        clear cx
        refine hK.out _ _ ?_ (fun hHeld => ?_)
        ·exact rowCells hQ7_2
        clear hK K
        (try simp only [zP, zA, zB, zC])
        refine wpAnyH_ready (rs := [8]) (by kernel_rfl) (by simp) ?_
        refine AllReadyH.cons rfl (fun K hK => ?_) AllReadyH.nil
        refine step_bodyT rfl (.tmp 67) (.tmp 70) rfl T _ (X.set k b) rfl ho_2 (w_1.heap.size) sb rfl (hrg) (by simp; omega) (by omega) ?_
        intro v5 w_3 ho_3 hb_3 hg_3 hto
        rw [← HX1b.out] at ho_3
        obtain ⟨a5, c5, rfl, -⟩ := id ho_3.own
        have hPU := bx_push h7 bs_2 hb_3 hg_3 ho_3 hto
        have hQ7_3 := (hPU.2.2.2 _ (by have := (Array.getElem?_eq_some_iff.1 hQ7).1; omega) hgq1.symm).trans hQ7
        have hP7_3 := (hPU.2.2.2 _ h7.lt hgq3).trans hP7
        refine hK.out _ _ ?_ (fun hHeld => ?_)
        ·exact rowCells hQ7_3
        clear hK K
        (try simp only [zP, zA, zB, zC])
        refine tk 9 72 ?_
        (try simp only [zP, zA, zB, zC])
        refine tk 10 73 ?_
        (try simp only [zP, zA, zB, zC])
        refine wpAnyH_ready (rs := [11]) (by kernel_rfl) (by simp) ?_
        refine AllReadyH.cons rfl (fun K hK => ?_) AllReadyH.nil
        have cn := rowCells hP7_3
        have fn := fun j => frozenHeap hP7_3 j
        go_simp
        have hQ7_4 := farHeap (p := ⟨p, 4, none⟩) hQ7_3 (fun e => hgq2 e.symm) (.slice a5 X1.length c5)
        refine hK.out _ _ ?_ (fun hHeld => ?_)
        ·exact rowCells hQ7_4
        clear hK K
        (try simp only [zP, zA, zB, zC])
        refine wpAnyH_done (by kernel_rfl) ?_ _
        go_wp2_with (fail)
        go_roundw
        case rel => exact ⟨k + 1, by omega, by go_num, _, by unfold stX; rw [HX9.out, ← HX1b.out]; exact hPU.1, (hFr.trans hF7 rfl hOr').trans hPU.2.1 rfl hOr', hOr'.trans hPU.2.2.1 hsz7⟩
        case measure => simp [intOf]; omega
     ·have z4 : decide ((X.length : Int) < 24) = false := by simp; omega
      have HX9 : Hid (stN x.rows row x.bods (k + 1) = X.set k b) := Lib.hid (by rw [HX1.out]; simp [h24])
      have HB7 := Lib.hid h7
      have HF7 := Lib.hid (hFr.trans hF7 rfl hOr')
      clear h7 hF7 h24
      go_wp2_with (fail)
      go_roundw
      case rel => exact ⟨k + 1, by omega, by go_num, _, by unfold stX; rw [HX9.out]; exact HB7.out, HF7.out, hOr'⟩
      case measure => simp [intOf]; omega
  ·have hkn' : k = n := by omega
   have hnl : ¬ (k : Int) < (n : Int) := by omega
   rw [hkn', HST.out] at hBr
   clear hkn'
   go_wp2_with (fail)
   refine bodyPost_ret (v := .tuple #[]) (by simp [results, Tryz.results141]) rfl ⟨rfl, _, _, hBr, hFr, rfl, hOr⟩
end Go.Proofs.YtnlonkkbjkfkmaaGreatDoor
