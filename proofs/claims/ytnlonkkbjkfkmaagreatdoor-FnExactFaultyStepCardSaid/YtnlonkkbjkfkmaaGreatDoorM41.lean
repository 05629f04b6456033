/-
  Texts of this proof: TkS1.
-/
import Derived.Test.YtnlonkkbjkfkmaaGreatDoorM29
import Derived.Test.YtnlonkkbjkfkmaaGreatDoorM01
import Derived.Test.YtnlonkkbjkfkmaaGreatDoorM11
import Derived.RegionTactic
import Derived.BigRegion
namespace Go.Proofs.YtnlonkkbjkfkmaaGreatDoor
open Go.RowKit
set_option linter.all false
set_option maxRecDepth 100000 in
set_option maxHeartbeats 8000000 in
theorem meets_spec {w : World} {T p : Nat} {x : Wd} {vl vs vb : Value} (h : BxW w T p x vl vs vb) (hn : x.scores.length ≤ x.bods.length) (hl : x.bods.length ≤ 24) (b : Bd) (but : Int) :
  Calls Tryz.prog 253 #[.pointer (some ⟨p, 0, none⟩), .agg #[.int .i64 b.kind, .int .i64 b.owner, .int .i64 b.x, .int .i64 b.y, .int .i64 b.vx, .int .i64 b.vy, .int .i64 b.aim, .int .i64 b.life, .int .i64 b.timer], .int .i64 but] w fun e w' => e = .returned (.int .i64 (metI (metF b but (x.bods.take x.scores.length) 0))) ∧ Below w.heap.size w w' := by
 obtain ⟨hP, -, -, hS, hBd⟩ := id h
 obtain ⟨aq, cq, rfl, -⟩ := id hS.own
 obtain ⟨ab, cb, rfl, -⟩ := id hBd.own
 obtain ⟨n, hnn⟩ : ∃ n, n = x.scores.length := ⟨_, rfl⟩
 obtain ⟨m, hmm⟩ : ∃ m, m = x.bods.length := ⟨_, rfl⟩
 rw [← hnn] at hn hS ⊢
 rw [← hmm] at hn hl hBd
 unfold wdC at hP
 rw [← hnn, ← hmm] at hP
 obtain ⟨W0, hW, hA, hB0, hS0⟩ := rows1 w #[.int .i64 b.kind, .int .i64 b.owner, .int .i64 b.x, .int .i64 b.y, .int .i64 b.vx, .int .i64 b.vy, .int .i64 b.aim, .int .i64 b.life, .int .i64 b.timer] 100
 have hP0 := keepHeap hB0 hP
 have cP := rowCells hP0
 have HMM := Lib.hid hmm
 have hlP : (x.bods.take n).length = n := by rw [List.length_take]; omega
 have HLP := Lib.hid hlP
 clear hnn hmm hlP
 have hn24 : (n : Int) ≤ 24 := by omega
 have hm24 : (m : Int) ≤ 24 := by omega
 go_enter Tryz.func253, Tryz.ntmps253
 go_wp2_with (fail)
 go_loopw [7] (fun i wr => ∃ k : Nat, k ≤ n ∧ i = .int .i64 (k : Int) ∧ metF b but ((x.bods.take n).drop k) k = metF b but (x.bods.take n) 0 ∧ Below W0.heap.size W0 wr) (fun i _ => n - (intOf i).toNat)
 case atStart => exact ⟨0, Nat.zero_le _, rfl, rfl, Below.refl _ _⟩
 case round =>
  obtain ⟨k, hk, rfl, hm, hbel⟩ := hrel
  have hAr := keepHeap hbel hA
  have hPr := keepHeap hbel hP0
  have cA := rowCells hAr
  have cP := rowCells hPr
  by_cases hkn : k < n
  ·have hkm : k < x.bods.length := by rw [← HMM.out]; omega
   have hpos : 0 < x.bods.length := by omega
   obtain ⟨g, cap, e0, hTg, hgw, -⟩ := hBd.shape hpos
   rw [← HMM.out] at e0
   obtain ⟨rfl, -, rfl⟩ := Value.slice.inj e0
   clear e0
   have hc0 := (hBd.body hkm).1
   have hb0r := hB0.trans (hbel.mono hB0.size)
   have hc1 := rangeKeep hc0 hb0r (by omega)
   have hdr : ((x.bods.take n).drop k) = x.bods[k] :: (x.bods.take n).drop (k + 1) := by
    rw [List.drop_eq_getElem_cons (by rw [HLP.out]; exact hkn), List.getElem_take]
   rw [hdr, metF] at hm
   obtain ⟨cur, hG, rG⟩ := hBd.heapAt hkm
   have rG : ∀ {W : World}, W.heap[g]? = some (.cells cur 100 (0, 0)) → W.rangeAt g (k * 9) (bdL x.bods[k]) := fun hW => (rG hW).1
   generalize x.bods[k] = q at *
   obtain ⟨d0, d1, d2, d3, d4, d5, d6, d7, d8⟩ := cells9 hc1
   have hkn1 : (k : Int) < (n : Int) := by omega
   have hkm1 : (k : Int) < (m : Int) := by omega
   have HM := Lib.hid hm
   clear hm hdr hc0 hc1
   have hGr := keepHeap hb0r hG
   have hmi : ∀ W : World, Calls Tryz.prog 273 #[bdV q, bdV b] W fun e w' => e = .returned (.bool (meetB q b)) ∧ Below W.heap.size W w' := fun W => meet_spec q b W
   unfold bdV at hmi
   clear d0 d1 d2 d3 d4 d5 d6 d7 d8 hG
   go_upto_region 4 with (fail)
   clear cA cP
   by_cases h1 : (k : Int) = but
   ·have z1 : ((k : Int) != but) = false := by simpa using h1
    have HN : Hid (metF b but ((x.bods.take n).drop (k + 1)) (k + 1) = metF b but (x.bods.take n) 0) := Lib.hid (by rw [← HM.out, if_neg (fun hh => hh.1 h1)])
    clear h1 HM
    have bs_0 : Below wr.heap.size wr wr.drew := belowDrew wr 1
    have hPr_0 : wr.drew.heap[p]? = _ := hPr
    have hAr_0 : wr.drew.heap[w.heap.size]? = _ := hAr
    have hGr_0 : wr.drew.heap[g]? = _ := hGr
    refine wp_region_held_drew (S := (fun w' => (∀ j, w'.cell? ⟨p, j, none⟩ = #[vl, .int .i64 x.tick, .int .i64 x.seed, .slice aq n cq, .slice (some ⟨g, 0, none⟩) m cb][j]?) ∧ (∀ j, w'.cell? ⟨w.heap.size, j, none⟩ = #[Value.int .i64 b.kind, .int .i64 b.owner, .int .i64 b.x, .int .i64 b.y, .int .i64 b.vx, .int .i64 b.vy, .int .i64 b.aim, .int .i64 b.life, .int .i64 b.timer][j]?) ∧ (w'.cell? ⟨g, k * 9, none⟩ = some (.int .i64 q.kind) ∧ w'.cell? ⟨g, k * 9 + 1, none⟩ = some (.int .i64 q.owner) ∧ w'.cell? ⟨g, k * 9 + 2, none⟩ = some (.int .i64 q.x) ∧ w'.cell? ⟨g, k * 9 + 3, none⟩ = some (.int .i64 q.y) ∧ w'.cell? ⟨g, k * 9 + 4, none⟩ = some (.int .i64 q.vx) ∧ w'.cell? ⟨g, k * 9 + 5, none⟩ = some (.int .i64 q.vy) ∧ w'.cell? ⟨g, k * 9 + 6, none⟩ = some (.int .i64 q.aim) ∧ w'.cell? ⟨g, k * 9 + 7, none⟩ = some (.int .i64 q.life) ∧ w'.cell? ⟨g, k * 9 + 8, none⟩ = some (.int .i64 q.timer)))) (by kernel_rfl) ?_ (fun hHeld => ?_)
    ·exact ⟨rowCells hPr_0, rowCells hAr_0, cells9 (rG hGr_0)⟩
    refine tk 0 17 ?_
    (try simp only [zP, zA, zB, zC])
    refine tk 1 18 ?_
    (try simp only [zP, zA, zB, zC])
    refine tk 2 19 ?_
    (try simp only [zP, zA, zB, zC])
    refine tk 3 20 ?_
    (try simp only [zP, zA, zB, zC])
    refine tof 4 21 3 20 true false ?_
    (try simp only [zP, zA, zB, zC])
    refine tof 5 22 3 20 true false ?_
    (try simp only [zP, zA, zB, zC])
    refine tof 6 23 3 20 true false ?_
    (try simp only [zP, zA, zB, zC])
    refine tof 7 24 3 20 true false ?_
    (try simp only [zP, zA, zB, zC])
    refine tof 8 25 3 20 true false ?_
    (try simp only [zP, zA, zB, zC])
    refine tof 9 26 3 20 true false ?_
    (try simp only [zP, zA, zB, zC])
    refine tof 10 27 3 20 true false ?_
    (try simp only [zP, zA, zB, zC])
    refine tof 11 28 3 20 true false ?_
    (try simp only [zP, zA, zB, zC])
    refine tof 12 29 3 20 true false ?_
    (try simp only [zP, zA, zB, zC])
    refine tk 13 30 ?_
    (try simp only [zP, zA, zB, zC])
    refine tk 14 31 ?_
    (try simp only [zP, zA, zB, zC])
    refine tof 15 32 14 31 true false ?_
    (try simp only [zP, zA, zB, zC])
    refine tof 16 33 14 31 true false ?_
    (try simp only [zP, zA, zB, zC])
    refine tof 17 34 14 31 true false ?_
    (try simp only [zP, zA, zB, zC])
    refine tof 18 35 14 31 true false ?_
    (try simp only [zP, zA, zB, zC])
    refine tof 19 36 14 31 true false ?_
    (try simp only [zP, zA, zB, zC])
    refine tof 20 37 14 31 true false ?_
    (try simp only [zP, zA, zB, zC])
    refine tof 21 38 14 31 true false ?_
    (try simp only [zP, zA, zB, zC])
    refine tof 22 39 14 31 true false ?_
    (try simp only [zP, zA, zB, zC])
    refine tof 23 40 14 31 true false ?_
    (try simp only [zP, zA, zB, zC])
    refine tk 24 41 ?_
    (try simp only [zP, zA, zB, zC])
    refine wpAnyH_done (by kernel_rfl) ?_ _
    go_wp2_with (fail)
    go_roundw
    case rel => exact ⟨k + 1, by omega, by go_num, HN.out, hbel.trans (bs_0.mono hbel.size)⟩
    case measure => simp [intOf]; omega
   ·have z1 : ((k : Int) != but) = true := by simpa using h1
    by_cases h2 : 0 < q.life
    ·have z3 : decide (0 < q.life) = true := by simpa using h2
     have HN0 : Hid (meetB q b = false → metF b but ((x.bods.take n).drop (k + 1)) (k + 1) = metF b but (x.bods.take n) 0) := Lib.hid (fun hb => by rw [← HM.out, if_neg (fun hh => by rw [hb] at hh; cases hh.2.2)])
     have HN1 : Hid (meetB q b = true → some k = metF b but (x.bods.take n) 0) := Lib.hid (fun hb => by rw [← HM.out, if_pos ⟨h1, h2, hb⟩])
     generalize meetB q b = mb at *
     clear h1 h2 HM
     cases mb with
     | false =>
      have HN := Lib.hid (HN0.out rfl)
      have bs_0 : Below wr.heap.size wr wr.drew := belowDrew wr 1
      have hPr_0 : wr.drew.heap[p]? = _ := hPr
      have hAr_0 : wr.drew.heap[w.heap.size]? = _ := hAr
      have hGr_0 : wr.drew.heap[g]? = _ := hGr
      refine wp_region_held_drew (S := (fun w' => (∀ j, w'.cell? ⟨p, j, none⟩ = #[vl, .int .i64 x.tick, .int .i64 x.seed, .slice aq n cq, .slice (some ⟨g, 0, none⟩) m cb][j]?) ∧ (∀ j, w'.cell? ⟨w.heap.size, j, none⟩ = #[Value.int .i64 b.kind, .int .i64 b.owner, .int .i64 b.x, .int .i64 b.y, .int .i64 b.vx, .int .i64 b.vy, .int .i64 b.aim, .int .i64 b.life, .int .i64 b.timer][j]?) ∧ (w'.cell? ⟨g, k * 9, none⟩ = some (.int .i64 q.kind) ∧ w'.cell? ⟨g, k * 9 + 1, none⟩ = some (.int .i64 q.owner) ∧ w'.cell? ⟨g, k * 9 + 2, none⟩ = some (.int .i64 q.x) ∧ w'.cell? ⟨g, k * 9 + 3, none⟩ = some (.int .i64 q.y) ∧ w'.cell? ⟨g, k * 9 + 4, none⟩ = some (.int .i64 q.vx) ∧ w'.cell? ⟨g, k * 9 + 5, none⟩ = some (.int .i64 q.vy) ∧ w'.cell? ⟨g, k * 9 + 6, none⟩ = some (.int .i64 q.aim) ∧ w'.cell? ⟨g, k * 9 + 7, none⟩ = some (.int .i64 q.life) ∧ w'.cell? ⟨g, k * 9 + 8, none⟩ = some (.int .i64 q.timer)))) (by kernel_rfl) ?_ (fun hHeld => ?_)
      ·exact ⟨rowCells hPr_0, rowCells hAr_0, cells9 (rG hGr_0)⟩
      refine tk 0 17 ?_
      (try simp only [zP, zA, zB, zC])
      refine tk 1 18 ?_
      (try simp only [zP, zA, zB, zC])
      refine tk 2 19 ?_
      (try simp only [zP, zA, zB, zC])
      refine tk 3 20 ?_
      (try simp only [zP, zA, zB, zC])
      refine tw 4 21 3 20 true ?_
      (try simp only [zP, zA, zB, zC])
      refine tw 5 22 3 20 true ?_
      (try simp only [zP, zA, zB, zC])
      refine tw 6 23 3 20 true ?_
      (try simp only [zP, zA, zB, zC])
      refine tw 7 24 3 20 true ?_
      (try simp only [zP, zA, zB, zC])
      refine tw 8 25 3 20 true ?_
      (try simp only [zP, zA, zB, zC])
      refine tw 9 26 3 20 true ?_
      (try simp only [zP, zA, zB, zC])
      refine tw 10 27 3 20 true ?_
      (try simp only [zP, zA, zB, zC])
      refine tw 11 28 3 20 true ?_
      (try simp only [zP, zA, zB, zC])
      refine tw 12 29 3 20 true ?_
      (try simp only [zP, zA, zB, zC])
      refine tk 13 30 ?_
      (try simp only [zP, zA, zB, zC])
      refine tk 14 31 ?_
      (try simp only [zP, zA, zB, zC])
      refine tw 15 32 14 31 true ?_
      (try simp only [zP, zA, zB, zC])
      refine tw 16 33 14 31 true ?_
      (try simp only [zP, zA, zB, zC])
      refine tw 17 34 14 31 true ?_
      (try simp only [zP, zA, zB, zC])
      refine tw 18 35 14 31 true ?_
      (try simp only [zP, zA, zB, zC])
      refine tw 19 36 14 31 true ?_
      (try simp only [zP, zA, zB, zC])
      refine tw 20 37 14 31 true ?_
      (try simp only [zP, zA, zB, zC])
      refine tw 21 38 14 31 true ?_
      (try simp only [zP, zA, zB, zC])
      refine tw 22 39 14 31 true ?_
      (try simp only [zP, zA, zB, zC])
      refine wpAnyH_ready (rs := [23]) (by kernel_rfl) (by simp) ?_
      refine AllReadyH.cons rfl (fun K hK => ?_) AllReadyH.nil
      go_simp
      refine (hmi _).mono ?_
      rintro e w_1 ⟨rfl, hb_1⟩
      have hPr_1 := keepHeap hb_1 hPr_0
      have hAr_1 := keepHeap hb_1 hAr_0
      have hGr_1 := keepHeap hb_1 hGr_0
      have bs_1 := bs_0.trans (hb_1.mono bs_0.size)
      have sz_1 := hb_1.size
      (try go_wp2_with (fail))
      refine hK.out _ _ ?_ (fun hHeld => ?_)
      ·exact ⟨rowCells hPr_1, rowCells hAr_1, cells9 (rG hGr_1)⟩
      clear hK K
      (try simp only [zP, zA, zB, zC])
      refine tk 24 41 ?_
      (try simp only [zP, zA, zB, zC])
      refine wpAnyH_done (by kernel_rfl) ?_ _
      go_wp2_with (fail)
      go_roundw
      case rel => exact ⟨k + 1, by omega, by go_num, HN.out, hbel.trans (bs_1.mono hbel.size)⟩
      case measure => simp [intOf]; omega
     | true =>
      have HN := Lib.hid (HN1.out rfl)
      have bs_0 : Below wr.heap.size wr wr.drew := belowDrew wr 1
      have hPr_0 : wr.drew.heap[p]? = _ := hPr
      have hAr_0 : wr.drew.heap[w.heap.size]? = _ := hAr
      have hGr_0 : wr.drew.heap[g]? = _ := hGr
      refine wp_region_held_drew (S := (fun w' => (∀ j, w'.cell? ⟨p, j, none⟩ = #[vl, .int .i64 x.tick, .int .i64 x.seed, .slice aq n cq, .slice (some ⟨g, 0, none⟩) m cb][j]?) ∧ (∀ j, w'.cell? ⟨w.heap.size, j, none⟩ = #[Value.int .i64 b.kind, .int .i64 b.owner, .int .i64 b.x, .int .i64 b.y, .int .i64 b.vx, .int .i64 b.vy, .int .i64 b.aim, .int .i64 b.life, .int .i64 b.timer][j]?) ∧ (w'.cell? ⟨g, k * 9, none⟩ = some (.int .i64 q.kind) ∧ w'.cell? ⟨g, k * 9 + 1, none⟩ = some (.int .i64 q.owner) ∧ w'.cell? ⟨g, k * 9 + 2, none⟩ = some (.int .i64 q.x) ∧ w'.cell? ⟨g, k * 9 + 3, none⟩ = some (.int .i64 q.y) ∧ w'.cell? ⟨g, k * 9 + 4, none⟩ = some (.int .i64 q.vx) ∧ w'.cell? ⟨g, k * 9 + 5, none⟩ = some (.int .i64 q.vy) ∧ w'.cell? ⟨g, k * 9 + 6, none⟩ = some (.int .i64 q.aim) ∧ w'.cell? ⟨g, k * 9 + 7, none⟩ = some (.int .i64 q.life) ∧ w'.cell? ⟨g, k * 9 + 8, none⟩ = some (.int .i64 q.timer)))) (by kernel_rfl) ?_ (fun hHeld => ?_)
      ·exact ⟨rowCells hPr_0, rowCells hAr_0, cells9 (rG hGr_0)⟩
      refine tk 0 17 ?_
      (try simp only [zP, zA, zB, zC])
      refine tk 1 18 ?_
      (try simp only [zP, zA, zB, zC])
      refine tk 2 19 ?_
      (try simp only [zP, zA, zB, zC])
      refine tk 3 20 ?_
      (try simp only [zP, zA, zB, zC])
      refine tw 4 21 3 20 true ?_
      (try simp only [zP, zA, zB, zC])
      refine tw 5 22 3 20 true ?_
      (try simp only [zP, zA, zB, zC])
      refine tw 6 23 3 20 true ?_
      (try simp only [zP, zA, zB, zC])
      refine tw 7 24 3 20 true ?_
      (try simp only [zP, zA, zB, zC])
      refine tw 8 25 3 20 true ?_
      (try simp only [zP, zA, zB, zC])
      refine tw 9 26 3 20 true ?_
      (try simp only [zP, zA, zB, zC])
      refine tw 10 27 3 20 true ?_
      (try simp only [zP, zA, zB, zC])
      refine tw 11 28 3 20 true ?_
      (try simp only [zP, zA, zB, zC])
      refine tw 12 29 3 20 true ?_
      (try simp only [zP, zA, zB, zC])
      refine tk 13 30 ?_
      (try simp only [zP, zA, zB, zC])
      refine tk 14 31 ?_
      (try simp only [zP, zA, zB, zC])
      refine tw 15 32 14 31 true ?_
      (try simp only [zP, zA, zB, zC])
      refine tw 16 33 14 31 true ?_
      (try simp only [zP, zA, zB, zC])
      refine tw 17 34 14 31 true ?_
      (try simp only [zP, zA, zB, zC])
      refine tw 18 35 14 31 true ?_
      (try simp only [zP, zA, zB, zC])
      refine tw 19 36 14 31 true ?_
      (try simp only [zP, zA, zB, zC])
      refine tw 20 37 14 31 true ?_
      (try simp only [zP, zA, zB, zC])
      refine tw 21 38 14 31 true ?_
      (try simp only [zP, zA, zB, zC])
      refine tw 22 39 14 31 true ?_
      (try simp only [zP, zA, zB, zC])
      refine wpAnyH_ready (rs := [23]) (by kernel_rfl) (by simp) ?_
      refine AllReadyH.cons rfl (fun K hK => ?_) AllReadyH.nil
      go_simp
      refine (hmi _).mono ?_
      rintro e w_1 ⟨rfl, hb_1⟩
      have hPr_1 := keepHeap hb_1 hPr_0
      have hAr_1 := keepHeap hb_1 hAr_0
      have hGr_1 := keepHeap hb_1 hGr_0
      have bs_1 := bs_0.trans (hb_1.mono bs_0.size)
      have sz_1 := hb_1.size
      (try go_wp2_with (fail))
      refine hK.out _ _ ?_ (fun hHeld => ?_)
      ·exact ⟨rowCells hPr_1, rowCells hAr_1, cells9 (rG hGr_1)⟩
      clear hK K
      (try simp only [zP, zA, zB, zC])
      refine tk 24 41 ?_
      (try simp only [zP, zA, zB, zC])
      refine wpAnyH_done (by kernel_rfl) ?_ _
      go_wp2_with (fail)
      go_ret
      exact ⟨by rw [← HN.out]; rfl, hb0r.trans (bs_1.mono hb0r.size)⟩
    ·have z3 : decide (0 < q.life) = false := by simpa using h2
     have HN : Hid (metF b but ((x.bods.take n).drop (k + 1)) (k + 1) = metF b but (x.bods.take n) 0) := Lib.hid (by rw [← HM.out, if_neg (fun hh => h2 hh.2.1)])
     clear h1 h2 HM
     have bs_0 : Below wr.heap.size wr wr.drew := belowDrew wr 1
     have hPr_0 : wr.drew.heap[p]? = _ := hPr
     have hAr_0 : wr.drew.heap[w.heap.size]? = _ := hAr
     have hGr_0 : wr.drew.heap[g]? = _ := hGr
     refine wp_region_held_drew (S := (fun w' => (∀ j, w'.cell? ⟨p, j, none⟩ = #[vl, .int .i64 x.tick, .int .i64 x.seed, .slice aq n cq, .slice (some ⟨g, 0, none⟩) m cb][j]?) ∧ (∀ j, w'.cell? ⟨w.heap.size, j, none⟩ = #[Value.int .i64 b.kind, .int .i64 b.owner, .int .i64 b.x, .int .i64 b.y, .int .i64 b.vx, .int .i64 b.vy, .int .i64 b.aim, .int .i64 b.life, .int .i64 b.timer][j]?) ∧ (w'.cell? ⟨g, k * 9, none⟩ = some (.int .i64 q.kind) ∧ w'.cell? ⟨g, k * 9 + 1, none⟩ = some (.int .i64 q.owner) ∧ w'.cell? ⟨g, k * 9 + 2, none⟩ = some (.int .i64 q.x) ∧ w'.cell? ⟨g, k * 9 + 3, none⟩ = some (.int .i64 q.y) ∧ w'.cell? ⟨g, k * 9 + 4, none⟩ = some (.int .i64 q.vx) ∧ w'.cell? ⟨g, k * 9 + 5, none⟩ = some (.int .i64 q.vy) ∧ w'.cell? ⟨g, k * 9 + 6, none⟩ = some (.int .i64 q.aim) ∧ w'.cell? ⟨g, k * 9 + 7, none⟩ = some (.int .i64 q.life) ∧ w'.cell? ⟨g, k * 9 + 8, none⟩ = some (.int .i64 q.timer)))) (by kernel_rfl) ?_ (fun hHeld => ?_)
     ·exact ⟨rowCells hPr_0, rowCells hAr_0, cells9 (rG hGr_0)⟩
     refine tk 0 17 ?_
     (try simp only [zP, zA, zB, zC])
     refine tk 1 18 ?_
     (try simp only [zP, zA, zB, zC])
     refine tk 2 19 ?_
     (try simp only [zP, zA, zB, zC])
     refine tk 3 20 ?_
     (try simp only [zP, zA, zB, zC])
     refine tw 4 21 3 20 true ?_
     (try simp only [zP, zA, zB, zC])
     refine tw 5 22 3 20 true ?_
     (try simp only [zP, zA, zB, zC])
     refine tw 6 23 3 20 true ?_
     (try simp only [zP, zA, zB, zC])
     refine tw 7 24 3 20 true ?_
     (try simp only [zP, zA, zB, zC])
     refine tw 8 25 3 20 true ?_
     (try simp only [zP, zA, zB, zC])
     refine tw 9 26 3 20 true ?_
     (try simp only [zP, zA, zB, zC])
     refine tw 10 27 3 20 true ?_
     (try simp only [zP, zA, zB, zC])
     refine tw 11 28 3 20 true ?_
     (try simp only [zP, zA, zB, zC])
     refine tw 12 29 3 20 true ?_
     (try simp only [zP, zA, zB, zC])
     refine tk 13 30 ?_
     (try simp only [zP, zA, zB, zC])
     refine tk 14 31 ?_
     (try simp only [zP, zA, zB, zC])
     refine tof 15 32 14 31 true false ?_
     (try simp only [zP, zA, zB, zC])
     refine tof 16 33 14 31 true false ?_
     (try simp only [zP, zA, zB, zC])
     refine tof 17 34 14 31 true false ?_
     (try simp only [zP, zA, zB, zC])
     refine tof 18 35 14 31 true false ?_
     (try simp only [zP, zA, zB, zC])
     refine tof 19 36 14 31 true false ?_
     (try simp only [zP, zA, zB, zC])
     refine tof 20 37 14 31 true false ?_
     (try simp only [zP, zA, zB, zC])
     refine tof 21 38 14 31 true false ?_
     (try simp only [zP, zA, zB, zC])
     refine tof 22 39 14 31 true false ?_
     (try simp only [zP, zA, zB, zC])
     refine tof 23 40 14 31 true false ?_
     (try simp only [zP, zA, zB, zC])
     refine tk 24 41 ?_
     (try simp only [zP, zA, zB, zC])
     refine wpAnyH_done (by kernel_rfl) ?_ _
     go_wp2_with (fail)
     go_roundw
     case rel => exact ⟨k + 1, by omega, by go_num, HN.out, hbel.trans (bs_0.mono hbel.size)⟩
     case measure => simp [intOf]; omega
  ·obtain rfl : k = n := by omega
   rw [List.drop_of_length_le (by rw [HLP.out]; exact Nat.le_refl _), metF] at hm
   have HM := Lib.hid hm
   clear hm
   go_wp2_with (fail)
   go_ret
   exact ⟨by rw [← HM.out]; rfl, hB0.trans (hbel.mono hB0.size)⟩
set_option maxRecDepth 100000 in
set_option maxHeartbeats 4000000 in
theorem point_spec {w : World} {T p : Nat} {x : Wd} {vl vs vb : Value} (h : BxW w T p x vl vs vb) (k : Nat) (hk : k < x.scores.length) (hs : 0 ≤ x.scores[k] ∧ x.scores[k] ≤ 1000000) (h4 : x.scores.length ≤ 4) :
  Calls Tryz.prog 254 #[.pointer (some ⟨p, 0, none⟩), .int .i64 (k : Int)] w (RetAw w T p x vl vs vb k) := by
 obtain ⟨hP, hTp, -, hS, -⟩ := id h
 obtain ⟨g, cap, rfl, hTg, hgw, -⟩ := hS.shape (by omega)
 have hkn : (k : Int) < (x.scores.length : Int) := by omega
 have hn4 : (x.scores.length : Int) ≤ 4 := by omega
 have cP := rowCells hP
 have cS : w.cell? ⟨g, k, none⟩ = some (.int .i64 x.scores[k]) := by
  obtain ⟨a, c, e, h2⟩ := hS.own
  rcases h2 with h2 | ⟨b, hB, ha, hr⟩
  ·rw [h2] at hk; simp at hk
  ·simp only [Value.slice.injEq] at e
   rw [ha, Option.some.injEq, Addr.mk.injEq] at e
   obtain ⟨⟨rfl, -⟩, -⟩ := e
   exact hr.1 k hk
 have fS : w.frozen? ⟨g, k, none⟩ = false := World.ownsRow.frozenAt hS k
 have HA : Hid (∀ m : Int, min (x.scores[k] + 1) 1000000 = m → awd x.scores k = x.scores.set k m) := Lib.hid (fun m e => by unfold awd; rw [List.getD_eq_getElem?_getD, List.getElem?_eq_getElem hk]; simp only [Option.getD_some]; rw [e])
 have HB := fun m => Lib.hid (h.score rfl k m)
 have HF := fun m => Lib.hid (frS h vb k (.int .i64 m))
 obtain ⟨s, hss⟩ : ∃ s, s = x.scores[k] := ⟨_, rfl⟩
 rw [← hss] at cS HA
 rw [← hss] at hs
 obtain ⟨hs0, hs1⟩ := hs
 unfold wdC at cP
 have hTw := Nat.le_of_lt h.low
 clear hss hS hP h
 generalize hnn : x.scores.length = n at *
 clear hnn
 by_cases hm : s < 1000000
 ·have e6 : min (s + 1) 1000000 = s + 1 := Int.min_eq_left (by omega)
  have HE := Lib.hid (HA.out _ e6)
  clear HA
  go_enter Tryz.func254, Tryz.ntmps254
  go_wp2_with (fail)
  go_region
  all_goals
   go_wp2_with (fail)
   refine bodyPost_ret (v := .tuple #[]) (by simp [results, Tryz.results254]) rfl ⟨rfl, ?_, ?_⟩
   ·rw [HE.out]; exact (HB (s + 1)).out.drew 1
   ·exact (HF (s + 1)).out.drew hTw 1
 ·have e6 : min (s + 1) 1000000 = 1000000 := Int.min_eq_right (by omega)
  have HE := Lib.hid (HA.out _ e6)
  clear HA
  go_enter Tryz.func254, Tryz.ntmps254
  go_wp2_with (fail)
  go_region
  all_goals
   go_wp2_with (fail)
   refine bodyPost_ret (v := .tuple #[]) (by simp [results, Tryz.results254]) rfl ⟨rfl, ?_, ?_⟩
   ·rw [HE.out]; exact (HB 1000000).out.drew 1
   ·exact (HF 1000000).out.drew hTw 1
end Go.Proofs.YtnlonkkbjkfkmaaGreatDoor
