/-
  Texts of this proof: PrO.
-/
import Derived.Test.YtnlonkkbjkfkmaaGreatDoorM36
import Derived.Test.YtnlonkkbjkfkmaaGreatDoorM40
import Derived.Test.YtnlonkkbjkfkmaaGreatDoorM44
import Derived.Test.YtnlonkkbjkfkmaaGreatDoorM45
import Derived.Test.YtnlonkkbjkfkmaaGreatDoorM46
import Derived.Test.YtnlonkkbjkfkmaaGreatDoorM22
import Derived.BigQuiet
import Derived.Deep.RegionHeld3
import Derived.Deep.Cut
namespace Go.Proofs.YtnlonkkbjkfkmaaGreatDoor
open Go.RowKit
set_option linter.all false
theorem blockLtP {w : World} {k : Nat} {o : Obj} (h : w.heap[k]? = some o) : k < w.heap.size := (Array.getElem?_eq_some_iff.1 h).1
def worldsB (p : Pr) : Bool := worldB p.base && (worldB p.now && (sg p.base.rows p.now.rows && (decide ((p.base.scores.length : Int) = (p.tracks.length : Int)) && decide ((p.now.scores.length : Int) = (p.tracks.length : Int)))))
def numbersB (p : Pr) : Bool := faultB p.fault (p.tracks.length : Int) && (inR p.me 0 ((p.tracks.length : Int) - 1) && (inR p.delay 0 5 && (inR p.ahead 1 8 && (inR p.seed 0 65535 && allW 0 1000000 [p.rolls, p.again]))))
def rowAtB (p : Pr) (k : Nat) : Bool := rokB (p.tracks.length : Int) (p.used.getD k []) && decide ((p.saves.getD k nilSv).tick = p.base.tick + (k : Int))
def tailB (p : Pr) : Bool := decide (p.base.tick ≤ knownI p.tracks) && (decide (p.now.tick ≤ ((p.tracks.getD p.me.toNat []).length : Int)) && decide ((p.sums.length : Int) = p.base.tick + 1))
def ticksB (p : Pr) : Bool := inR (p.now.tick - p.base.tick) 0 p.ahead && (decide ((p.used.length : Int) = p.now.tick - p.base.tick) && (decide ((p.saves.length : Int) = p.now.tick - p.base.tick) && ((List.range (p.now.tick - p.base.tick).toNat).all (rowAtB p) && tailB p)))
def peerB (p : Pr) : Bool := trksB p.tracks && (worldsB p && (numbersB p && ticksB p))
section
variable {p : Pr}
theorem pr_t (h : trksB p.tracks = false) : peerB p = false := by unfold peerB; rw [h]; rfl
theorem pr_w (h : worldsB p = false) : peerB p = false := by unfold peerB; rw [h]; simp
theorem pr_n (h : numbersB p = false) : peerB p = false := by unfold peerB; rw [h]; simp
theorem pr_ok (h1 : trksB p.tracks = true) (h2 : worldsB p = true) (h3 : numbersB p = true) : peerB p = ticksB p := by unfold peerB; rw [h1, h2, h3]; rfl
theorem ws_b (h : worldB p.base = false) : worldsB p = false := by unfold worldsB; rw [h]; rfl
theorem ws_n (h : worldB p.now = false) : worldsB p = false := by unfold worldsB; rw [h]; simp
theorem ws_l (h : sg p.base.rows p.now.rows = false) : worldsB p = false := by unfold worldsB; rw [h]; simp
theorem ws_1 (h : ¬ (p.base.scores.length : Int) = (p.tracks.length : Int)) : worldsB p = false := by unfold worldsB; rw [decide_eq_false h]; simp
theorem ws_2 (h : ¬ (p.now.scores.length : Int) = (p.tracks.length : Int)) : worldsB p = false := by unfold worldsB; rw [decide_eq_false h]; simp
theorem ws_ok (h1 : worldB p.base = true) (h2 : worldB p.now = true) (h3 : sg p.base.rows p.now.rows = true) (h4 : (p.base.scores.length : Int) = (p.tracks.length : Int)) (h5 : (p.now.scores.length : Int) = (p.tracks.length : Int)) : worldsB p = true := by unfold worldsB; rw [h1, h2, h3, decide_eq_true h4, decide_eq_true h5]; rfl
theorem ns_f (h : faultB p.fault (p.tracks.length : Int) = false) : numbersB p = false := by unfold numbersB; rw [h]; rfl
theorem ns_m (h : inR p.me 0 ((p.tracks.length : Int) - 1) = false) : numbersB p = false := by unfold numbersB; rw [h]; simp
theorem ns_d (h : inR p.delay 0 5 = false) : numbersB p = false := by unfold numbersB; rw [h]; simp
theorem ns_a (h : inR p.ahead 1 8 = false) : numbersB p = false := by unfold numbersB; rw [h]; simp
theorem ns_s (h : inR p.seed 0 65535 = false) : numbersB p = false := by unfold numbersB; rw [h]; simp
theorem ns_c (h : allW 0 1000000 [p.rolls, p.again] = false) : numbersB p = false := by unfold numbersB; rw [h]; simp
theorem ns_ok (h1 : faultB p.fault (p.tracks.length : Int) = true) (h2 : inR p.me 0 ((p.tracks.length : Int) - 1) = true) (h3 : inR p.delay 0 5 = true) (h4 : inR p.ahead 1 8 = true) (h5 : inR p.seed 0 65535 = true) (h6 : allW 0 1000000 [p.rolls, p.again] = true) : numbersB p = true := by unfold numbersB; rw [h1, h2, h3, h4, h5, h6]; rfl
theorem tk_l (h : inR (p.now.tick - p.base.tick) 0 p.ahead = false) : ticksB p = false := by unfold ticksB; rw [h]; rfl
theorem tk_u (h : ¬ (p.used.length : Int) = p.now.tick - p.base.tick) : ticksB p = false := by unfold ticksB; rw [decide_eq_false h]; simp
theorem tk_s (h : ¬ (p.saves.length : Int) = p.now.tick - p.base.tick) : ticksB p = false := by unfold ticksB; rw [decide_eq_false h]; simp
theorem tk_r {k : Nat} (hk : (k : Int) < p.now.tick - p.base.tick) (h : rowAtB p k = false) : ticksB p = false := by
 have : (List.range (p.now.tick - p.base.tick).toNat).all (rowAtB p) = false := by rw [List.all_eq_false]; exact ⟨k, by rw [List.mem_range]; omega, by rw [h]; simp⟩
 unfold ticksB; rw [this]; simp
theorem tk_ok (h1 : inR (p.now.tick - p.base.tick) 0 p.ahead = true) (h2 : (p.used.length : Int) = p.now.tick - p.base.tick) (h3 : (p.saves.length : Int) = p.now.tick - p.base.tick) (h4 : ∀ k : Nat, (k : Int) < p.now.tick - p.base.tick → rowAtB p k = true) : ticksB p = tailB p := by
 have : (List.range (p.now.tick - p.base.tick).toNat).all (rowAtB p) = true := by rw [List.all_eq_true]; intro k hk; rw [List.mem_range] at hk; exact h4 k (by omega)
 unfold ticksB; rw [h1, decide_eq_true h2, decide_eq_true h3, this]; rfl
theorem ra_no {k : Nat} (hk : k < p.used.length) (h : rokB (p.tracks.length : Int) p.used[k] = false) : rowAtB p k = false := by
 unfold rowAtB; rw [List.getD_eq_getElem?_getD, List.getElem?_eq_getElem hk, Option.getD_some, h]; rfl
theorem ra_tick {k : Nat} (hk : k < p.saves.length) (h : ¬ p.saves[k].tick = p.base.tick + (k : Int)) : rowAtB p k = false := by
 have e : p.saves.getD k nilSv = p.saves[k] := by rw [List.getD_eq_getElem?_getD, List.getElem?_eq_getElem hk, Option.getD_some]
 unfold rowAtB; rw [e, decide_eq_false h]; simp
theorem ra_ok {k : Nat} (hk : k < p.used.length) (hk2 : k < p.saves.length) (h : rokB (p.tracks.length : Int) p.used[k] = true) (h2 : p.saves[k].tick = p.base.tick + (k : Int)) : rowAtB p k = true := by
 unfold rowAtB; rw [List.getD_eq_getElem?_getD, List.getD_eq_getElem?_getD, List.getElem?_eq_getElem hk, List.getElem?_eq_getElem hk2, Option.getD_some, Option.getD_some, h, decide_eq_true h2]; rfl
theorem tl_k (h : ¬ p.base.tick ≤ knownI p.tracks) : tailB p = false := by unfold tailB; rw [decide_eq_false h]; rfl
theorem tl_m {m : Nat} (hm : m < p.tracks.length) (hme : p.me = (m : Int)) (h : ¬ p.now.tick ≤ (p.tracks[m].length : Int)) : tailB p = false := by
 unfold tailB; rw [hme, Int.toNat_natCast, List.getD_eq_getElem?_getD, List.getElem?_eq_getElem hm, Option.getD_some, decide_eq_false h]; simp
theorem tl_ok {m : Nat} (hm : m < p.tracks.length) (hme : p.me = (m : Int)) (h1 : p.base.tick ≤ knownI p.tracks) (h : p.now.tick ≤ (p.tracks[m].length : Int)) : tailB p = decide ((p.sums.length : Int) = p.base.tick + 1) := by
 unfold tailB; rw [hme, Int.toNat_natCast, List.getD_eq_getElem?_getD, List.getElem?_eq_getElem hm, Option.getD_some, decide_eq_true h, decide_eq_true h1]; rfl
end
set_option maxRecDepth 100000 in
set_option maxHeartbeats 8000000 in
theorem worldsFit_impl {w : World} {p : Pr} {vt bl bs bb nl ns nb vu vv vs : Value} {B : Nat} (hA : w.heap[B]? = some (.cells (prC p vt bl bs bb nl ns nb vu vv vs) 63 (0, 0))) (h : RdPr w p vt bl bs bb nl ns nb vu vv vs) (hs : p.sane) (hf : p.few) :
  Calls Tryz.prog 169 #[.pointer (some ⟨B, 0, none⟩)] w fun e w' => e = .returned (.bool (worldsB p)) ∧ Below w.heap.size w w' := by
 have h0 := h
 obtain ⟨a0, c0, rfl, -⟩ := id h.1
 obtain ⟨a1, c1, rfl, -⟩ := id h.2.1.1
 obtain ⟨a2, c2, rfl, -⟩ := id h.2.1.2.1
 obtain ⟨a3, c3, rfl, -⟩ := id h.2.1.2.2
 obtain ⟨a4, c4, rfl, -⟩ := id h.2.2.1.1
 obtain ⟨a5, c5, rfl, -⟩ := id h.2.2.1.2.1
 obtain ⟨a6, c6, rfl, -⟩ := id h.2.2.1.2.2
 obtain ⟨a7, c7, rfl, -⟩ := id h.2.2.2.1
 obtain ⟨a8, c8, rfl, -⟩ := id h.2.2.2.2.1
 obtain ⟨a9, c9, rfl, -⟩ := id h.2.2.2.2.2
 unfold prC at hA
 have cA := rowCells hA
 have hlA : B < w.heap.size := blockLtP hA
 have ht : (p.tracks.length : Int) ≤ 9223372036854775807 := by have := hs.1.1; omega
 have hb : (p.base.scores.length : Int) ≤ 9223372036854775807 := by have := hs.2.1.2.1; omega
 have hn : (p.now.scores.length : Int) ≤ 9223372036854775807 := by have := hs.2.2.1.2.1; omega
 have hu : (p.used.length : Int) ≤ 9223372036854775807 := by have := hs.2.2.2.1.1; omega
 have hv : (p.saves.length : Int) ≤ 9223372036854775807 := by have := hs.2.2.2.2.1.1; omega
 have hm : (p.sums.length : Int) ≤ 9223372036854775807 := by have := hs.2.2.2.2.2; omega
 have hwb := fun {W : World} (hb : Below w.heap.size w W) => worldOk_impl ((h0.keep hb).2.1) hs.2.1
 have hwn := fun {W : World} (hb : Below w.heap.size w W) => worldOk_impl ((h0.keep hb).2.2.1) hs.2.2.1
 have hws := fun {W : World} (hb : Below w.heap.size w W) => equalS_any ((h0.keep hb).2.1.1) ((h0.keep hb).2.2.1.1) hs.2.1.1.1 hs.2.2.1.1.1
 unfold wdC at hwb hwn
 go_enter Tryz.func169, Tryz.ntmps169
 go_upto_region 2 with (fail)
 have bs_0 : Below w.heap.size w w.drew := belowDrew w 1
 refine wp_region_held_drew (S := (fun w' => (∀ j, w'.cell? ⟨B, j, none⟩ = #[Value.int .i64 p.me, .int .i64 p.delay, .int .i64 p.ahead, .int .i64 p.seed, (.slice a0 p.tracks.length c0), (.slice a1 p.base.rows.length c1), .int .i64 p.base.tick, .int .i64 p.base.seed, (.slice a2 p.base.scores.length c2), (.slice a3 p.base.bods.length c3), (.slice a4 p.now.rows.length c4), .int .i64 p.now.tick, .int .i64 p.now.seed, (.slice a5 p.now.scores.length c5), (.slice a6 p.now.bods.length c6), (.slice a7 p.used.length c7), (.slice a8 p.saves.length c8), (.slice a9 p.sums.length c9), .int .i64 p.fault.tick, .int .i64 p.fault.player, .int .i64 p.fault.add, .int .i64 p.rolls, .int .i64 p.again][j]?))) (by kernel_rfl) ?_ (fun hHeld => ?_)
 ·exact rowCells (keepHeap bs_0 hA)
 refine tk 0 9 ?_
 (try simp only [zP, zA, zB, zC])
 refine tk 1 10 ?_
 (try simp only [zP, zA, zB, zC])
 refine tk 2 11 ?_
 (try simp only [zP, zA, zB, zC])
 refine tk 3 12 ?_
 (try simp only [zP, zA, zB, zC])
 refine wpAnyH_ready (rs := [4]) (by kernel_rfl) (by simp) ?_
 refine AllReadyH.cons rfl (fun K hK => ?_) AllReadyH.nil
 go_simp
 refine (hwb bs_0).mono ?_
 rintro e w_1 ⟨rfl, hb_1⟩
 have bs_1 := bs_0.trans (hb_1.mono bs_0.size)
 cases q1 : worldB p.base with
 | false =>
  have Q1 := Lib.hid q1
  clear q1
  (try go_wp2_with (fail))
  refine hK.out _ _ ?_ (fun hHeld => ?_)
  ·exact rowCells (keepHeap bs_1 hA)
  clear hK K
  (try simp only [zP, zA, zB, zC])
  refine tk 5 14 ?_
  (try simp only [zP, zA, zB, zC])
  refine tk 6 15 ?_
  (try simp only [zP, zA, zB, zC])
  refine tof 7 16 6 15 false true ?_
  (try simp only [zP, zA, zB, zC])
  refine tof 8 17 6 15 false true ?_
  (try simp only [zP, zA, zB, zC])
  refine tof 9 18 6 15 false true ?_
  (try simp only [zP, zA, zB, zC])
  refine tof 10 19 6 15 false true ?_
  (try simp only [zP, zA, zB, zC])
  refine tof 11 20 6 15 false true ?_
  (try simp only [zP, zA, zB, zC])
  refine tof 12 21 6 15 false true ?_
  (try simp only [zP, zA, zB, zC])
  refine tk 13 22 ?_
  (try simp only [zP, zA, zB, zC])
  refine tk 14 23 ?_
  (try simp only [zP, zA, zB, zC])
  refine tof 15 24 14 23 false true ?_
  (try simp only [zP, zA, zB, zC])
  refine tof 16 25 14 23 false true ?_
  (try simp only [zP, zA, zB, zC])
  refine tof 17 26 14 23 false true ?_
  (try simp only [zP, zA, zB, zC])
  refine tof 18 27 14 23 false true ?_
  (try simp only [zP, zA, zB, zC])
  refine tof 19 28 14 23 false true ?_
  (try simp only [zP, zA, zB, zC])
  refine tof 20 29 14 23 false true ?_
  (try simp only [zP, zA, zB, zC])
  refine tof 21 30 14 23 false true ?_
  (try simp only [zP, zA, zB, zC])
  refine tof 22 31 14 23 false true ?_
  (try simp only [zP, zA, zB, zC])
  refine tof 23 32 14 23 false true ?_
  (try simp only [zP, zA, zB, zC])
  refine tof 24 33 14 23 false true ?_
  (try simp only [zP, zA, zB, zC])
  refine tof 25 34 14 23 false true ?_
  (try simp only [zP, zA, zB, zC])
  refine tof 26 35 14 23 false true ?_
  (try simp only [zP, zA, zB, zC])
  refine tof 27 36 14 23 false true ?_
  (try simp only [zP, zA, zB, zC])
  refine tof 28 37 14 23 false true ?_
  (try simp only [zP, zA, zB, zC])
  refine tk 29 38 ?_
  (try simp only [zP, zA, zB, zC])
  refine wpAnyH_done (by kernel_rfl) ?_ _
  have HF := Lib.hid (ws_b Q1.out)
  go_wp2_with (fail)
  go_ret
  exact ⟨by rw [HF.out]; rfl, bs_1⟩
 | true =>
  have Q1 := Lib.hid q1
  clear q1
  (try go_wp2_with (fail))
  refine hK.out _ _ ?_ (fun hHeld => ?_)
  ·exact rowCells (keepHeap bs_1 hA)
  clear hK K
  (try simp only [zP, zA, zB, zC])
  refine tk 5 14 ?_
  (try simp only [zP, zA, zB, zC])
  refine tk 6 15 ?_
  (try simp only [zP, zA, zB, zC])
  refine tw 7 16 6 15 false ?_
  (try simp only [zP, zA, zB, zC])
  refine tw 8 17 6 15 false ?_
  (try simp only [zP, zA, zB, zC])
  refine tw 9 18 6 15 false ?_
  (try simp only [zP, zA, zB, zC])
  refine tw 10 19 6 15 false ?_
  (try simp only [zP, zA, zB, zC])
  refine wpAnyH_ready (rs := [11]) (by kernel_rfl) (by simp) ?_
  refine AllReadyH.cons rfl (fun K hK => ?_) AllReadyH.nil
  go_simp
  refine (hwn bs_1).mono ?_
  rintro e w_2 ⟨rfl, hb_2⟩
  have bs_2 := bs_1.trans (hb_2.mono bs_1.size)
  cases q2 : worldB p.now with
  | false =>
   have Q2 := Lib.hid q2
   clear q2
   (try go_wp2_with (fail))
   refine hK.out _ _ ?_ (fun hHeld => ?_)
   ·exact rowCells (keepHeap bs_2 hA)
   clear hK K
   (try simp only [zP, zA, zB, zC])
   refine tw 12 21 6 15 false ?_
   (try simp only [zP, zA, zB, zC])
   refine tk 13 22 ?_
   (try simp only [zP, zA, zB, zC])
   refine tk 14 23 ?_
   (try simp only [zP, zA, zB, zC])
   refine tof 15 24 14 23 false true ?_
   (try simp only [zP, zA, zB, zC])
   refine tof 16 25 14 23 false true ?_
   (try simp only [zP, zA, zB, zC])
   refine tof 17 26 14 23 false true ?_
   (try simp only [zP, zA, zB, zC])
   refine tof 18 27 14 23 false true ?_
   (try simp only [zP, zA, zB, zC])
   refine tof 19 28 14 23 false true ?_
   (try simp only [zP, zA, zB, zC])
   refine tof 20 29 14 23 false true ?_
   (try simp only [zP, zA, zB, zC])
   refine tof 21 30 14 23 false true ?_
   (try simp only [zP, zA, zB, zC])
   refine tof 22 31 14 23 false true ?_
   (try simp only [zP, zA, zB, zC])
   refine tof 23 32 14 23 false true ?_
   (try simp only [zP, zA, zB, zC])
   refine tof 24 33 14 23 false true ?_
   (try simp only [zP, zA, zB, zC])
   refine tof 25 34 14 23 false true ?_
   (try simp only [zP, zA, zB, zC])
   refine tof 26 35 14 23 false true ?_
   (try simp only [zP, zA, zB, zC])
   refine tof 27 36 14 23 false true ?_
   (try simp only [zP, zA, zB, zC])
   refine tof 28 37 14 23 false true ?_
   (try simp only [zP, zA, zB, zC])
   refine tk 29 38 ?_
   (try simp only [zP, zA, zB, zC])
   refine wpAnyH_done (by kernel_rfl) ?_ _
   have HF := Lib.hid (ws_n Q2.out)
   go_wp2_with (fail)
   go_ret
   exact ⟨by rw [HF.out]; rfl, bs_2⟩
  | true =>
   have Q2 := Lib.hid q2
   clear q2
   (try go_wp2_with (fail))
   refine hK.out _ _ ?_ (fun hHeld => ?_)
   ·exact rowCells (keepHeap bs_2 hA)
   clear hK K
   (try simp only [zP, zA, zB, zC])
   refine tw 12 21 6 15 false ?_
   (try simp only [zP, zA, zB, zC])
   refine tk 13 22 ?_
   (try simp only [zP, zA, zB, zC])
   refine tk 14 23 ?_
   (try simp only [zP, zA, zB, zC])
   refine tw 15 24 14 23 false ?_
   (try simp only [zP, zA, zB, zC])
   refine tw 16 25 14 23 false ?_
   (try simp only [zP, zA, zB, zC])
   refine tw 17 26 14 23 false ?_
   (try simp only [zP, zA, zB, zC])
   refine tw 18 27 14 23 false ?_
   (try simp only [zP, zA, zB, zC])
   refine tw 19 28 14 23 false ?_
   (try simp only [zP, zA, zB, zC])
   refine tw 20 29 14 23 false ?_
   (try simp only [zP, zA, zB, zC])
   refine tw 21 30 14 23 false ?_
   (try simp only [zP, zA, zB, zC])
   refine tw 22 31 14 23 false ?_
   (try simp only [zP, zA, zB, zC])
   refine tw 23 32 14 23 false ?_
   (try simp only [zP, zA, zB, zC])
   refine tw 24 33 14 23 false ?_
   (try simp only [zP, zA, zB, zC])
   refine tw 25 34 14 23 false ?_
   (try simp only [zP, zA, zB, zC])
   refine tw 26 35 14 23 false ?_
   (try simp only [zP, zA, zB, zC])
   refine wpAnyH_ready (rs := [27]) (by kernel_rfl) (by simp) ?_
   refine AllReadyH.cons rfl (fun K hK => ?_) AllReadyH.nil
   go_simp
   refine (hws bs_2).mono ?_
   rintro e w_3 ⟨rfl, hb_3⟩
   have bs_3 := bs_2.trans (hb_3.mono bs_2.size)
   cases q3 : sg p.base.rows p.now.rows with
   | false =>
    have Q3 := Lib.hid q3
    clear q3
    (try go_wp2_with (fail))
    refine hK.out _ _ ?_ (fun hHeld => ?_)
    ·exact rowCells (keepHeap bs_3 hA)
    clear hK K
    (try simp only [zP, zA, zB, zC])
    refine tw 28 37 14 23 false ?_
    (try simp only [zP, zA, zB, zC])
    refine tk 29 38 ?_
    (try simp only [zP, zA, zB, zC])
    refine wpAnyH_done (by kernel_rfl) ?_ _
    have HF := Lib.hid (ws_l Q3.out)
    go_wp2_with (fail)
    go_ret
    exact ⟨by rw [HF.out]; rfl, bs_3⟩
   | true =>
    have Q3 := Lib.hid q3
    clear q3
    (try go_wp2_with (fail))
    refine hK.out _ _ ?_ (fun hHeld => ?_)
    ·exact rowCells (keepHeap bs_3 hA)
    clear hK K
    (try simp only [zP, zA, zB, zC])
    refine tw 28 37 14 23 false ?_
    (try simp only [zP, zA, zB, zC])
    refine tk 29 38 ?_
    (try simp only [zP, zA, zB, zC])
    refine wpAnyH_done (by kernel_rfl) ?_ _
    have cZ := rowCells (keepHeap bs_3 hA)
    by_cases e1 : (p.base.scores.length : Int) = (p.tracks.length : Int)
    ·have z1 : ((p.base.scores.length : Int) == (p.tracks.length : Int)) = true := by simpa using e1
     by_cases e2 : (p.now.scores.length : Int) = (p.tracks.length : Int)
     ·have z2 : ((p.now.scores.length : Int) == (p.tracks.length : Int)) = true := by simpa using e2
      have HF := Lib.hid (ws_ok Q1.out Q2.out Q3.out e1 e2)
      clear e1 e2
      go_wp2_with (fail)
      go_ret
      exact ⟨by rw [HF.out]; rfl, bs_3⟩
     ·have z2 : ((p.now.scores.length : Int) == (p.tracks.length : Int)) = false := by simpa using e2
      have HF := Lib.hid (ws_2 e2)
      clear e1 e2
      go_wp2_with (fail)
      go_ret
      exact ⟨by rw [HF.out]; rfl, bs_3⟩
    ·have z1 : ((p.base.scores.length : Int) == (p.tracks.length : Int)) = false := by simpa using e1
     have HF := Lib.hid (ws_1 e1)
     clear e1
     go_wp2_with (fail)
     go_ret
     exact ⟨by rw [HF.out]; rfl, bs_3⟩
theorem RdI.two2 (W : World) (a b : Int) (t : TypeId) : RdI (W.alloc (.cells #[.int .i64 a, .int .i64 b] t)) (.slice (some ⟨W.heap.size, 0, none⟩) 2 2) [a, b] := by
 refine ⟨_, _, rfl, .inr ⟨_, 0, rfl, fun j hj => ?_⟩⟩
 rw [World.cell?_alloc_mark]
 match j, hj with
 | 0, _ => rfl
 | 1, _ => rfl
set_option maxRecDepth 100000 in
set_option maxHeartbeats 8000000 in
theorem numbersFit_impl {w : World} {p : Pr} {vt bl bs bb nl ns nb vu vv vs : Value} {B : Nat} (hA : w.heap[B]? = some (.cells (prC p vt bl bs bb nl ns nb vu vv vs) 63 (0, 0))) (h : RdPr w p vt bl bs bb nl ns nb vu vv vs) (hs : p.sane) (hf : p.few) :
  Calls Tryz.prog 170 #[.pointer (some ⟨B, 0, none⟩)] w fun e w' => e = .returned (.bool (numbersB p)) ∧ Below w.heap.size w w' := by
 have h0 := h
 obtain ⟨a0, c0, rfl, -⟩ := id h.1
 obtain ⟨a1, c1, rfl, -⟩ := id h.2.1.1
 obtain ⟨a2, c2, rfl, -⟩ := id h.2.1.2.1
 obtain ⟨a3, c3, rfl, -⟩ := id h.2.1.2.2
 obtain ⟨a4, c4, rfl, -⟩ := id h.2.2.1.1
 obtain ⟨a5, c5, rfl, -⟩ := id h.2.2.1.2.1
 obtain ⟨a6, c6, rfl, -⟩ := id h.2.2.1.2.2
 obtain ⟨a7, c7, rfl, -⟩ := id h.2.2.2.1
 obtain ⟨a8, c8, rfl, -⟩ := id h.2.2.2.2.1
 obtain ⟨a9, c9, rfl, -⟩ := id h.2.2.2.2.2
 unfold prC at hA
 have cA := rowCells hA
 have hlA : B < w.heap.size := blockLtP hA
 have ht : (p.tracks.length : Int) ≤ 9223372036854775807 := by have := hs.1.1; omega
 have hb : (p.base.scores.length : Int) ≤ 9223372036854775807 := by have := hs.2.1.2.1; omega
 have hn : (p.now.scores.length : Int) ≤ 9223372036854775807 := by have := hs.2.2.1.2.1; omega
 have hu : (p.used.length : Int) ≤ 9223372036854775807 := by have := hs.2.2.2.1.1; omega
 have hv : (p.saves.length : Int) ≤ 9223372036854775807 := by have := hs.2.2.2.2.1.1; omega
 have hm : (p.sums.length : Int) ≤ 9223372036854775807 := by have := hs.2.2.2.2.2; omega
 have hfo := fun W => faultOk_impl p.fault (p.tracks.length : Int) W
 unfold ftV at hfo
 go_enter Tryz.func170, Tryz.ntmps170
 go_wp2_with (fail)
 refine (hfo _).mono ?_
 rintro e w1 ⟨rfl, hb01⟩
 have hA1 := keepHeap hb01 hA
 have cA1 := rowCells hA1
 clear cA
 cases q1 : faultB p.fault (p.tracks.length : Int) with
 | false =>
  have HF := Lib.hid (ns_f q1)
  clear q1
  go_wp2_with (fail)
  go_ret
  exact ⟨by rw [HF.out]; rfl, hb01⟩
 | true =>
 have Q1 := Lib.hid q1
 clear q1
 go_wp2_with (fail)
 refine (within_impl _ _ _ _).mono ?_
 rintro e w2 ⟨rfl, rfl⟩
 cases q2 : inR p.me 0 ((p.tracks.length : Int) - 1) with
 | false =>
  have HF := Lib.hid (ns_m q2)
  clear q2
  go_wp2_with (fail)
  go_ret
  exact ⟨by rw [HF.out]; rfl, hb01⟩
 | true =>
 have Q2 := Lib.hid q2
 clear q2
 go_wp2_with (fail)
 refine (within_impl _ _ _ _).mono ?_
 rintro e w2 ⟨rfl, rfl⟩
 cases q3 : inR p.delay 0 5 with
 | false =>
  have HF := Lib.hid (ns_d q3)
  clear q3
  go_wp2_with (fail)
  go_ret
  exact ⟨by rw [HF.out]; rfl, hb01⟩
 | true =>
 have Q3 := Lib.hid q3
 clear q3
 go_upto_region 4 with (fail)
 have bs_0 : Below w1.heap.size w1 w1.drew := belowDrew w1 1
 refine wp_region_held_drew (S := (fun w' => (∀ j, w'.cell? ⟨B, j, none⟩ = #[Value.int .i64 p.me, .int .i64 p.delay, .int .i64 p.ahead, .int .i64 p.seed, (.slice a0 p.tracks.length c0), (.slice a1 p.base.rows.length c1), .int .i64 p.base.tick, .int .i64 p.base.seed, (.slice a2 p.base.scores.length c2), (.slice a3 p.base.bods.length c3), (.slice a4 p.now.rows.length c4), .int .i64 p.now.tick, .int .i64 p.now.seed, (.slice a5 p.now.scores.length c5), (.slice a6 p.now.bods.length c6), (.slice a7 p.used.length c7), (.slice a8 p.saves.length c8), (.slice a9 p.sums.length c9), .int .i64 p.fault.tick, .int .i64 p.fault.player, .int .i64 p.fault.add, .int .i64 p.rolls, .int .i64 p.again][j]?))) (by kernel_rfl) ?_ (fun hHeld => ?_)
 ·exact rowCells (keepHeap bs_0 hA1)
 refine tk 0 34 ?_
 (try simp only [zP, zA, zB, zC])
 refine tk 1 35 ?_
 (try simp only [zP, zA, zB, zC])
 refine tk 2 36 ?_
 (try simp only [zP, zA, zB, zC])
 refine tk 3 37 ?_
 (try simp only [zP, zA, zB, zC])
 refine wpAnyH_ready (rs := [4]) (by kernel_rfl) (by simp) ?_
 refine AllReadyH.cons rfl (fun K hK => ?_) AllReadyH.nil
 go_simp
 refine (within_impl _ _ _ _).mono ?_
 rintro e w_x ⟨rfl, rfl⟩
 cases q4 : inR p.ahead 1 8 with
 | false =>
  have Q4 := Lib.hid q4
  clear q4
  (try go_wp2_with (fail))
  refine hK.out _ _ ?_ (fun hHeld => ?_)
  ·exact rowCells (keepHeap bs_0 hA1)
  clear hK K
  (try simp only [zP, zA, zB, zC])
  refine tk 5 39 ?_
  (try simp only [zP, zA, zB, zC])
  refine tof 6 40 5 39 true false ?_
  (try simp only [zP, zA, zB, zC])
  refine tof 7 41 5 39 true false ?_
  (try simp only [zP, zA, zB, zC])
  refine tof 8 42 5 39 true false ?_
  (try simp only [zP, zA, zB, zC])
  refine tof 9 43 5 39 true false ?_
  (try simp only [zP, zA, zB, zC])
  refine tof 10 44 5 39 true false ?_
  (try simp only [zP, zA, zB, zC])
  refine tk 11 45 ?_
  (try simp only [zP, zA, zB, zC])
  refine tk 12 46 ?_
  (try simp only [zP, zA, zB, zC])
  refine tof 13 47 12 46 true false ?_
  (try simp only [zP, zA, zB, zC])
  refine tof 14 48 12 46 true false ?_
  (try simp only [zP, zA, zB, zC])
  refine tof 15 49 12 46 true false ?_
  (try simp only [zP, zA, zB, zC])
  refine tof 16 50 12 46 true false ?_
  (try simp only [zP, zA, zB, zC])
  refine tof 17 51 12 46 true false ?_
  (try simp only [zP, zA, zB, zC])
  refine tof 18 52 12 46 true false ?_
  (try simp only [zP, zA, zB, zC])
  refine tof 19 53 12 46 true false ?_
  (try simp only [zP, zA, zB, zC])
  refine tof 20 54 12 46 true false ?_
  (try simp only [zP, zA, zB, zC])
  refine tof 21 55 12 46 true false ?_
  (try simp only [zP, zA, zB, zC])
  refine tof 22 56 12 46 true false ?_
  (try simp only [zP, zA, zB, zC])
  refine tk 23 57 ?_
  (try simp only [zP, zA, zB, zC])
  refine tk 24 2 ?_
  (try simp only [zP, zA, zB, zC])
  refine wpAnyH_done (by kernel_rfl) ?_ _
  have HF := Lib.hid (ns_a Q4.out)
  go_wp2_with (fail)
  go_ret
  exact ⟨by rw [HF.out]; rfl, hb01.trans (bs_0.mono hb01.size)⟩
 | true =>
  have Q4 := Lib.hid q4
  clear q4
  (try go_wp2_with (fail))
  refine hK.out _ _ ?_ (fun hHeld => ?_)
  ·exact rowCells (keepHeap bs_0 hA1)
  clear hK K
  (try simp only [zP, zA, zB, zC])
  refine tk 5 39 ?_
  (try simp only [zP, zA, zB, zC])
  refine tw 6 40 5 39 true ?_
  (try simp only [zP, zA, zB, zC])
  refine tw 7 41 5 39 true ?_
  (try simp only [zP, zA, zB, zC])
  refine tw 8 42 5 39 true ?_
  (try simp only [zP, zA, zB, zC])
  refine tw 9 43 5 39 true ?_
  (try simp only [zP, zA, zB, zC])
  refine wpAnyH_ready (rs := [10]) (by kernel_rfl) (by simp) ?_
  refine AllReadyH.cons rfl (fun K hK => ?_) AllReadyH.nil
  go_simp
  refine (within_impl _ _ _ _).mono ?_
  rintro e w_x ⟨rfl, rfl⟩
  cases q5 : inR p.seed 0 65535 with
  | false =>
   have Q5 := Lib.hid q5
   clear q5
   (try go_wp2_with (fail))
   refine hK.out _ _ ?_ (fun hHeld => ?_)
   ·exact rowCells (keepHeap bs_0 hA1)
   clear hK K
   (try simp only [zP, zA, zB, zC])
   refine tk 11 45 ?_
   (try simp only [zP, zA, zB, zC])
   refine tk 12 46 ?_
   (try simp only [zP, zA, zB, zC])
   refine tof 13 47 12 46 true false ?_
   (try simp only [zP, zA, zB, zC])
   refine tof 14 48 12 46 true false ?_
   (try simp only [zP, zA, zB, zC])
   refine tof 15 49 12 46 true false ?_
   (try simp only [zP, zA, zB, zC])
   refine tof 16 50 12 46 true false ?_
   (try simp only [zP, zA, zB, zC])
   refine tof 17 51 12 46 true false ?_
   (try simp only [zP, zA, zB, zC])
   refine tof 18 52 12 46 true false ?_
   (try simp only [zP, zA, zB, zC])
   refine tof 19 53 12 46 true false ?_
   (try simp only [zP, zA, zB, zC])
   refine tof 20 54 12 46 true false ?_
   (try simp only [zP, zA, zB, zC])
   refine tof 21 55 12 46 true false ?_
   (try simp only [zP, zA, zB, zC])
   refine tof 22 56 12 46 true false ?_
   (try simp only [zP, zA, zB, zC])
   refine tk 23 57 ?_
   (try simp only [zP, zA, zB, zC])
   refine tk 24 2 ?_
   (try simp only [zP, zA, zB, zC])
   refine wpAnyH_done (by kernel_rfl) ?_ _
   have HF := Lib.hid (ns_s Q5.out)
   go_wp2_with (fail)
   go_ret
   exact ⟨by rw [HF.out]; rfl, hb01.trans (bs_0.mono hb01.size)⟩
  | true =>
   have Q5 := Lib.hid q5
   clear q5
   (try go_wp2_with (fail))
   refine hK.out _ _ ?_ (fun hHeld => ?_)
   ·exact rowCells (keepHeap bs_0 hA1)
   clear hK K
   (try simp only [zP, zA, zB, zC])
   refine tk 11 45 ?_
   (try simp only [zP, zA, zB, zC])
   refine tk 12 46 ?_
   (try simp only [zP, zA, zB, zC])
   refine tw 13 47 12 46 true ?_
   (try simp only [zP, zA, zB, zC])
   refine tw 14 48 12 46 true ?_
   (try simp only [zP, zA, zB, zC])
   refine tw 15 49 12 46 true ?_
   (try simp only [zP, zA, zB, zC])
   refine tw 16 50 12 46 true ?_
   (try simp only [zP, zA, zB, zC])
   refine tw 17 51 12 46 true ?_
   (try simp only [zP, zA, zB, zC])
   refine tw 18 52 12 46 true ?_
   (try simp only [zP, zA, zB, zC])
   refine tw 19 53 12 46 true ?_
   (try simp only [zP, zA, zB, zC])
   refine tw 20 54 12 46 true ?_
   (try simp only [zP, zA, zB, zC])
   refine wpAnyH_ready (rs := [21]) (by kernel_rfl) (by simp) ?_
   refine AllReadyH.cons rfl (fun K hK => ?_) AllReadyH.nil
   go_simp
   obtain ⟨w_1, hw_1, nz_1, hb_1⟩ : ∃ W, (w1.alloc (.cells #[.int .i64 p.rolls, .int .i64 p.again] 3)).drew = W ∧ RdI W (.slice (some ⟨w1.heap.size, 0, none⟩) 2 2) [p.rolls, p.again] ∧ Below w1.drew.heap.size w1.drew W := ⟨_, rfl, RdI.two2 _ _ _ _, below1 w1.drew _⟩
   try rw [hw_1]
   clear hw_1
   have bs_1 := bs_0.trans (hb_1.mono bs_0.size)
   refine hK.out _ _ ?_ (fun hHeld => ?_)
   ·exact rowCells (keepHeap bs_1 hA1)
   clear hK K
   (try simp only [zP, zA, zB, zC])
   refine wpAnyH_ready (rs := [22]) (by kernel_rfl) (by simp) ?_
   refine AllReadyH.cons rfl (fun K hK => ?_) AllReadyH.nil
   go_simp
   refine (allWithin_any nz_1 (by simp) 0 1000000).mono ?_
   rintro e w_x ⟨rfl, rfl⟩
   cases q6 : allW 0 1000000 [p.rolls, p.again] with
   | false =>
    have Q6 := Lib.hid q6
    clear q6
    (try go_wp2_with (fail))
    refine hK.out _ _ ?_ (fun hHeld => ?_)
    ·exact rowCells (keepHeap bs_1 hA1)
    clear hK K
    (try simp only [zP, zA, zB, zC])
    refine tk 23 57 ?_
    (try simp only [zP, zA, zB, zC])
    refine tk 24 2 ?_
    (try simp only [zP, zA, zB, zC])
    refine wpAnyH_done (by kernel_rfl) ?_ _
    have HF := Lib.hid (ns_c Q6.out)
    go_wp2_with (fail)
    go_ret
    exact ⟨by rw [HF.out]; rfl, hb01.trans (bs_1.mono hb01.size)⟩
   | true =>
    have Q6 := Lib.hid q6
    clear q6
    (try go_wp2_with (fail))
    refine hK.out _ _ ?_ (fun hHeld => ?_)
    ·exact rowCells (keepHeap bs_1 hA1)
    clear hK K
    (try simp only [zP, zA, zB, zC])
    refine tk 23 57 ?_
    (try simp only [zP, zA, zB, zC])
    refine tk 24 2 ?_
    (try simp only [zP, zA, zB, zC])
    refine wpAnyH_done (by kernel_rfl) ?_ _
    have HF := Lib.hid (ns_ok Q1.out Q2.out Q3.out Q4.out Q5.out Q6.out)
    go_wp2_with (fail)
    go_ret
    exact ⟨by rw [HF.out]; rfl, hb01.trans (bs_1.mono hb01.size)⟩
set_option maxRecDepth 100000 in
set_option maxHeartbeats 8000000 in
theorem ticksFit_impl {w : World} {p : Pr} {vt bl bs bb nl ns nb vu vv vs : Value} {B : Nat} (hA : w.heap[B]? = some (.cells (prC p vt bl bs bb nl ns nb vu vv vs) 63 (0, 0))) (h : RdPr w p vt bl bs bb nl ns nb vu vv vs) (hs : p.sane) (hf : p.few) (hme0 : 0 ≤ p.me) (hme1 : p.me < (p.tracks.length : Int)) (hbt : 0 ≤ p.base.tick ∧ p.base.tick ≤ 100000) (hnt : 0 ≤ p.now.tick ∧ p.now.tick ≤ 100000) :
  Calls Tryz.prog 171 #[.pointer (some ⟨B, 0, none⟩)] w fun e w' => e = .returned (.bool (ticksB p)) ∧ Below w.heap.size w w' := by
 have h0 := h
 obtain ⟨a0, c0, rfl, -⟩ := id h.1
 obtain ⟨a1, c1, rfl, -⟩ := id h.2.1.1
 obtain ⟨a2, c2, rfl, -⟩ := id h.2.1.2.1
 obtain ⟨a3, c3, rfl, -⟩ := id h.2.1.2.2
 obtain ⟨a4, c4, rfl, -⟩ := id h.2.2.1.1
 obtain ⟨a5, c5, rfl, -⟩ := id h.2.2.1.2.1
 obtain ⟨a6, c6, rfl, -⟩ := id h.2.2.1.2.2
 obtain ⟨a7, c7, rfl, -⟩ := id h.2.2.2.1
 obtain ⟨a8, c8, rfl, -⟩ := id h.2.2.2.2.1
 obtain ⟨a9, c9, rfl, -⟩ := id h.2.2.2.2.2
 unfold prC at hA
 have cA := rowCells hA
 have hlA : B < w.heap.size := blockLtP hA
 have ht : (p.tracks.length : Int) ≤ 9223372036854775807 := by have := hs.1.1; omega
 have hb : (p.base.scores.length : Int) ≤ 9223372036854775807 := by have := hs.2.1.2.1; omega
 have hn : (p.now.scores.length : Int) ≤ 9223372036854775807 := by have := hs.2.2.1.2.1; omega
 have hu : (p.used.length : Int) ≤ 9223372036854775807 := by have := hs.2.2.2.1.1; omega
 have hv : (p.saves.length : Int) ≤ 9223372036854775807 := by have := hs.2.2.2.2.1.1; omega
 have hm : (p.sums.length : Int) ≤ 9223372036854775807 := by have := hs.2.2.2.2.2; omega
 obtain ⟨-, -, -, hs4, ⟨hs5, hs6⟩, -⟩ := hs
 obtain ⟨⟨f1, f2⟩, -, -, ⟨f5, f6⟩, f7, f8⟩ := hf
 obtain ⟨ld, hld⟩ : ∃ ld : Int, ld = p.now.tick - p.base.tick := ⟨_, rfl⟩
 have hT1 := tk_l (p := p)
 have hT2 := tk_u (p := p)
 have hT3 := tk_s (p := p)
 have hT4 := fun k hk => tk_r (p := p) (k := k) hk
 have hT5 := tk_ok (p := p)
 rw [← hld] at hT1 hT2 hT3 hT4 hT5
 have hldb : -100000 ≤ ld ∧ ld ≤ 100000 := by omega
 have hsub : wrap64 (p.now.tick - p.base.tick) = ld := by rw [hld]; exact IntWalk.wrap64_in _ ⟨by omega, by omega⟩
 have hsub2 : p.now.tick - p.base.tick = ld := hld.symm
 have HLD := Lib.hid hld
 clear hld
 go_enter Tryz.func171, Tryz.ntmps171
 go_wp2_with (fail)
 go_quiet (fail)
 have qd := belowDrew w 1
 go_wp2_with (fail)
 refine (within_impl _ _ _ _).mono ?_
 rintro e w2 ⟨rfl, rfl⟩
 cases q1 : inR ld 0 p.ahead with
 | false =>
  have HF := Lib.hid (hT1 q1)
  clear q1
  go_wp2_with (fail)
  go_ret
  exact ⟨by rw [HF.out]; rfl, ⟨rfl, rfl, rfl, Nat.le_refl _, fun _ _ => rfl⟩⟩
 | true =>
 have hl0 := ((inR_iff _ _ _).1 q1).1
 by_cases e2 : (p.used.length : Int) = ld
 case neg =>
  have z2 : ((p.used.length : Int) != ld) = true := by simpa using e2
  have HF := Lib.hid (hT2 e2)
  clear e2 q1
  go_wp2_with (fail)
  go_ret
  exact ⟨by rw [HF.out]; rfl, ⟨rfl, rfl, rfl, Nat.le_refl _, fun _ _ => rfl⟩⟩
 by_cases e3 : (p.saves.length : Int) = ld
 case neg =>
  have z2 : ((p.used.length : Int) != ld) = false := by simpa using e2
  have z3 : ((p.saves.length : Int) != ld) = true := by simpa using e3
  have HF := Lib.hid (hT3 e3)
  clear e2 e3 q1
  go_wp2_with (fail)
  go_ret
  exact ⟨by rw [HF.out]; rfl, ⟨rfl, rfl, rfl, Nat.le_refl _, fun _ _ => rfl⟩⟩
 have z2 : ((p.used.length : Int) != ld) = false := by simpa using e2
 have z3 : ((p.saves.length : Int) != ld) = false := by simpa using e3
 have HOK := Lib.hid (hT5 q1 e2 e3)
 obtain ⟨L, hL⟩ : ∃ L : Nat, ld = (L : Int) := ⟨ld.toNat, by omega⟩
 subst hL
 have hLu : p.used.length = L := by omega
 have hLs : p.saves.length = L := by omega
 have HLu := Lib.hid hLu
 have HLs := Lib.hid hLs
 have HBAD := Lib.hid (fun k (hk : k < L) hb => hT4 k (by omega) hb)
 have hLb : L ≤ 100000 := by omega
 clear q1 e2 e3 hT1 hT2 hT3 hT4 hT5 hLu hLs hsub hsub2 hldb
 go_wp2_with (fail)
 go_loopw [42] (fun i wr => ∃ k : Nat, k ≤ L ∧ i = .int .i64 (k : Int) ∧ Below w.heap.size w wr ∧ Hid (∀ j : Nat, j < k → rowAtB p j = true)) (fun i _ => L - (intOf i).toNat)
 case atStart => exact ⟨0, Nat.zero_le _, rfl, ⟨rfl, rfl, rfl, Nat.le_refl _, fun _ _ => rfl⟩, Lib.hid (fun j hl => by omega)⟩
 case round =>
  obtain ⟨k, hk, rfl, hbel, HA⟩ := hrel
  have hAr := keepHeap hbel hA
  have cAr := rowCells hAr
  have hr := h0.keep hbel
  clear cA
  by_cases hkl : k < L
  ·have hku : k < p.used.length := by rw [HLu.out]; exact hkl
   have hks : k < p.saves.length := by rw [HLs.out]; exact hkl
   have hl1 : (k : Int) < (L : Int) := by omega
   have hl2 : (k : Int) < (p.used.length : Int) := by omega
   have hl3 : (k : Int) < (p.saves.length : Int) := by omega
   obtain ⟨x1, x2, ex, hus⟩ := hr.2.2.2.1
   obtain ⟨rfl, -, rfl⟩ := Value.slice.inj ex
   obtain ⟨b, off, rfl, hc⟩ := hus.resolve_left (by intro e; rw [e] at hku; simp at hku)
   obtain ⟨u, c1, r1⟩ := hc k hku
   obtain ⟨y1, y2, ey, hvs⟩ := hr.2.2.2.2.1
   obtain ⟨rfl, -, rfl⟩ := Value.slice.inj ey
   obtain ⟨b', off', rfl, hc'⟩ := hvs.resolve_left (by intro e; rw [e] at hks; simp at hks)
   have c2 := (cellsSv (hc' k hks)).1
   have hx3 := hs4.2 p.used[k] (List.getElem_mem _)
   obtain ⟨ax, cx, rfl, -⟩ := id r1
   have hRO : ∀ n, Calls Tryz.prog 140 #[.slice ax p.used[k].length cx, .int .i64 (p.tracks.length : Int)] (wr.drewN n) fun e w' => e = .returned (.bool (rokB (p.tracks.length : Int) p.used[k])) ∧ w' = wr.drewN n := fun n => (rowOk_impl (r1.keep (belowDrew wr n)) hx3 _).mono fun _ _ h => ⟨h.1, h.2.symm⟩
   have d15 : wr.cell? ⟨B, 15, none⟩ = some (.slice (some ⟨b, off, none⟩) p.used.length c7) := cAr 15
   have d16 : wr.cell? ⟨B, 16, none⟩ = some (.slice (some ⟨b', off', none⟩) p.saves.length c8) := cAr 16
   have d4 : wr.cell? ⟨B, 4, none⟩ = some (.slice a0 p.tracks.length c0) := cAr 4
   have d6 : wr.cell? ⟨B, 6, none⟩ = some (.int .i64 p.base.tick) := cAr 6
   have hlA2 : B < wr.heap.size := blockLtP hAr
   have RN := Lib.hid (fun h => ra_no (p := p) hku h)
   have RT := Lib.hid (fun h => ra_tick (p := p) hks h)
   have RY := Lib.hid (fun h h2 => ra_ok (p := p) hku hks h h2)
   have HB1 := Lib.hid (HBAD.out k hkl)
   obtain ⟨tk, htk⟩ : ∃ t, t = p.saves[k].tick := ⟨_, rfl⟩
   rw [← htk] at c2 RT RY
   generalize p.used[k].length = m1 at c1 hRO
   clear hc hc' htk hx3 r1 hus hvs ex ey hr hAr
   cases q2 : rokB (p.tracks.length : Int) p.used[k] with
   | false =>
    rw [q2] at hRO
    have HF := Lib.hid (HB1.out (RN.out q2))
    clear q2 RN RT RY
    go_wp2_with (fail)
    go_quiet (first | (go_at_call 140; exact Calls.quiet_of_same (hRO _)))
    go_wp2_with (fail)
    go_ret
    exact ⟨by rw [HF.out]; rfl, hbel.trans (Below.mono ⟨rfl, rfl, rfl, Nat.le_refl _, fun _ _ => rfl⟩ hbel.size)⟩
   | true =>
    rw [q2] at hRO
    by_cases e4 : tk = p.base.tick + (k : Int)
    ·have z4 : (tk != p.base.tick + (k : Int)) = false := by simpa using e4
     have HY := Lib.hid (RY.out q2 e4)
     clear q2 e4 RN RT RY
     go_wp2_with (fail)
     go_quiet (first | (go_at_call 140; exact Calls.quiet_of_same (hRO _)))
     go_wp2_with (fail)
     go_roundw
     case rel =>
      refine ⟨k + 1, by omega, by go_num, hbel.trans (Below.mono ⟨rfl, rfl, rfl, Nat.le_refl _, fun _ _ => rfl⟩ hbel.size), Lib.hid (fun j hjk => ?_)⟩
      by_cases e : j = k
      ·subst e; exact HY.out
      ·exact HA.out j (by omega)
     case measure => simp [intOf]; omega
    ·have z4 : (tk != p.base.tick + (k : Int)) = true := by simpa using e4
     have HF := Lib.hid (HB1.out (RT.out e4))
     clear q2 e4 RN RT RY
     go_wp2_with (fail)
     go_quiet (first | (go_at_call 140; exact Calls.quiet_of_same (hRO _)))
     go_wp2_with (fail)
     go_ret
     exact ⟨by rw [HF.out]; rfl, hbel.trans (Below.mono ⟨rfl, rfl, rfl, Nat.le_refl _, fun _ _ => rfl⟩ hbel.size)⟩
  ·have hl1 : ¬ (k : Int) < (L : Int) := by omega
   have HTL := Lib.hid (HOK.out (fun j hj => HA.out j (by omega)))
   have hqr := hbel.size
   obtain ⟨m, hm0⟩ : ∃ m : Nat, p.me = (m : Int) := ⟨p.me.toNat, by omega⟩
   have hmt : m < p.tracks.length := by omega
   have HWT : Hid (IntKind.i64.wrap (p.base.tick + 1) = p.base.tick + 1) := Lib.hid (IntWalk.i64_in _ (by omega))
   obtain ⟨x1, x2, ex, hts⟩ := hr.1
   obtain ⟨rfl, -, rfl⟩ := Value.slice.inj ex
   obtain ⟨bt, ot, rfl, hct⟩ := hts.resolve_left (by intro e; rw [e] at hmt; simp at hmt)
   obtain ⟨um, cm, rm⟩ := hct m hmt
   obtain ⟨am, xm, rfl, -⟩ := id rm
   have TK := Lib.hid (tl_k (p := p))
   have TM := Lib.hid (fun h => tl_m (p := p) hmt hm0 h)
   have TO := Lib.hid (fun h1 h2 => tl_ok (p := p) hmt hm0 h1 h2)
   have hkn := fun {W : World} (hb : Below wr.heap.size wr W) => knownTicks_impl (hr.1.keep hb) ⟨f1, f2⟩
   generalize hnm : p.tracks[m].length = nm at cm TM TO
   have hnm1 : (nm : Int) ≤ 9223372036854775807 := by have := f2 p.tracks[m] (List.getElem_mem _); omega
   generalize knownI p.tracks = kn at hkn TK TO
   have hml : (m : Int) < (p.tracks.length : Int) := by omega
   have hmw : 0 ≤ (m : Int) := by omega
   rw [hm0] at hAr
   have HM0 := Lib.hid hm0
   clear hm0 hct hts ex rm hnm
   have cAr := rowCells hAr
   by_cases e5 : p.base.tick ≤ kn
   ·have z5 : decide (p.base.tick ≤ kn) = true := by simpa using e5
    by_cases e6 : p.now.tick ≤ (nm : Int)
    ·have z6 : decide (p.now.tick ≤ (nm : Int)) = true := by simpa using e6
     have HF0 := Lib.hid (TO.out e5 e6)
     clear e5 e6
     go_upto_region 10 with (fail)
     have bs_0 : Below wr.heap.size wr wr.drew := belowDrew wr 1
     refine wp_region_held_drew (S := (fun w' => (∀ j, w'.cell? ⟨B, j, none⟩ = #[Value.int .i64 (m : Int), .int .i64 p.delay, .int .i64 p.ahead, .int .i64 p.seed, (.slice (some ⟨bt, ot, none⟩) p.tracks.length c0), (.slice a1 p.base.rows.length c1), .int .i64 p.base.tick, .int .i64 p.base.seed, (.slice a2 p.base.scores.length c2), (.slice a3 p.base.bods.length c3), (.slice a4 p.now.rows.length c4), .int .i64 p.now.tick, .int .i64 p.now.seed, (.slice a5 p.now.scores.length c5), (.slice a6 p.now.bods.length c6), (.slice a7 p.used.length c7), (.slice a8 p.saves.length c8), (.slice a9 p.sums.length c9), .int .i64 p.fault.tick, .int .i64 p.fault.player, .int .i64 p.fault.add, .int .i64 p.rolls, .int .i64 p.again][j]?) ∧ w'.cell? ⟨bt, ot + m, none⟩ = some (.slice am nm xm))) (by kernel_rfl) ?_ (fun hHeld => ?_)
     ·exact ⟨rowCells (keepHeap bs_0 hAr), (bs_0.cell (World.block_lt_of_cell? _ _ cm)).trans cm⟩
     refine tk 0 78 ?_
     (try simp only [zP, zA, zB, zC])
     refine tk 1 79 ?_
     (try simp only [zP, zA, zB, zC])
     refine tk 2 80 ?_
     (try simp only [zP, zA, zB, zC])
     refine tk 3 81 ?_
     (try simp only [zP, zA, zB, zC])
     refine tk 4 82 ?_
     (try simp only [zP, zA, zB, zC])
     refine tk 5 83 ?_
     (try simp only [zP, zA, zB, zC])
     refine tk 6 84 ?_
     (try simp only [zP, zA, zB, zC])
     refine tk 7 85 ?_
     (try simp only [zP, zA, zB, zC])
     refine tk 8 86 ?_
     (try simp only [zP, zA, zB, zC])
     refine wpAnyH_ready (rs := [9]) (by kernel_rfl) (by simp) ?_
     refine AllReadyH.cons rfl (fun K hK => ?_) AllReadyH.nil
     go_simp
     refine (hkn bs_0).mono ?_
     rintro e w_1 ⟨rfl, hb_1⟩
     have bs_1 := bs_0.trans (hb_1.mono bs_0.size)
     (try go_wp2_with (fail))
     refine hK.out _ _ ?_ (fun hHeld => ?_)
     ·exact ⟨rowCells (keepHeap bs_1 hAr), (bs_1.cell (World.block_lt_of_cell? _ _ cm)).trans cm⟩
     clear hK K
     (try simp only [zP, zA, zB, zC])
     refine tk 10 88 ?_
     (try simp only [zP, zA, zB, zC])
     refine tk 11 89 ?_
     (try simp only [zP, zA, zB, zC])
     refine tw 12 90 11 89 true ?_
     (try simp only [zP, zA, zB, zC])
     refine tw 13 91 11 89 true ?_
     (try simp only [zP, zA, zB, zC])
     refine tw 14 92 11 89 true ?_
     (try simp only [zP, zA, zB, zC])
     refine tw 15 93 11 89 true ?_
     (try simp only [zP, zA, zB, zC])
     refine tw 16 94 11 89 true ?_
     (try simp only [zP, zA, zB, zC])
     refine tw 17 95 11 89 true ?_
     (try simp only [zP, zA, zB, zC])
     refine tw 18 96 11 89 true ?_
     (try simp only [zP, zA, zB, zC])
     refine tw 19 97 11 89 true ?_
     (try simp only [zP, zA, zB, zC])
     refine tw 20 98 11 89 true ?_
     (try simp only [zP, zA, zB, zC])
     refine tw 21 99 11 89 true ?_
     (try simp only [zP, zA, zB, zC])
     refine tw 22 100 11 89 true ?_
     (try simp only [zP, zA, zB, zC])
     refine tw 23 101 11 89 true ?_
     (try simp only [zP, zA, zB, zC])
     refine tw 24 102 11 89 true ?_
     (try simp only [zP, zA, zB, zC])
     refine tw 25 103 11 89 true ?_
     (try simp only [zP, zA, zB, zC])
     refine tw 26 104 11 89 true ?_
     (try simp only [zP, zA, zB, zC])
     refine tw 27 105 11 89 true ?_
     (try simp only [zP, zA, zB, zC])
     refine tw 28 106 11 89 true ?_
     (try simp only [zP, zA, zB, zC])
     refine tw 29 107 11 89 true ?_
     (try simp only [zP, zA, zB, zC])
     refine tk 30 108 ?_
     (try simp only [zP, zA, zB, zC])
     refine tk 31 109 ?_
     (try simp only [zP, zA, zB, zC])
     refine tw 32 110 31 109 true ?_
     (try simp only [zP, zA, zB, zC])
     refine tw 33 111 31 109 true ?_
     (try simp only [zP, zA, zB, zC])
     refine tw 34 112 31 109 true ?_
     (try simp only [zP, zA, zB, zC])
     refine tw 35 113 31 109 true ?_
     (try simp only [zP, zA, zB, zC])
     refine tw 36 114 31 109 true ?_
     (try simp only [zP, zA, zB, zC])
     refine tw 37 115 31 109 true ?_
     (try simp only [zP, zA, zB, zC])
     refine tw 38 116 31 109 true ?_
     (try simp only [zP, zA, zB, zC])
     refine tw 39 117 31 109 true ?_
     (try simp only [zP, zA, zB, zC])
     refine tw 40 118 31 109 true ?_
     (try simp only [zP, zA, zB, zC])
     refine tw 41 119 31 109 true ?_
     (try simp only [zP, zA, zB, zC])
     refine tw 42 120 31 109 true ?_
     (try simp only [zP, zA, zB, zC])
     refine tw 43 121 31 109 true ?_
     (try simp only [zP, zA, zB, zC])
     refine tk 44 122 ?_
     (try simp only [zP, zA, zB, zC])
     refine tk 45 2 ?_
     (try simp only [zP, zA, zB, zC])
     refine wpAnyH_done (by kernel_rfl) ?_ _
     have HF := Lib.hid HF0.out
     go_wp2_with (fail)
     go_ret
     exact ⟨by rw [HTL.out, HF.out]; first | rfl | (simp; done) | (rw [HWT.out]; exact Bool.beq_eq_decide_eq _ _) | (simp [HWT.out]; exact Bool.beq_eq_decide_eq _ _), hbel.trans (bs_1.mono hqr)⟩
    ·have z6 : decide (p.now.tick ≤ (nm : Int)) = false := by simpa using e6
     have HF0 := Lib.hid (TM.out e6)
     clear e5 e6
     go_upto_region 10 with (fail)
     have bs_0 : Below wr.heap.size wr wr.drew := belowDrew wr 1
     refine wp_region_held_drew (S := (fun w' => (∀ j, w'.cell? ⟨B, j, none⟩ = #[Value.int .i64 (m : Int), .int .i64 p.delay, .int .i64 p.ahead, .int .i64 p.seed, (.slice (some ⟨bt, ot, none⟩) p.tracks.length c0), (.slice a1 p.base.rows.length c1), .int .i64 p.base.tick, .int .i64 p.base.seed, (.slice a2 p.base.scores.length c2), (.slice a3 p.base.bods.length c3), (.slice a4 p.now.rows.length c4), .int .i64 p.now.tick, .int .i64 p.now.seed, (.slice a5 p.now.scores.length c5), (.slice a6 p.now.bods.length c6), (.slice a7 p.used.length c7), (.slice a8 p.saves.length c8), (.slice a9 p.sums.length c9), .int .i64 p.fault.tick, .int .i64 p.fault.player, .int .i64 p.fault.add, .int .i64 p.rolls, .int .i64 p.again][j]?) ∧ w'.cell? ⟨bt, ot + m, none⟩ = some (.slice am nm xm))) (by kernel_rfl) ?_ (fun hHeld => ?_)
     ·exact ⟨rowCells (keepHeap bs_0 hAr), (bs_0.cell (World.block_lt_of_cell? _ _ cm)).trans cm⟩
     refine tk 0 78 ?_
     (try simp only [zP, zA, zB, zC])
     refine tk 1 79 ?_
     (try simp only [zP, zA, zB, zC])
     refine tk 2 80 ?_
     (try simp only [zP, zA, zB, zC])
     refine tk 3 81 ?_
     (try simp only [zP, zA, zB, zC])
     refine tk 4 82 ?_
     (try simp only [zP, zA, zB, zC])
     refine tk 5 83 ?_
     (try simp only [zP, zA, zB, zC])
     refine tk 6 84 ?_
     (try simp only [zP, zA, zB, zC])
     refine tk 7 85 ?_
     (try simp only [zP, zA, zB, zC])
     refine tk 8 86 ?_
     (try simp only [zP, zA, zB, zC])
     refine wpAnyH_ready (rs := [9]) (by kernel_rfl) (by simp) ?_
     refine AllReadyH.cons rfl (fun K hK => ?_) AllReadyH.nil
     go_simp
     refine (hkn bs_0).mono ?_
     rintro e w_1 ⟨rfl, hb_1⟩
     have bs_1 := bs_0.trans (hb_1.mono bs_0.size)
     (try go_wp2_with (fail))
     refine hK.out _ _ ?_ (fun hHeld => ?_)
     ·exact ⟨rowCells (keepHeap bs_1 hAr), (bs_1.cell (World.block_lt_of_cell? _ _ cm)).trans cm⟩
     clear hK K
     (try simp only [zP, zA, zB, zC])
     refine tk 10 88 ?_
     (try simp only [zP, zA, zB, zC])
     refine tk 11 89 ?_
     (try simp only [zP, zA, zB, zC])
     refine tw 12 90 11 89 true ?_
     (try simp only [zP, zA, zB, zC])
     refine tw 13 91 11 89 true ?_
     (try simp only [zP, zA, zB, zC])
     refine tw 14 92 11 89 true ?_
     (try simp only [zP, zA, zB, zC])
     refine tw 15 93 11 89 true ?_
     (try simp only [zP, zA, zB, zC])
     refine tw 16 94 11 89 true ?_
     (try simp only [zP, zA, zB, zC])
     refine tw 17 95 11 89 true ?_
     (try simp only [zP, zA, zB, zC])
     refine tw 18 96 11 89 true ?_
     (try simp only [zP, zA, zB, zC])
     refine tw 19 97 11 89 true ?_
     (try simp only [zP, zA, zB, zC])
     refine tw 20 98 11 89 true ?_
     (try simp only [zP, zA, zB, zC])
     refine tw 21 99 11 89 true ?_
     (try simp only [zP, zA, zB, zC])
     refine tw 22 100 11 89 true ?_
     (try simp only [zP, zA, zB, zC])
     refine tw 23 101 11 89 true ?_
     (try simp only [zP, zA, zB, zC])
     refine tw 24 102 11 89 true ?_
     (try simp only [zP, zA, zB, zC])
     refine tw 25 103 11 89 true ?_
     (try simp only [zP, zA, zB, zC])
     refine tw 26 104 11 89 true ?_
     (try simp only [zP, zA, zB, zC])
     refine tw 27 105 11 89 true ?_
     (try simp only [zP, zA, zB, zC])
     refine tw 28 106 11 89 true ?_
     (try simp only [zP, zA, zB, zC])
     refine tw 29 107 11 89 true ?_
     (try simp only [zP, zA, zB, zC])
     refine tk 30 108 ?_
     (try simp only [zP, zA, zB, zC])
     refine tk 31 109 ?_
     (try simp only [zP, zA, zB, zC])
     refine tof 32 110 31 109 true false ?_
     (try simp only [zP, zA, zB, zC])
     refine tof 33 111 31 109 true false ?_
     (try simp only [zP, zA, zB, zC])
     refine tof 34 112 31 109 true false ?_
     (try simp only [zP, zA, zB, zC])
     refine tof 35 113 31 109 true false ?_
     (try simp only [zP, zA, zB, zC])
     refine tof 36 114 31 109 true false ?_
     (try simp only [zP, zA, zB, zC])
     refine tof 37 115 31 109 true false ?_
     (try simp only [zP, zA, zB, zC])
     refine tof 38 116 31 109 true false ?_
     (try simp only [zP, zA, zB, zC])
     refine tof 39 117 31 109 true false ?_
     (try simp only [zP, zA, zB, zC])
     refine tof 40 118 31 109 true false ?_
     (try simp only [zP, zA, zB, zC])
     refine tof 41 119 31 109 true false ?_
     (try simp only [zP, zA, zB, zC])
     refine tof 42 120 31 109 true false ?_
     (try simp only [zP, zA, zB, zC])
     refine tof 43 121 31 109 true false ?_
     (try simp only [zP, zA, zB, zC])
     refine tk 44 122 ?_
     (try simp only [zP, zA, zB, zC])
     refine tk 45 2 ?_
     (try simp only [zP, zA, zB, zC])
     refine wpAnyH_done (by kernel_rfl) ?_ _
     have HF := Lib.hid HF0.out
     go_wp2_with (fail)
     go_ret
     exact ⟨by rw [HTL.out, HF.out]; first | rfl | (simp; done) | (rw [HWT.out]; exact Bool.beq_eq_decide_eq _ _) | (simp [HWT.out]; exact Bool.beq_eq_decide_eq _ _), hbel.trans (bs_1.mono hqr)⟩
   ·have z5 : decide (p.base.tick ≤ kn) = false := by simpa using e5
    have HF0 := Lib.hid (TK.out e5)
    clear e5
    go_upto_region 10 with (fail)
    have bs_0 : Below wr.heap.size wr wr.drew := belowDrew wr 1
    refine wp_region_held_drew (S := (fun w' => (∀ j, w'.cell? ⟨B, j, none⟩ = #[Value.int .i64 (m : Int), .int .i64 p.delay, .int .i64 p.ahead, .int .i64 p.seed, (.slice (some ⟨bt, ot, none⟩) p.tracks.length c0), (.slice a1 p.base.rows.length c1), .int .i64 p.base.tick, .int .i64 p.base.seed, (.slice a2 p.base.scores.length c2), (.slice a3 p.base.bods.length c3), (.slice a4 p.now.rows.length c4), .int .i64 p.now.tick, .int .i64 p.now.seed, (.slice a5 p.now.scores.length c5), (.slice a6 p.now.bods.length c6), (.slice a7 p.used.length c7), (.slice a8 p.saves.length c8), (.slice a9 p.sums.length c9), .int .i64 p.fault.tick, .int .i64 p.fault.player, .int .i64 p.fault.add, .int .i64 p.rolls, .int .i64 p.again][j]?) ∧ w'.cell? ⟨bt, ot + m, none⟩ = some (.slice am nm xm))) (by kernel_rfl) ?_ (fun hHeld => ?_)
    ·exact ⟨rowCells (keepHeap bs_0 hAr), (bs_0.cell (World.block_lt_of_cell? _ _ cm)).trans cm⟩
    refine tk 0 78 ?_
    (try simp only [zP, zA, zB, zC])
    refine tk 1 79 ?_
    (try simp only [zP, zA, zB, zC])
    refine tk 2 80 ?_
    (try simp only [zP, zA, zB, zC])
    refine tk 3 81 ?_
    (try simp only [zP, zA, zB, zC])
    refine tk 4 82 ?_
    (try simp only [zP, zA, zB, zC])
    refine tk 5 83 ?_
    (try simp only [zP, zA, zB, zC])
    refine tk 6 84 ?_
    (try simp only [zP, zA, zB, zC])
    refine tk 7 85 ?_
    (try simp only [zP, zA, zB, zC])
    refine tk 8 86 ?_
    (try simp only [zP, zA, zB, zC])
    refine wpAnyH_ready (rs := [9]) (by kernel_rfl) (by simp) ?_
    refine AllReadyH.cons rfl (fun K hK => ?_) AllReadyH.nil
    go_simp
    refine (hkn bs_0).mono ?_
    rintro e w_1 ⟨rfl, hb_1⟩
    have bs_1 := bs_0.trans (hb_1.mono bs_0.size)
    (try go_wp2_with (fail))
    refine hK.out _ _ ?_ (fun hHeld => ?_)
    ·exact ⟨rowCells (keepHeap bs_1 hAr), (bs_1.cell (World.block_lt_of_cell? _ _ cm)).trans cm⟩
    clear hK K
    (try simp only [zP, zA, zB, zC])
    refine tk 10 88 ?_
    (try simp only [zP, zA, zB, zC])
    refine tk 11 89 ?_
    (try simp only [zP, zA, zB, zC])
    refine tof 12 90 11 89 true false ?_
    (try simp only [zP, zA, zB, zC])
    refine tof 13 91 11 89 true false ?_
    (try simp only [zP, zA, zB, zC])
    refine tof 14 92 11 89 true false ?_
    (try simp only [zP, zA, zB, zC])
    refine tof 15 93 11 89 true false ?_
    (try simp only [zP, zA, zB, zC])
    refine tof 16 94 11 89 true false ?_
    (try simp only [zP, zA, zB, zC])
    refine tof 17 95 11 89 true false ?_
    (try simp only [zP, zA, zB, zC])
    refine tof 18 96 11 89 true false ?_
    (try simp only [zP, zA, zB, zC])
    refine tof 19 97 11 89 true false ?_
    (try simp only [zP, zA, zB, zC])
    refine tof 20 98 11 89 true false ?_
    (try simp only [zP, zA, zB, zC])
    refine tof 21 99 11 89 true false ?_
    (try simp only [zP, zA, zB, zC])
    refine tof 22 100 11 89 true false ?_
    (try simp only [zP, zA, zB, zC])
    refine tof 23 101 11 89 true false ?_
    (try simp only [zP, zA, zB, zC])
    refine tof 24 102 11 89 true false ?_
    (try simp only [zP, zA, zB, zC])
    refine tof 25 103 11 89 true false ?_
    (try simp only [zP, zA, zB, zC])
    refine tof 26 104 11 89 true false ?_
    (try simp only [zP, zA, zB, zC])
    refine tof 27 105 11 89 true false ?_
    (try simp only [zP, zA, zB, zC])
    refine tof 28 106 11 89 true false ?_
    (try simp only [zP, zA, zB, zC])
    refine tof 29 107 11 89 true false ?_
    (try simp only [zP, zA, zB, zC])
    refine tk 30 108 ?_
    (try simp only [zP, zA, zB, zC])
    refine tk 31 109 ?_
    (try simp only [zP, zA, zB, zC])
    refine tof 32 110 31 109 true false ?_
    (try simp only [zP, zA, zB, zC])
    refine tof 33 111 31 109 true false ?_
    (try simp only [zP, zA, zB, zC])
    refine tof 34 112 31 109 true false ?_
    (try simp only [zP, zA, zB, zC])
    refine tof 35 113 31 109 true false ?_
    (try simp only [zP, zA, zB, zC])
    refine tof 36 114 31 109 true false ?_
    (try simp only [zP, zA, zB, zC])
    refine tof 37 115 31 109 true false ?_
    (try simp only [zP, zA, zB, zC])
    refine tof 38 116 31 109 true false ?_
    (try simp only [zP, zA, zB, zC])
    refine tof 39 117 31 109 true false ?_
    (try simp only [zP, zA, zB, zC])
    refine tof 40 118 31 109 true false ?_
    (try simp only [zP, zA, zB, zC])
    refine tof 41 119 31 109 true false ?_
    (try simp only [zP, zA, zB, zC])
    refine tof 42 120 31 109 true false ?_
    (try simp only [zP, zA, zB, zC])
    refine tof 43 121 31 109 true false ?_
    (try simp only [zP, zA, zB, zC])
    refine tk 44 122 ?_
    (try simp only [zP, zA, zB, zC])
    refine tk 45 2 ?_
    (try simp only [zP, zA, zB, zC])
    refine wpAnyH_done (by kernel_rfl) ?_ _
    have HF := Lib.hid HF0.out
    go_wp2_with (fail)
    go_ret
    exact ⟨by rw [HTL.out, HF.out]; first | rfl | (simp; done) | (rw [HWT.out]; exact Bool.beq_eq_decide_eq _ _) | (simp [HWT.out]; exact Bool.beq_eq_decide_eq _ _), hbel.trans (bs_1.mono hqr)⟩
set_option maxRecDepth 100000 in
set_option maxHeartbeats 8000000 in
theorem peerOk_impl {w : World} {p : Pr} {vt bl bs bb nl ns nb vu vv vs : Value} (h : RdPr w p vt bl bs bb nl ns nb vu vv vs) (hs : p.sane) (hf : p.few) :
  Calls Tryz.prog 92 #[.agg (prC p vt bl bs bb nl ns nb vu vv vs)] w fun e w' => e = .returned (.bool (peerB p)) ∧ Below w.heap.size w w' := by
 have h0 := h
 obtain ⟨a0, c0, rfl, -⟩ := id h.1
 obtain ⟨a1, c1, rfl, -⟩ := id h.2.1.1
 obtain ⟨a2, c2, rfl, -⟩ := id h.2.1.2.1
 obtain ⟨a3, c3, rfl, -⟩ := id h.2.1.2.2
 obtain ⟨a4, c4, rfl, -⟩ := id h.2.2.1.1
 obtain ⟨a5, c5, rfl, -⟩ := id h.2.2.1.2.1
 obtain ⟨a6, c6, rfl, -⟩ := id h.2.2.1.2.2
 obtain ⟨a7, c7, rfl, -⟩ := id h.2.2.2.1
 obtain ⟨a8, c8, rfl, -⟩ := id h.2.2.2.2.1
 obtain ⟨a9, c9, rfl, -⟩ := id h.2.2.2.2.2
 obtain ⟨W0, hW, hA0, q0, -⟩ := rows1 w (prC p (.slice a0 p.tracks.length c0) (.slice a1 p.base.rows.length c1) (.slice a2 p.base.scores.length c2) (.slice a3 p.base.bods.length c3) (.slice a4 p.now.rows.length c4) (.slice a5 p.now.scores.length c5) (.slice a6 p.now.bods.length c6) (.slice a7 p.used.length c7) (.slice a8 p.saves.length c8) (.slice a9 p.sums.length c9)) 63
 have hk0 := h0.keep q0
 have hwf := fun {W : World} (hb : Below W0.heap.size W0 W) => worldsFit_impl (keepHeap hb hA0) (hk0.keep hb) hs hf
 have hnf := fun {W : World} (hb : Below W0.heap.size W0 W) => numbersFit_impl (keepHeap hb hA0) (hk0.keep hb) hs hf
 have htf := fun (h1 : 0 ≤ p.me) (h2 : p.me < (p.tracks.length : Int)) (h3 : 0 ≤ p.base.tick ∧ p.base.tick ≤ 100000) (h4 : 0 ≤ p.now.tick ∧ p.now.tick ≤ 100000) {W : World} (hb : Below W0.heap.size W0 W) => ticksFit_impl (keepHeap hb hA0) (hk0.keep hb) hs hf h1 h2 h3 h4
 have hto := tracksOk_impl hk0.1 hf.1
 unfold prC at hA0 hW ⊢
 have cA := rowCells hA0
 go_enter Tryz.func92, Tryz.ntmps92
 go_wp2_with (fail)
 try rw [hW]
 clear hW
 refine hto.mono ?_
 rintro e w1 ⟨rfl, hb1⟩
 have q1 := q0.trans (hb1.mono q0.size)
 cases e1 : trksB p.tracks with
 | false =>
  have HF := Lib.hid (pr_t e1)
  clear e1
  go_wp2_with (fail)
  go_ret
  exact ⟨by rw [HF.out]; rfl, q1⟩
 | true =>
 have E1 := Lib.hid e1
 clear e1
 go_wp2_with (fail)
 refine (hwf hb1).mono ?_
 rintro e w2 ⟨rfl, hb2⟩
 have hb12 := hb1.trans (hb2.mono hb1.size)
 have q2 := q0.trans (hb12.mono q0.size)
 cases e2 : worldsB p with
 | false =>
  have HF := Lib.hid (pr_w e2)
  clear e2
  go_wp2_with (fail)
  go_ret
  exact ⟨by rw [HF.out]; rfl, q2⟩
 | true =>
 have E2 := Lib.hid e2
 have hbt : (0 ≤ p.base.tick ∧ p.base.tick ≤ 100000) ∧ (0 ≤ p.now.tick ∧ p.now.tick ≤ 100000) := by
  unfold worldsB at e2
  simp only [Bool.and_eq_true] at e2
  exact ⟨(inR_iff _ _ _).1 (wd_facts e2.1).2.1, (inR_iff _ _ _).1 (wd_facts e2.2.1).2.1⟩
 clear e2
 go_wp2_with (fail)
 refine (hnf hb12).mono ?_
 rintro e w3 ⟨rfl, hb3⟩
 have hb13 := hb12.trans (hb3.mono hb12.size)
 have q3 := q0.trans (hb13.mono q0.size)
 cases e3 : numbersB p with
 | false =>
  have HF := Lib.hid (pr_n e3)
  clear e3
  go_wp2_with (fail)
  go_ret
  exact ⟨by rw [HF.out]; rfl, q3⟩
 | true =>
 have HF := Lib.hid (pr_ok E1.out E2.out e3)
 have hme : 0 ≤ p.me ∧ p.me < (p.tracks.length : Int) := by
  unfold numbersB at e3
  simp only [Bool.and_eq_true] at e3
  have := (inR_iff _ _ _).1 e3.2.1
  omega
 clear e3
 go_wp2_with (fail)
 refine (htf hme.1 hme.2 hbt.1 hbt.2 hb13).mono ?_
 rintro e w4 ⟨rfl, hb4⟩
 have q4 := q3.trans (hb4.mono q3.size)
 go_wp2_with (fail)
 go_ret
 exact ⟨by rw [HF.out]; rfl, q4⟩
theorem ns_r {p : Pr} (h : inR p.rolls 0 1000000 = false) : numbersB p = false := ns_c (by unfold allW; simp [h])
theorem ns_g {p : Pr} (h : inR p.again 0 1000000 = false) : numbersB p = false := ns_c (by unfold allW; simp [h])
theorem ns_ok2 {p : Pr} (h1 : faultB p.fault (p.tracks.length : Int) = true) (h2 : inR p.me 0 ((p.tracks.length : Int) - 1) = true) (h3 : inR p.delay 0 5 = true) (h4 : inR p.ahead 1 8 = true) (h5 : inR p.seed 0 65535 = true) (h6 : inR p.rolls 0 1000000 = true) (h7 : inR p.again 0 1000000 = true) : numbersB p = true := ns_ok h1 h2 h3 h4 h5 (by unfold allW; simp [h6, h7])
theorem pr_k {p : Pr} (h : ticksB p = false) : peerB p = false := by unfold peerB; rw [h]; simp
set_option maxRecDepth 100000 in
set_option maxHeartbeats 16000000 in
theorem peerOk_spec {w : World} {p : Pr} {vt bl bs bb nl ns nb vu vv vs : Value} (h : RdPr w p vt bl bs bb nl ns nb vu vv vs) (hs : p.sane) (hf : p.few) :
  Calls Tryz.prog 90 #[.agg (prC p vt bl bs bb nl ns nb vu vv vs)] w fun e w' => e = .returned (.bool (peerB p)) ∧ Below w.heap.size w w' := by
 have h00 := h
 obtain ⟨a0, c0, rfl, -⟩ := id h.1
 obtain ⟨a1, c1, rfl, -⟩ := id h.2.1.1
 obtain ⟨a2, c2, rfl, -⟩ := id h.2.1.2.1
 obtain ⟨a3, c3, rfl, -⟩ := id h.2.1.2.2
 obtain ⟨a4, c4, rfl, -⟩ := id h.2.2.1.1
 obtain ⟨a5, c5, rfl, -⟩ := id h.2.2.1.2.1
 obtain ⟨a6, c6, rfl, -⟩ := id h.2.2.1.2.2
 obtain ⟨a7, c7, rfl, -⟩ := id h.2.2.2.1
 obtain ⟨a8, c8, rfl, -⟩ := id h.2.2.2.2.1
 obtain ⟨a9, c9, rfl, -⟩ := id h.2.2.2.2.2
 obtain ⟨W0, hW, hA0, q0, -⟩ := rows1 w #[Value.int .i64 p.me, .int .i64 p.delay, .int .i64 p.ahead, .int .i64 p.seed, (.slice a0 p.tracks.length c0), (.slice a1 p.base.rows.length c1), .int .i64 p.base.tick, .int .i64 p.base.seed, (.slice a2 p.base.scores.length c2), (.slice a3 p.base.bods.length c3), (.slice a4 p.now.rows.length c4), .int .i64 p.now.tick, .int .i64 p.now.seed, (.slice a5 p.now.scores.length c5), (.slice a6 p.now.bods.length c6), (.slice a7 p.used.length c7), (.slice a8 p.saves.length c8), (.slice a9 p.sums.length c9), .int .i64 p.fault.tick, .int .i64 p.fault.player, .int .i64 p.fault.add, .int .i64 p.rolls, .int .i64 p.again] 63
 have h0 := h00.keep q0
 have hwb := fun {W : World} (hb : Below W0.heap.size W0 W) => worldOk_spec ((h0.keep hb).2.1) hs.2.1
 have hwn := fun {W : World} (hb : Below W0.heap.size W0 W) => worldOk_spec ((h0.keep hb).2.2.1) hs.2.2.1
 have hws := fun {W : World} (hb : Below W0.heap.size W0 W) => sameLevel_spec ((h0.keep hb).2.1.1) ((h0.keep hb).2.2.1.1) hs.2.1.1.1 hs.2.2.1.1.1
 have hto := fun {W : World} (hb : Below W0.heap.size W0 W) => tracksOk_spec (h0.keep hb).1 hf.1
 have ht : (p.tracks.length : Int) ≤ 9223372036854775807 := by have := hs.1.1; omega
 have hb : (p.base.scores.length : Int) ≤ 9223372036854775807 := by have := hs.2.1.2.1; omega
 have hn : (p.now.scores.length : Int) ≤ 9223372036854775807 := by have := hs.2.2.1.2.1; omega
 have hu : (p.used.length : Int) ≤ 9223372036854775807 := by have := hs.2.2.2.1.1; omega
 have hv : (p.saves.length : Int) ≤ 9223372036854775807 := by have := hs.2.2.2.2.1.1; omega
 have hm : (p.sums.length : Int) ≤ 9223372036854775807 := by have := hs.2.2.2.2.2; omega
 have hfo := fun W => faultOk_spec p.fault (p.tracks.length : Int) W (by omega)
 unfold ftV at hfo
 unfold prC
 unfold wdC at hwb hwn
 have cA0 := rowCells hA0
 go_enter Tryz.func90, Tryz.ntmps90
 go_wp2_with (fail)
 try rw [hW]
 clear hW
 refine (hwb (Below.refl _ _)).mono ?_
 rintro e w1 ⟨rfl, b1⟩
 have q1 := q0.trans (b1.mono q0.size)
 have hA1 := keepHeap b1 hA0
 have cA1 := rowCells hA1
 clear cA0
 cases e1 : worldB p.base with
 | false =>
  have HF := Lib.hid (pr_w (ws_b e1))
  clear e1
  go_wp2_with (fail)
  go_ret
  exact ⟨by rw [HF.out]; rfl, q1⟩
 | true =>
 have hbt := (inR_iff _ _ _).1 (wd_facts e1).2.1
 have E1 := Lib.hid e1
 clear e1
 go_wp2_with (fail)
 refine (hwn b1).mono ?_
 rintro e w2 ⟨rfl, hb2⟩
 have b2 := b1.trans (hb2.mono b1.size)
 have q2 := q0.trans (b2.mono q0.size)
 have hA2 := keepHeap b2 hA0
 have cA2 := rowCells hA2
 clear cA1 hb2
 cases e2 : worldB p.now with
 | false =>
  have HF := Lib.hid (pr_w (ws_n e2))
  clear e2
  go_wp2_with (fail)
  go_ret
  exact ⟨by rw [HF.out]; rfl, q2⟩
 | true =>
 have hnt := (inR_iff _ _ _).1 (wd_facts e2).2.1
 have E2 := Lib.hid e2
 clear e2
 go_wp2_with (fail)
 refine (hws b2).mono ?_
 rintro e w3 ⟨rfl, hb3⟩
 have b3 := b2.trans (hb3.mono b2.size)
 have q3 := q0.trans (b3.mono q0.size)
 have hA3 := keepHeap b3 hA0
 have cA3 := rowCells hA3
 clear cA2 hb3
 cases e3 : sg p.base.rows p.now.rows with
 | false =>
  have HF := Lib.hid (pr_w (ws_l e3))
  clear e3
  go_wp2_with (fail)
  go_ret
  exact ⟨by rw [HF.out]; rfl, q3⟩
 | true =>
 have E3 := Lib.hid e3
 clear e3
 by_cases e4 : (p.base.scores.length : Int) = (p.tracks.length : Int)
 case neg =>
  have z4 : ((p.base.scores.length : Int) != (p.tracks.length : Int)) = true := by simpa using e4
  have HF := Lib.hid (pr_w (ws_1 e4))
  clear e4
  go_wp2_with (fail)
  go_ret
  exact ⟨by rw [HF.out]; rfl, q3⟩
 have z4 : ((p.base.scores.length : Int) != (p.tracks.length : Int)) = false := by simpa using e4
 have E4 := Lib.hid e4
 clear e4
 by_cases e5 : (p.now.scores.length : Int) = (p.tracks.length : Int)
 case neg =>
  have z5 : ((p.now.scores.length : Int) != (p.tracks.length : Int)) = true := by simpa using e5
  have HF := Lib.hid (pr_w (ws_2 e5))
  clear e5
  go_wp2_with (fail)
  go_ret
  exact ⟨by rw [HF.out]; rfl, q3⟩
 have z5 : ((p.now.scores.length : Int) != (p.tracks.length : Int)) = false := by simpa using e5
 have E5 := Lib.hid (ws_ok E1.out E2.out E3.out E4.out e5)
 clear e5
 go_wp2_with (fail)
 refine (hto b3).mono ?_
 rintro e w4 ⟨rfl, hb4⟩
 have b4 := b3.trans (hb4.mono b3.size)
 have q4 := q0.trans (b4.mono q0.size)
 have hA4 := keepHeap b4 hA0
 have cA4 := rowCells hA4
 clear cA3 hb4
 cases e6 : trksB p.tracks with
 | false =>
  have HF := Lib.hid (pr_t e6)
  clear e6
  go_wp2_with (fail)
  go_ret
  exact ⟨by rw [HF.out]; rfl, q4⟩
 | true =>
 have E6 := Lib.hid e6
 clear e6
 go_wp2_with (fail)
 refine (hfo _).mono ?_
 rintro e w5 ⟨rfl, hb5⟩
 have b5 := b4.trans (hb5.mono b4.size)
 have q5 := q0.trans (b5.mono q0.size)
 have hA5 := keepHeap b5 hA0
 have cA5 := rowCells hA5
 clear cA4 hb5
 cases e7 : faultB p.fault (p.tracks.length : Int) with
 | false =>
  have HF := Lib.hid (pr_n (ns_f e7))
  clear e7
  go_wp2_with (fail)
  go_ret
  exact ⟨by rw [HF.out]; rfl, q5⟩
 | true =>
 have E7 := Lib.hid e7
 obtain ⟨ld, hld⟩ : ∃ ld : Int, ld = p.now.tick - p.base.tick := ⟨_, rfl⟩
 have hT1 := tk_l (p := p)
 have hT2 := tk_u (p := p)
 have hT3 := tk_s (p := p)
 have hT4 := fun k hk => tk_r (p := p) (k := k) hk
 have hT5 := tk_ok (p := p)
 rw [← hld] at hT1 hT2 hT3 hT4 hT5
 have hldb : -100000 ≤ ld ∧ ld ≤ 100000 := by omega
 have hsub : wrap64 (p.now.tick - p.base.tick) = ld := by rw [hld]; exact IntWalk.wrap64_in _ ⟨by omega, by omega⟩
 have hsub2 : p.now.tick - p.base.tick = ld := hld.symm
 have HLD := Lib.hid hld
 clear hld e7
 go_wp2_with (fail)
 refine (in_spec _ _ _ _).mono ?_
 rintro e w6 ⟨rfl, rfl⟩
 cases n1 : inR p.me 0 ((p.tracks.length : Int) - 1) with
 | false =>
  have HF := Lib.hid (pr_n (ns_m n1))
  clear n1
  go_wp2_with (fail)
  go_ret
  exact ⟨by rw [HF.out]; rfl, q5⟩
 | true =>
 have N1 := Lib.hid n1
 clear n1
 go_wp2_with (fail)
 refine (in_spec _ _ _ _).mono ?_
 rintro e w6 ⟨rfl, rfl⟩
 cases n2 : inR p.delay 0 5 with
 | false =>
  have HF := Lib.hid (pr_n (ns_d n2))
  clear n2
  go_wp2_with (fail)
  go_ret
  exact ⟨by rw [HF.out]; rfl, q5⟩
 | true =>
 have N2 := Lib.hid n2
 clear n2
 go_wp2_with (fail)
 refine (in_spec _ _ _ _).mono ?_
 rintro e w6 ⟨rfl, rfl⟩
 cases n3 : inR p.ahead 1 8 with
 | false =>
  have HF := Lib.hid (pr_n (ns_a n3))
  clear n3
  go_wp2_with (fail)
  go_ret
  exact ⟨by rw [HF.out]; rfl, q5⟩
 | true =>
 have N3 := Lib.hid n3
 clear n3
 go_wp2_with (fail)
 refine (in_spec _ _ _ _).mono ?_
 rintro e w6 ⟨rfl, rfl⟩
 cases n4 : inR p.seed 0 65535 with
 | false =>
  have HF := Lib.hid (pr_n (ns_s n4))
  clear n4
  go_wp2_with (fail)
  go_ret
  exact ⟨by rw [HF.out]; rfl, q5⟩
 | true =>
 have N4 := Lib.hid n4
 clear n4
 go_wp2_with (fail)
 refine (in_spec _ _ _ _).mono ?_
 rintro e w6 ⟨rfl, rfl⟩
 cases n5 : inR p.rolls 0 1000000 with
 | false =>
  have HF := Lib.hid (pr_n (ns_r n5))
  clear n5
  go_wp2_with (fail)
  go_ret
  exact ⟨by rw [HF.out]; rfl, q5⟩
 | true =>
 have N5 := Lib.hid n5
 clear n5
 go_wp2_with (fail)
 refine (in_spec _ _ _ _).mono ?_
 rintro e w6 ⟨rfl, rfl⟩
 cases n6 : inR p.again 0 1000000 with
 | false =>
  have HF := Lib.hid (pr_n (ns_g n6))
  clear n6
  go_wp2_with (fail)
  go_ret
  exact ⟨by rw [HF.out]; rfl, q5⟩
 | true =>
 have N6 := Lib.hid n6
 clear n6
 go_wp2_with (fail)
 refine (in_spec _ _ _ _).mono ?_
 rintro e w6 ⟨rfl, rfl⟩
 have HPT := Lib.hid (pr_ok E6.out E5.out (ns_ok2 E7.out N1.out N2.out N3.out N4.out N5.out N6.out))
 have hme := (inR_iff _ _ _).1 N1.out
 cases n7 : inR ld 0 p.ahead with
 | false =>
  have HF := Lib.hid (pr_k (hT1 n7))
  clear n7
  go_wp2_with (fail)
  go_ret
  exact ⟨by rw [HF.out]; rfl, q5⟩
 | true =>
 have hl0 := ((inR_iff _ _ _).1 n7).1
 by_cases e2 : (p.used.length : Int) = ld
 case neg =>
  have z2 : ((p.used.length : Int) != ld) = true := by simpa using e2
  have HF := Lib.hid (pr_k (hT2 e2))
  clear e2 n7
  go_wp2_with (fail)
  go_ret
  exact ⟨by rw [HF.out]; rfl, q5⟩
 by_cases e3 : (p.saves.length : Int) = ld
 case neg =>
  have z2 : ((p.used.length : Int) != ld) = false := by simpa using e2
  have z3 : ((p.saves.length : Int) != ld) = true := by simpa using e3
  have HF := Lib.hid (pr_k (hT3 e3))
  clear e2 e3 n7
  go_wp2_with (fail)
  go_ret
  exact ⟨by rw [HF.out]; rfl, q5⟩
 have z2 : ((p.used.length : Int) != ld) = false := by simpa using e2
 have z3 : ((p.saves.length : Int) != ld) = false := by simpa using e3
 have HOK := Lib.hid (hT5 n7 e2 e3)
 obtain ⟨L, hL⟩ : ∃ L : Nat, ld = (L : Int) := ⟨ld.toNat, by omega⟩
 subst hL
 have hLu : p.used.length = L := by omega
 have hLs : p.saves.length = L := by omega
 have HLu := Lib.hid hLu
 have HLs := Lib.hid hLs
 have HBAD := Lib.hid (fun k (hk : k < L) hb => hT4 k (by omega) hb)
 have hLb : L ≤ 100000 := by omega
 have hP5 := h0.keep b5
 obtain ⟨-, -, -, hs4, -, -⟩ := hs
 obtain ⟨⟨f1, f2⟩, -, -, -, -, -⟩ := hf
 clear n7 e2 e3 hT1 hT2 hT3 hT4 hT5 hLu hLs hsub hsub2 hldb hwb hwn hws hto hfo h0 h00
 go_wp2_with (fail)
 go_loopw [5] (fun i wr => ∃ k : Nat, k ≤ L ∧ i = .int .i64 (k : Int) ∧ Below w5.heap.size w5 wr ∧ Hid (∀ j : Nat, j < k → rowAtB p j = true)) (fun i _ => L - (intOf i).toNat)
 case atStart => exact ⟨0, Nat.zero_le _, rfl, Below.refl _ _, Lib.hid (fun j hl => by omega)⟩
 case round =>
  obtain ⟨k, hk, rfl, hbl, HA⟩ := hrel
  have hbel := q5.trans (hbl.mono q5.size)
  have hAr := keepHeap hbl hA5
  have cAr := rowCells hAr
  have hr := hP5.keep hbl
  have hqr := hbel.size
  clear cA5
  by_cases hkl : k < L
  ·have hku : k < p.used.length := by rw [HLu.out]; exact hkl
   have hks : k < p.saves.length := by rw [HLs.out]; exact hkl
   have hl1 : (k : Int) < (L : Int) := by omega
   have hl2 : (k : Int) < (p.used.length : Int) := by omega
   have hl3 : (k : Int) < (p.saves.length : Int) := by omega
   obtain ⟨x1, x2, ex, hus⟩ := hr.2.2.2.1
   obtain ⟨rfl, -, rfl⟩ := Value.slice.inj ex
   obtain ⟨b, off, rfl, hc⟩ := hus.resolve_left (by intro e; rw [e] at hku; simp at hku)
   obtain ⟨u, c1, r1⟩ := hc k hku
   obtain ⟨y1, y2, ey, hvs⟩ := hr.2.2.2.2.1
   obtain ⟨rfl, -, rfl⟩ := Value.slice.inj ey
   obtain ⟨b', off', rfl, hc'⟩ := hvs.resolve_left (by intro e; rw [e] at hks; simp at hks)
   have c2 := (cellsSv (hc' k hks)).1
   have hx3 := hs4.2 p.used[k] (List.getElem_mem _)
   obtain ⟨ax, cx, rfl, -⟩ := id r1
   have hRO : ∀ n, Calls Tryz.prog 160 #[.slice ax p.used[k].length cx, .int .i64 (p.tracks.length : Int)] (wr.drewN n) fun e w' => e = .returned (.bool (rokB (p.tracks.length : Int) p.used[k])) ∧ w' = wr.drewN n := fun n => (l02RowOk_any (r1.keep (belowDrew wr n)) hx3 _).mono fun _ _ h => ⟨h.1, h.2.symm⟩
   have d15 : wr.cell? ⟨w.heap.size, 15, none⟩ = some (.slice (some ⟨b, off, none⟩) p.used.length c7) := cAr 15
   have d16 : wr.cell? ⟨w.heap.size, 16, none⟩ = some (.slice (some ⟨b', off', none⟩) p.saves.length c8) := cAr 16
   have d6 : wr.cell? ⟨w.heap.size, 6, none⟩ = some (.int .i64 p.base.tick) := cAr 6
   have RN := Lib.hid (fun h => ra_no (p := p) hku h)
   have RT := Lib.hid (fun h => ra_tick (p := p) hks h)
   have RY := Lib.hid (fun h h2 => ra_ok (p := p) hku hks h h2)
   have HB1 := Lib.hid (HBAD.out k hkl)
   obtain ⟨tk, htk⟩ : ∃ t, t = p.saves[k].tick := ⟨_, rfl⟩
   rw [← htk] at c2 RT RY
   generalize p.used[k].length = m1 at c1 hRO
   clear hc hc' htk hx3 r1 hus hvs ex ey hr hAr
   cases q2 : rokB (p.tracks.length : Int) p.used[k] with
   | false =>
    rw [q2] at hRO
    have HF := Lib.hid (pr_k (HB1.out (RN.out q2)))
    clear q2 RN RT RY
    go_wp2_with (fail)
    go_quiet (first | (go_at_call 160; exact Calls.quiet_of_same (hRO _)))
    go_wp2_with (fail)
    go_ret
    exact ⟨by rw [HF.out]; rfl, hbel.trans (Below.mono ⟨rfl, rfl, rfl, Nat.le_refl _, fun _ _ => rfl⟩ hbel.size)⟩
   | true =>
    rw [q2] at hRO
    by_cases e4 : tk = p.base.tick + (k : Int)
    ·have z4 : (tk != p.base.tick + (k : Int)) = false := by simpa using e4
     have HY := Lib.hid (RY.out q2 e4)
     clear q2 e4 RN RT RY
     go_wp2_with (fail)
     go_quiet (first | (go_at_call 160; exact Calls.quiet_of_same (hRO _)))
     go_wp2_with (fail)
     go_roundw
     case rel =>
      refine ⟨k + 1, by omega, by go_num, hbl.trans (Below.mono ⟨rfl, rfl, rfl, Nat.le_refl _, fun _ _ => rfl⟩ hbl.size), Lib.hid (fun j hjk => ?_)⟩
      by_cases e : j = k
      ·subst e; exact HY.out
      ·exact HA.out j (by omega)
     case measure => simp [intOf]; omega
    ·have z4 : (tk != p.base.tick + (k : Int)) = true := by simpa using e4
     have HF := Lib.hid (pr_k (HB1.out (RT.out e4)))
     clear q2 e4 RN RT RY
     go_wp2_with (fail)
     go_quiet (first | (go_at_call 160; exact Calls.quiet_of_same (hRO _)))
     go_wp2_with (fail)
     go_ret
     exact ⟨by rw [HF.out]; rfl, hbel.trans (Below.mono ⟨rfl, rfl, rfl, Nat.le_refl _, fun _ _ => rfl⟩ hbel.size)⟩
  ·have hl1 : ¬ (k : Int) < (L : Int) := by omega
   have hTT := HOK.out (fun j hj => HA.out j (by omega))
   have HTL := Lib.hid (HPT.out.trans hTT)
   clear hTT
   obtain ⟨m, hm0⟩ : ∃ m : Nat, p.me = (m : Int) := ⟨p.me.toNat, by omega⟩
   have hmt : m < p.tracks.length := by omega
   have HWT : Hid (IntKind.i64.wrap (p.base.tick + 1) = p.base.tick + 1) := Lib.hid (IntWalk.i64_in _ (by omega))
   obtain ⟨x1, x2, ex, hts⟩ := hr.1
   obtain ⟨rfl, -, rfl⟩ := Value.slice.inj ex
   obtain ⟨bt, ot, rfl, hct⟩ := hts.resolve_left (by intro e; rw [e] at hmt; simp at hmt)
   obtain ⟨um, cm, rm⟩ := hct m hmt
   obtain ⟨am, xm, rfl, -⟩ := id rm
   have TK := Lib.hid (tl_k (p := p))
   have TM := Lib.hid (fun h => tl_m (p := p) hmt hm0 h)
   have TO := Lib.hid (fun h1 h2 => tl_ok (p := p) hmt hm0 h1 h2)
   have hkn := fun {W : World} (hb : Below wr.heap.size wr W) => knownTicks_spec (hr.1.keep hb) ⟨f1, f2⟩
   generalize hnm : p.tracks[m].length = nm at cm TM TO
   have hnm1 : (nm : Int) ≤ 9223372036854775807 := by have := f2 p.tracks[m] (List.getElem_mem _); omega
   generalize knownI p.tracks = kn at hkn TK TO
   have hml : (m : Int) < (p.tracks.length : Int) := by omega
   have hmw : 0 ≤ (m : Int) := by omega
   rw [hm0] at hAr
   have HM0 := Lib.hid hm0
   clear hm0 hct hts ex rm hnm
   have cAr := rowCells hAr
   by_cases e5 : p.base.tick ≤ kn
   ·have z5 : decide (p.base.tick ≤ kn) = true := by simpa using e5
    by_cases e6 : p.now.tick ≤ (nm : Int)
    ·have z6 : decide (p.now.tick ≤ (nm : Int)) = true := by simpa using e6
     have HF0 := Lib.hid (TO.out e5 e6)
     clear e5 e6
     go_upto_region 12 with (fail)
     have bs_0 : Below wr.heap.size wr wr.drew := belowDrew wr 1
     refine wp_region_held_drew (S := (fun w' => (∀ j, w'.cell? ⟨w.heap.size, j, none⟩ = #[Value.int .i64 (m : Int), .int .i64 p.delay, .int .i64 p.ahead, .int .i64 p.seed, (.slice (some ⟨bt, ot, none⟩) p.tracks.length c0), (.slice a1 p.base.rows.length c1), .int .i64 p.base.tick, .int .i64 p.base.seed, (.slice a2 p.base.scores.length c2), (.slice a3 p.base.bods.length c3), (.slice a4 p.now.rows.length c4), .int .i64 p.now.tick, .int .i64 p.now.seed, (.slice a5 p.now.scores.length c5), (.slice a6 p.now.bods.length c6), (.slice a7 p.used.length c7), (.slice a8 p.saves.length c8), (.slice a9 p.sums.length c9), .int .i64 p.fault.tick, .int .i64 p.fault.player, .int .i64 p.fault.add, .int .i64 p.rolls, .int .i64 p.again][j]?) ∧ w'.cell? ⟨bt, ot + m, none⟩ = some (.slice am nm xm))) (by kernel_rfl) ?_ (fun hHeld => ?_)
     ·exact ⟨rowCells (keepHeap bs_0 hAr), (bs_0.cell (World.block_lt_of_cell? _ _ cm)).trans cm⟩
     refine tk 0 149 ?_
     (try simp only [zP, zA, zB, zC])
     refine tk 1 150 ?_
     (try simp only [zP, zA, zB, zC])
     refine tk 2 151 ?_
     (try simp only [zP, zA, zB, zC])
     refine tk 3 152 ?_
     (try simp only [zP, zA, zB, zC])
     refine tk 4 153 ?_
     (try simp only [zP, zA, zB, zC])
     refine wpAnyH_ready (rs := [5]) (by kernel_rfl) (by simp) ?_
     refine AllReadyH.cons rfl (fun K hK => ?_) AllReadyH.nil
     go_simp
     refine (hkn bs_0).mono ?_
     rintro e w_1 ⟨rfl, hb_1⟩
     have bs_1 := bs_0.trans (hb_1.mono bs_0.size)
     (try go_wp2_with (fail))
     refine hK.out _ _ ?_ (fun hHeld => ?_)
     ·exact ⟨rowCells (keepHeap bs_1 hAr), (bs_1.cell (World.block_lt_of_cell? _ _ cm)).trans cm⟩
     clear hK K
     (try simp only [zP, zA, zB, zC])
     refine tk 6 155 ?_
     (try simp only [zP, zA, zB, zC])
     refine tk 7 156 ?_
     (try simp only [zP, zA, zB, zC])
     refine tw 8 157 7 156 true ?_
     (try simp only [zP, zA, zB, zC])
     refine tw 9 158 7 156 true ?_
     (try simp only [zP, zA, zB, zC])
     refine tw 10 159 7 156 true ?_
     (try simp only [zP, zA, zB, zC])
     refine tw 11 160 7 156 true ?_
     (try simp only [zP, zA, zB, zC])
     refine tw 12 161 7 156 true ?_
     (try simp only [zP, zA, zB, zC])
     refine tw 13 162 7 156 true ?_
     (try simp only [zP, zA, zB, zC])
     refine tw 14 163 7 156 true ?_
     (try simp only [zP, zA, zB, zC])
     refine tw 15 164 7 156 true ?_
     (try simp only [zP, zA, zB, zC])
     refine tw 16 165 7 156 true ?_
     (try simp only [zP, zA, zB, zC])
     refine tw 17 166 7 156 true ?_
     (try simp only [zP, zA, zB, zC])
     refine tw 18 167 7 156 true ?_
     (try simp only [zP, zA, zB, zC])
     refine tw 19 168 7 156 true ?_
     (try simp only [zP, zA, zB, zC])
     refine tk 20 169 ?_
     (try simp only [zP, zA, zB, zC])
     refine tk 21 170 ?_
     (try simp only [zP, zA, zB, zC])
     refine tw 22 171 21 170 true ?_
     (try simp only [zP, zA, zB, zC])
     refine tw 23 172 21 170 true ?_
     (try simp only [zP, zA, zB, zC])
     refine tw 24 173 21 170 true ?_
     (try simp only [zP, zA, zB, zC])
     refine tw 25 174 21 170 true ?_
     (try simp only [zP, zA, zB, zC])
     refine tw 26 175 21 170 true ?_
     (try simp only [zP, zA, zB, zC])
     refine tw 27 176 21 170 true ?_
     (try simp only [zP, zA, zB, zC])
     refine tw 28 177 21 170 true ?_
     (try simp only [zP, zA, zB, zC])
     refine tw 29 178 21 170 true ?_
     (try simp only [zP, zA, zB, zC])
     refine tk 30 179 ?_
     (try simp only [zP, zA, zB, zC])
     refine tk 31 2 ?_
     (try simp only [zP, zA, zB, zC])
     refine wpAnyH_done (by kernel_rfl) ?_ _
     have HF := Lib.hid HF0.out
     go_wp2_with (fail)
     go_ret
     exact ⟨by rw [HTL.out, HF.out]; first | rfl | (simp; done) | (rw [HWT.out]; exact Bool.beq_eq_decide_eq _ _) | (simp [HWT.out]; exact Bool.beq_eq_decide_eq _ _), hbel.trans (bs_1.mono hqr)⟩
    ·have z6 : decide (p.now.tick ≤ (nm : Int)) = false := by simpa using e6
     have HF0 := Lib.hid (TM.out e6)
     clear e5 e6
     go_upto_region 12 with (fail)
     have bs_0 : Below wr.heap.size wr wr.drew := belowDrew wr 1
     refine wp_region_held_drew (S := (fun w' => (∀ j, w'.cell? ⟨w.heap.size, j, none⟩ = #[Value.int .i64 (m : Int), .int .i64 p.delay, .int .i64 p.ahead, .int .i64 p.seed, (.slice (some ⟨bt, ot, none⟩) p.tracks.length c0), (.slice a1 p.base.rows.length c1), .int .i64 p.base.tick, .int .i64 p.base.seed, (.slice a2 p.base.scores.length c2), (.slice a3 p.base.bods.length c3), (.slice a4 p.now.rows.length c4), .int .i64 p.now.tick, .int .i64 p.now.seed, (.slice a5 p.now.scores.length c5), (.slice a6 p.now.bods.length c6), (.slice a7 p.used.length c7), (.slice a8 p.saves.length c8), (.slice a9 p.sums.length c9), .int .i64 p.fault.tick, .int .i64 p.fault.player, .int .i64 p.fault.add, .int .i64 p.rolls, .int .i64 p.again][j]?) ∧ w'.cell? ⟨bt, ot + m, none⟩ = some (.slice am nm xm))) (by kernel_rfl) ?_ (fun hHeld => ?_)
     ·exact ⟨rowCells (keepHeap bs_0 hAr), (bs_0.cell (World.block_lt_of_cell? _ _ cm)).trans cm⟩
     refine tk 0 149 ?_
     (try simp only [zP, zA, zB, zC])
     refine tk 1 150 ?_
     (try simp only [zP, zA, zB, zC])
     refine tk 2 151 ?_
     (try simp only [zP, zA, zB, zC])
     refine tk 3 152 ?_
     (try simp only [zP, zA, zB, zC])
     refine tk 4 153 ?_
     (try simp only [zP, zA, zB, zC])
     refine wpAnyH_ready (rs := [5]) (by kernel_rfl) (by simp) ?_
     refine AllReadyH.cons rfl (fun K hK => ?_) AllReadyH.nil
     go_simp
     refine (hkn bs_0).mono ?_
     rintro e w_1 ⟨rfl, hb_1⟩
     have bs_1 := bs_0.trans (hb_1.mono bs_0.size)
     (try go_wp2_with (fail))
     refine hK.out _ _ ?_ (fun hHeld => ?_)
     ·exact ⟨rowCells (keepHeap bs_1 hAr), (bs_1.cell (World.block_lt_of_cell? _ _ cm)).trans cm⟩
     clear hK K
     (try simp only [zP, zA, zB, zC])
     refine tk 6 155 ?_
     (try simp only [zP, zA, zB, zC])
     refine tk 7 156 ?_
     (try simp only [zP, zA, zB, zC])
     refine tw 8 157 7 156 true ?_
     (try simp only [zP, zA, zB, zC])
     refine tw 9 158 7 156 true ?_
     (try simp only [zP, zA, zB, zC])
     refine tw 10 159 7 156 true ?_
     (try simp only [zP, zA, zB, zC])
     refine tw 11 160 7 156 true ?_
     (try simp only [zP, zA, zB, zC])
     refine tw 12 161 7 156 true ?_
     (try simp only [zP, zA, zB, zC])
     refine tw 13 162 7 156 true ?_
     (try simp only [zP, zA, zB, zC])
     refine tw 14 163 7 156 true ?_
     (try simp only [zP, zA, zB, zC])
     refine tw 15 164 7 156 true ?_
     (try simp only [zP, zA, zB, zC])
     refine tw 16 165 7 156 true ?_
     (try simp only [zP, zA, zB, zC])
     refine tw 17 166 7 156 true ?_
     (try simp only [zP, zA, zB, zC])
     refine tw 18 167 7 156 true ?_
     (try simp only [zP, zA, zB, zC])
     refine tw 19 168 7 156 true ?_
     (try simp only [zP, zA, zB, zC])
     refine tk 20 169 ?_
     (try simp only [zP, zA, zB, zC])
     refine tk 21 170 ?_
     (try simp only [zP, zA, zB, zC])
     refine tof 22 171 21 170 true false ?_
     (try simp only [zP, zA, zB, zC])
     refine tof 23 172 21 170 true false ?_
     (try simp only [zP, zA, zB, zC])
     refine tof 24 173 21 170 true false ?_
     (try simp only [zP, zA, zB, zC])
     refine tof 25 174 21 170 true false ?_
     (try simp only [zP, zA, zB, zC])
     refine tof 26 175 21 170 true false ?_
     (try simp only [zP, zA, zB, zC])
     refine tof 27 176 21 170 true false ?_
     (try simp only [zP, zA, zB, zC])
     refine tof 28 177 21 170 true false ?_
     (try simp only [zP, zA, zB, zC])
     refine tof 29 178 21 170 true false ?_
     (try simp only [zP, zA, zB, zC])
     refine tk 30 179 ?_
     (try simp only [zP, zA, zB, zC])
     refine tk 31 2 ?_
     (try simp only [zP, zA, zB, zC])
     refine wpAnyH_done (by kernel_rfl) ?_ _
     have HF := Lib.hid HF0.out
     go_wp2_with (fail)
     go_ret
     exact ⟨by rw [HTL.out, HF.out]; first | rfl | (simp; done) | (rw [HWT.out]; exact Bool.beq_eq_decide_eq _ _) | (simp [HWT.out]; exact Bool.beq_eq_decide_eq _ _), hbel.trans (bs_1.mono hqr)⟩
   ·have z5 : decide (p.base.tick ≤ kn) = false := by simpa using e5
    have HF0 := Lib.hid (TK.out e5)
    clear e5
    go_upto_region 12 with (fail)
    have bs_0 : Below wr.heap.size wr wr.drew := belowDrew wr 1
    refine wp_region_held_drew (S := (fun w' => (∀ j, w'.cell? ⟨w.heap.size, j, none⟩ = #[Value.int .i64 (m : Int), .int .i64 p.delay, .int .i64 p.ahead, .int .i64 p.seed, (.slice (some ⟨bt, ot, none⟩) p.tracks.length c0), (.slice a1 p.base.rows.length c1), .int .i64 p.base.tick, .int .i64 p.base.seed, (.slice a2 p.base.scores.length c2), (.slice a3 p.base.bods.length c3), (.slice a4 p.now.rows.length c4), .int .i64 p.now.tick, .int .i64 p.now.seed, (.slice a5 p.now.scores.length c5), (.slice a6 p.now.bods.length c6), (.slice a7 p.used.length c7), (.slice a8 p.saves.length c8), (.slice a9 p.sums.length c9), .int .i64 p.fault.tick, .int .i64 p.fault.player, .int .i64 p.fault.add, .int .i64 p.rolls, .int .i64 p.again][j]?) ∧ w'.cell? ⟨bt, ot + m, none⟩ = some (.slice am nm xm))) (by kernel_rfl) ?_ (fun hHeld => ?_)
    ·exact ⟨rowCells (keepHeap bs_0 hAr), (bs_0.cell (World.block_lt_of_cell? _ _ cm)).trans cm⟩
    refine tk 0 149 ?_
    (try simp only [zP, zA, zB, zC])
    refine tk 1 150 ?_
    (try simp only [zP, zA, zB, zC])
    refine tk 2 151 ?_
    (try simp only [zP, zA, zB, zC])
    refine tk 3 152 ?_
    (try simp only [zP, zA, zB, zC])
    refine tk 4 153 ?_
    (try simp only [zP, zA, zB, zC])
    refine wpAnyH_ready (rs := [5]) (by kernel_rfl) (by simp) ?_
    refine AllReadyH.cons rfl (fun K hK => ?_) AllReadyH.nil
    go_simp
    refine (hkn bs_0).mono ?_
    rintro e w_1 ⟨rfl, hb_1⟩
    have bs_1 := bs_0.trans (hb_1.mono bs_0.size)
    (try go_wp2_with (fail))
    refine hK.out _ _ ?_ (fun hHeld => ?_)
    ·exact ⟨rowCells (keepHeap bs_1 hAr), (bs_1.cell (World.block_lt_of_cell? _ _ cm)).trans cm⟩
    clear hK K
    (try simp only [zP, zA, zB, zC])
    refine tk 6 155 ?_
    (try simp only [zP, zA, zB, zC])
    refine tk 7 156 ?_
    (try simp only [zP, zA, zB, zC])
    refine tof 8 157 7 156 true false ?_
    (try simp only [zP, zA, zB, zC])
    refine tof 9 158 7 156 true false ?_
    (try simp only [zP, zA, zB, zC])
    refine tof 10 159 7 156 true false ?_
    (try simp only [zP, zA, zB, zC])
    refine tof 11 160 7 156 true false ?_
    (try simp only [zP, zA, zB, zC])
    refine tof 12 161 7 156 true false ?_
    (try simp only [zP, zA, zB, zC])
    refine tof 13 162 7 156 true false ?_
    (try simp only [zP, zA, zB, zC])
    refine tof 14 163 7 156 true false ?_
    (try simp only [zP, zA, zB, zC])
    refine tof 15 164 7 156 true false ?_
    (try simp only [zP, zA, zB, zC])
    refine tof 16 165 7 156 true false ?_
    (try simp only [zP, zA, zB, zC])
    refine tof 17 166 7 156 true false ?_
    (try simp only [zP, zA, zB, zC])
    refine tof 18 167 7 156 true false ?_
    (try simp only [zP, zA, zB, zC])
    refine tof 19 168 7 156 true false ?_
    (try simp only [zP, zA, zB, zC])
    refine tk 20 169 ?_
    (try simp only [zP, zA, zB, zC])
    refine tk 21 170 ?_
    (try simp only [zP, zA, zB, zC])
    refine tof 22 171 21 170 true false ?_
    (try simp only [zP, zA, zB, zC])
    refine tof 23 172 21 170 true false ?_
    (try simp only [zP, zA, zB, zC])
    refine tof 24 173 21 170 true false ?_
    (try simp only [zP, zA, zB, zC])
    refine tof 25 174 21 170 true false ?_
    (try simp only [zP, zA, zB, zC])
    refine tof 26 175 21 170 true false ?_
    (try simp only [zP, zA, zB, zC])
    refine tof 27 176 21 170 true false ?_
    (try simp only [zP, zA, zB, zC])
    refine tof 28 177 21 170 true false ?_
    (try simp only [zP, zA, zB, zC])
    refine tof 29 178 21 170 true false ?_
    (try simp only [zP, zA, zB, zC])
    refine tk 30 179 ?_
    (try simp only [zP, zA, zB, zC])
    refine tk 31 2 ?_
    (try simp only [zP, zA, zB, zC])
    refine wpAnyH_done (by kernel_rfl) ?_ _
    have HF := Lib.hid HF0.out
    go_wp2_with (fail)
    go_ret
    exact ⟨by rw [HTL.out, HF.out]; first | rfl | (simp; done) | (rw [HWT.out]; exact Bool.beq_eq_decide_eq _ _) | (simp [HWT.out]; exact Bool.beq_eq_decide_eq _ _), hbel.trans (bs_1.mono hqr)⟩
end Go.Proofs.YtnlonkkbjkfkmaaGreatDoor
