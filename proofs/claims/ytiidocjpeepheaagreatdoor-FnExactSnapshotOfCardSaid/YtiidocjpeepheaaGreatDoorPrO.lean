/-
  PeerOk: the plain mathematics; the contracts of the model and of the program. Lists of at most 2^20.
-/
import Derived.Test.YtiidocjpeepheaaGreatDoorPr
import Derived.Test.YtiidocjpeepheaaGreatDoorKnt
import Derived.Test.YtiidocjpeepheaaGreatDoorWdO
import Derived.Test.YtiidocjpeepheaaGreatDoorSmG
import Derived.Test.YtiidocjpeepheaaGreatDoorColI
import Derived.Test.YtiidocjpeepheaaGreatDoorReg
import Derived.BigQuiet
import Derived.Deep.RegionHeld3
import Derived.Deep.Cut
namespace Go.Proofs.YtiidocjpeepheaaGreatDoor
open Go.RowKit
set_option linter.all false
theorem blockLtP {w : World} {k : Nat} {o : Obj} (h : w.heap[k]? = some o) : k < w.heap.size := (Array.getElem?_eq_some_iff.1 h).1
def worldsB (p : Pr) : Bool := worldB p.base && (worldB p.now && (sg p.base.rows p.now.rows && (decide ((p.base.scores.length : Int) = (p.tracks.length : Int)) && decide ((p.now.scores.length : Int) = (p.tracks.length : Int)))))
def numbersB (p : Pr) : Bool := faultB p.fault (p.tracks.length : Int) && (inR p.me 0 ((p.tracks.length : Int) - 1) && (inR p.delay 0 5 && (inR p.ahead 1 8 && (inR p.seed 0 65535 && allW 0 1000000 [p.rolls, p.again]))))
/-- Save k is that of its tick, row k is one. -/
def rowAtB (p : Pr) (k : Nat) : Bool := rokB (p.tracks.length : Int) (p.used.getD k []) && decide ((p.saves.getD k nilSv).tick = p.base.tick + (k : Int))
def tailB (p : Pr) : Bool := decide (p.base.tick ≤ knownI p.tracks) && (decide (p.now.tick ≤ ((p.tracks.getD p.me.toNat []).length : Int)) && decide ((p.sums.length : Int) = p.base.tick + 1))
def ticksB (p : Pr) : Bool := inR (p.now.tick - p.base.tick) 0 p.ahead && (decide ((p.used.length : Int) = p.now.tick - p.base.tick) && (decide ((p.saves.length : Int) = p.now.tick - p.base.tick) && ((List.range (p.now.tick - p.base.tick).toNat).all (rowAtB p) && tailB p)))
def peerB (p : Pr) : Bool := trksB p.tracks && (worldsB p && (numbersB p && ticksB p))
section
variable {p : Pr}
theorem pr_t (h : trksB p.tracks = false) : peerB p = false := by unfold peerB; rw [h]; rfl
theorem pr_w (h : worldsB p = false) : peerB p = false := by unfold peerB; rw [h]; simp
theorem pr_n (h : numbersB p = false) : peerB p = false := by unfold peerB; rw [h]; simp
theorem pr_ok (h1 : trksB p.tracks = true) (h2 : worldsB p = true) (h3 : numbersB p = true) : peerB p = ticksB p := by unfold peerB; rw [h1, h2, h3]; rfl
theorem ws_b (h : worldB p.base = false) : worldsB p = false := by unfold worldsB; rw [h]; rfl
theorem ws_n (h : worldB p.now = false) : worldsB p = false := by unfold worldsB; rw [h]; simp
theorem ws_l (h : sg p.base.rows p.now.rows = false) : worldsB p = false := by unfold worldsB; rw [h]; simp
theorem ws_1 (h : ¬ (p.base.scores.length : Int) = (p.tracks.length : Int)) : worldsB p = false := by unfold worldsB; rw [decide_eq_false h]; simp
theorem ws_2 (h : ¬ (p.now.scores.length : Int) = (p.tracks.length : Int)) : worldsB p = false := by unfold worldsB; rw [decide_eq_false h]; simp
theorem ws_ok (h1 : worldB p.base = true) (h2 : worldB p.now = true) (h3 : sg p.base.rows p.now.rows = true) (h4 : (p.base.scores.length : Int) = (p.tracks.length : Int)) (h5 : (p.now.scores.length : Int) = (p.tracks.length : Int)) : worldsB p = true := by unfold worldsB; rw [h1, h2, h3, decide_eq_true h4, decide_eq_true h5]; rfl
theorem ns_f (h : faultB p.fault (p.tracks.length : Int) = false) : numbersB p = false := by unfold numbersB; rw [h]; rfl
theorem ns_m (h : inR p.me 0 ((p.tracks.length : Int) - 1) = false) : numbersB p = false := by unfold numbersB; rw [h]; simp
theorem ns_d (h : inR p.delay 0 5 = false) : numbersB p = false := by unfold numbersB; rw [h]; simp
theorem ns_a (h : inR p.ahead 1 8 = false) : numbersB p = false := by unfold numbersB; rw [h]; simp
theorem ns_s (h : inR p.seed 0 65535 = false) : numbersB p = false := by unfold numbersB; rw [h]; simp
theorem ns_c (h : allW 0 1000000 [p.rolls, p.again] = false) : numbersB p = false := by unfold numbersB; rw [h]; simp
theorem ns_ok (h1 : faultB p.fault (p.tracks.length : Int) = true) (h2 : inR p.me 0 ((p.tracks.length : Int) - 1) = true) (h3 : inR p.delay 0 5 = true) (h4 : inR p.ahead 1 8 = true) (h5 : inR p.seed 0 65535 = true) (h6 : allW 0 1000000 [p.rolls, p.again] = true) : numbersB p = true := by unfold numbersB; rw [h1, h2, h3, h4, h5, h6]; rfl
theorem tk_l (h : inR (p.now.tick - p.base.tick) 0 p.ahead = false) : ticksB p = false := by unfold ticksB; rw [h]; rfl
theorem tk_u (h : ¬ (p.used.length : Int) = p.now.tick - p.base.tick) : ticksB p = false := by unfold ticksB; rw [decide_eq_false h]; simp
theorem tk_s (h : ¬ (p.saves.length : Int) = p.now.tick - p.base.tick) : ticksB p = false := by unfold ticksB; rw [decide_eq_false h]; simp
theorem tk_r {k : Nat} (hk : (k : Int) < p.now.tick - p.base.tick) (h : rowAtB p k = false) : ticksB p = false := by
  have : (List.range (p.now.tick - p.base.tick).toNat).all (rowAtB p) = false := by rw [List.all_eq_false]; exact ⟨k, by rw [List.mem_range]; omega, by rw [h]; simp⟩
  unfold ticksB; rw [this]; simp
theorem tk_ok (h1 : inR (p.now.tick - p.base.tick) 0 p.ahead = true) (h2 : (p.used.length : Int) = p.now.tick - p.base.tick) (h3 : (p.saves.length : Int) = p.now.tick - p.base.tick) (h4 : ∀ k : Nat, (k : Int) < p.now.tick - p.base.tick → rowAtB p k = true) : ticksB p = tailB p := by
  have : (List.range (p.now.tick - p.base.tick).toNat).all (rowAtB p) = true := by rw [List.all_eq_true]; intro k hk; rw [List.mem_range] at hk; exact h4 k (by omega)
  unfold ticksB; rw [h1, decide_eq_true h2, decide_eq_true h3, this]; rfl
theorem ra_no {k : Nat} (hk : k < p.used.length) (h : rokB (p.tracks.length : Int) p.used[k] = false) : rowAtB p k = false := by
  unfold rowAtB; rw [List.getD_eq_getElem?_getD, List.getElem?_eq_getElem hk, Option.getD_some, h]; rfl
theorem ra_tick {k : Nat} (hk : k < p.saves.length) (h : ¬ p.saves[k].tick = p.base.tick + (k : Int)) : rowAtB p k = false := by
  have e : p.saves.getD k nilSv = p.saves[k] := by rw [List.getD_eq_getElem?_getD, List.getElem?_eq_getElem hk, Option.getD_some]
  unfold rowAtB; rw [e, decide_eq_false h]; simp
theorem ra_ok {k : Nat} (hk : k < p.used.length) (hk2 : k < p.saves.length) (h : rokB (p.tracks.length : Int) p.used[k] = true) (h2 : p.saves[k].tick = p.base.tick + (k : Int)) : rowAtB p k = true := by
  unfold rowAtB; rw [List.getD_eq_getElem?_getD, List.getD_eq_getElem?_getD, List.getElem?_eq_getElem hk, List.getElem?_eq_getElem hk2, Option.getD_some, Option.getD_some, h, decide_eq_true h2]; rfl
theorem tl_k (h : ¬ p.base.tick ≤ knownI p.tracks) : tailB p = false := by unfold tailB; rw [decide_eq_false h]; rfl
theorem tl_m {m : Nat} (hm : m < p.tracks.length) (hme : p.me = (m : Int)) (h : ¬ p.now.tick ≤ (p.tracks[m].length : Int)) : tailB p = false := by
  unfold tailB; rw [hme, Int.toNat_natCast, List.getD_eq_getElem?_getD, List.getElem?_eq_getElem hm, Option.getD_some, decide_eq_false h]; simp
theorem tl_ok {m : Nat} (hm : m < p.tracks.length) (hme : p.me = (m : Int)) (h1 : p.base.tick ≤ knownI p.tracks) (h : p.now.tick ≤ (p.tracks[m].length : Int)) : tailB p = decide ((p.sums.length : Int) = p.base.tick + 1) := by
  unfold tailB; rw [hme, Int.toNat_natCast, List.getD_eq_getElem?_getD, List.getElem?_eq_getElem hm, Option.getD_some, decide_eq_true h, decide_eq_true h1]; rfl
theorem pr_facts (h : peerB p = true) : trksB p.tracks = true ∧ worldB p.base = true ∧ worldB p.now = true ∧ p.base.scores.length = p.tracks.length ∧ p.now.scores.length = p.tracks.length ∧ 0 ≤ p.me ∧ p.me < (p.tracks.length : Int) ∧ 0 ≤ p.now.tick - p.base.tick ∧ (p.used.length : Int) = p.now.tick - p.base.tick ∧ (p.saves.length : Int) = p.now.tick - p.base.tick ∧ p.base.tick ≤ knownI p.tracks ∧ (p.sums.length : Int) = p.base.tick + 1 ∧ rowsB (p.tracks.length : Int) p.used = true := by
  unfold peerB worldsB numbersB ticksB tailB at h
  simp only [Bool.and_eq_true, decide_eq_true_eq, inR_iff] at h
  obtain ⟨h1, ⟨h2, h3, -, h4, h5⟩, ⟨-, h6, -⟩, ⟨h7, h8, h9, h10, h11, -, h12⟩⟩ := h
  refine ⟨h1, h2, h3, by omega, by omega, h6.1, by omega, h7.1, h8, h9, h11, h12, rowsB_ok fun k hk => ?_⟩
  rw [List.all_eq_true] at h10
  have := h10 k (by rw [List.mem_range]; omega)
  unfold rowAtB at this
  rw [Bool.and_eq_true, List.getD_eq_getElem?_getD, List.getElem?_eq_getElem hk, Option.getD_some] at this
  exact this.1
end
set_option maxRecDepth 100000 in
set_option maxHeartbeats 8000000 in
theorem worldsFit_impl {w : World} {p : Pr} {vt bl bs bb nl ns nb vu vv vs : Value} {B : Nat} (hA : w.heap[B]? = some (.cells (prC p vt bl bs bb nl ns nb vu vv vs) 46 (0, 0))) (h : RdPr w p vt bl bs bb nl ns nb vu vv vs) (hs : p.sane) (hf : p.few) :
    Calls Tryz.prog 67 #[.pointer (some ⟨B, 0, none⟩)] w fun e w' => e = .returned (.bool (worldsB p)) ∧ Below w.heap.size w w' := by
  have h0 := h
  obtain ⟨a0, c0, rfl, -⟩ := id h.1
  obtain ⟨a1, c1, rfl, -⟩ := id h.2.1.1
  obtain ⟨a2, c2, rfl, -⟩ := id h.2.1.2.1
  obtain ⟨a3, c3, rfl, -⟩ := id h.2.1.2.2
  obtain ⟨a4, c4, rfl, -⟩ := id h.2.2.1.1
  obtain ⟨a5, c5, rfl, -⟩ := id h.2.2.1.2.1
  obtain ⟨a6, c6, rfl, -⟩ := id h.2.2.1.2.2
  obtain ⟨a7, c7, rfl, -⟩ := id h.2.2.2.1
  obtain ⟨a8, c8, rfl, -⟩ := id h.2.2.2.2.1
  obtain ⟨a9, c9, rfl, -⟩ := id h.2.2.2.2.2
  unfold prC at hA
  have cA := rowCells hA
  have hlA : B < w.heap.size := blockLtP hA
  have ht : (p.tracks.length : Int) ≤ 9223372036854775807 := by have := hs.1.1; omega
  have hb : (p.base.scores.length : Int) ≤ 9223372036854775807 := by have := hs.2.1.2.1; omega
  have hn : (p.now.scores.length : Int) ≤ 9223372036854775807 := by have := hs.2.2.1.2.1; omega
  have hu : (p.used.length : Int) ≤ 9223372036854775807 := by have := hs.2.2.2.1.1; omega
  have hv : (p.saves.length : Int) ≤ 9223372036854775807 := by have := hs.2.2.2.2.1.1; omega
  have hm : (p.sums.length : Int) ≤ 9223372036854775807 := by have := hs.2.2.2.2.2; omega
  have hwb := fun {W : World} (hb : Below w.heap.size w W) => worldOk_impl ((h0.keep hb).2.1) hs.2.1
  have hwn := fun {W : World} (hb : Below w.heap.size w W) => worldOk_impl ((h0.keep hb).2.2.1) hs.2.2.1
  have hws := fun {W : World} (hb : Below w.heap.size w W) => equalS_any ((h0.keep hb).2.1.1) ((h0.keep hb).2.2.1.1) hs.2.1.1.1 hs.2.2.1.1.1
  unfold wdC at hwb hwn
  go_enter Tryz.func67, Tryz.ntmps67
  go_upto_region 2 with (fail)
  have bs_0 : Below w.heap.size w w.drew := belowDrew w 1
  refine wp_region_held_drew (S := (fun w' => (∀ j, w'.cell? ⟨B, j, none⟩ = #[Value.int .i64 p.me, .int .i64 p.delay, .int .i64 p.ahead, .int .i64 p.seed, (.slice a0 p.tracks.length c0), (.slice a1 p.base.rows.length c1), .int .i64 p.base.tick, .int .i64 p.base.seed, (.slice a2 p.base.scores.length c2), (.slice a3 p.base.bods.length c3), (.slice a4 p.now.rows.length c4), .int .i64 p.now.tick, .int .i64 p.now.seed, (.slice a5 p.now.scores.length c5), (.slice a6 p.now.bods.length c6), (.slice a7 p.used.length c7), (.slice a8 p.saves.length c8), (.slice a9 p.sums.length c9), .int .i64 p.fault.tick, .int .i64 p.fault.player, .int .i64 p.fault.add, .int .i64 p.rolls, .int .i64 p.again][j]?))) (by kernel_rfl) ?_ (fun hHeld => ?_)
  · exact rowCells (keepHeap bs_0 hA)
  refine take_on (i := 0) (v := ?_) (some 9) rfl (by kernel_rfl) (by kernel_rfl) (by kernel_rfl) rfl (fun _ _ _ h => h) (by rfl) ?_ (by assumption) ?_
  rotate_left
  · intro w hSw; (try dsimp only at hSw); go_simp; (try with_reducible rfl)
  (try simp only [Act.put, List.setIfInBounds_toArray, List.set_cons_zero, List.set_cons_succ])
  refine take_on (i := 1) (v := ?_) (some 10) rfl (by kernel_rfl) (by kernel_rfl) (by kernel_rfl) rfl (fun _ _ _ h => h) (by rfl) ?_ (by assumption) ?_
  rotate_left
  · intro w hSw; (try dsimp only at hSw); go_simp; (try with_reducible rfl)
  (try simp only [Act.put, List.setIfInBounds_toArray, List.set_cons_zero, List.set_cons_succ])
  refine take_on (i := 2) (v := ?_) (some 11) rfl (by kernel_rfl) (by kernel_rfl) (by kernel_rfl) rfl (fun _ _ _ h => h) (by rfl) ?_ (by assumption) ?_
  rotate_left
  · intro w hSw; (try dsimp only at hSw); go_simp; (try with_reducible rfl)
  (try simp only [Act.put, List.setIfInBounds_toArray, List.set_cons_zero, List.set_cons_succ])
  refine take_on (i := 3) (v := ?_) (some 12) rfl (by kernel_rfl) (by kernel_rfl) (by kernel_rfl) rfl (fun _ _ _ h => h) (by rfl) ?_ (by assumption) ?_
  rotate_left
  · intro w hSw; (try dsimp only at hSw); go_simp; (try with_reducible rfl)
  (try simp only [Act.put, List.setIfInBounds_toArray, List.set_cons_zero, List.set_cons_succ])
  refine wpAnyH_ready (rs := [4]) (by kernel_rfl) (by simp) ?_
  refine AllReadyH.cons rfl (fun K hK => ?_) AllReadyH.nil
  go_simp
  refine (hwb bs_0).mono ?_
  rintro e w_1 ⟨rfl, hb_1⟩
  have bs_1 := bs_0.trans (hb_1.mono bs_0.size)
  cases q1 : worldB p.base with
  | false =>
    have Q1 := Lib.hid q1
    clear q1
    (try go_wp2_with (fail))
    refine hK.out _ _ ?_ (fun hHeld => ?_)
    · exact rowCells (keepHeap bs_1 hA)
    clear hK K
    (try simp only [Act.put, List.setIfInBounds_toArray, List.set_cons_zero, List.set_cons_succ])
    refine take_on (i := 5) (v := ?_) (some 14) rfl (by kernel_rfl) (by kernel_rfl) (by kernel_rfl) rfl (fun _ _ _ h => h) (by rfl) ?_ (by assumption) ?_
    rotate_left
    · intro w hSw; (try dsimp only at hSw); go_simp; (try with_reducible rfl)
    (try simp only [Act.put, List.setIfInBounds_toArray, List.set_cons_zero, List.set_cons_succ])
    refine take_on (i := 6) (v := ?_) (some 15) rfl (by kernel_rfl) (by kernel_rfl) (by kernel_rfl) rfl (fun _ _ _ h => h) (by rfl) ?_ (by assumption) ?_
    rotate_left
    · intro w hSw; (try dsimp only at hSw); go_simp; (try with_reducible rfl)
    (try simp only [Act.put, List.setIfInBounds_toArray, List.set_cons_zero, List.set_cons_succ])
    refine take_off (i := 7) (some 16) rfl (by kernel_rfl) (by kernel_rfl) (by kernel_rfl) rfl (fun _ _ _ h => h) (wanted_off (k := 6) (d := 15) (b := false) (c := true) rfl rfl rfl rfl) (by assumption) ?_
    (try simp only [Act.put, List.setIfInBounds_toArray, List.set_cons_zero, List.set_cons_succ])
    refine take_off (i := 8) (some 17) rfl (by kernel_rfl) (by kernel_rfl) (by kernel_rfl) rfl (fun _ _ _ h => h) (wanted_off (k := 6) (d := 15) (b := false) (c := true) rfl rfl rfl rfl) (by assumption) ?_
    (try simp only [Act.put, List.setIfInBounds_toArray, List.set_cons_zero, List.set_cons_succ])
    refine take_off (i := 9) (some 18) rfl (by kernel_rfl) (by kernel_rfl) (by kernel_rfl) rfl (fun _ _ _ h => h) (wanted_off (k := 6) (d := 15) (b := false) (c := true) rfl rfl rfl rfl) (by assumption) ?_
    (try simp only [Act.put, List.setIfInBounds_toArray, List.set_cons_zero, List.set_cons_succ])
    refine take_off (i := 10) (some 19) rfl (by kernel_rfl) (by kernel_rfl) (by kernel_rfl) rfl (fun _ _ _ h => h) (wanted_off (k := 6) (d := 15) (b := false) (c := true) rfl rfl rfl rfl) (by assumption) ?_
    (try simp only [Act.put, List.setIfInBounds_toArray, List.set_cons_zero, List.set_cons_succ])
    refine take_off (i := 11) (some 20) rfl (by kernel_rfl) (by kernel_rfl) (by kernel_rfl) rfl (fun _ _ _ h => h) (wanted_off (k := 6) (d := 15) (b := false) (c := true) rfl rfl rfl rfl) (by assumption) ?_
    (try simp only [Act.put, List.setIfInBounds_toArray, List.set_cons_zero, List.set_cons_succ])
    refine take_off (i := 12) (some 21) rfl (by kernel_rfl) (by kernel_rfl) (by kernel_rfl) rfl (fun _ _ _ h => h) (wanted_off (k := 6) (d := 15) (b := false) (c := true) rfl rfl rfl rfl) (by assumption) ?_
    (try simp only [Act.put, List.setIfInBounds_toArray, List.set_cons_zero, List.set_cons_succ])
    refine take_on (i := 13) (v := ?_) (some 22) rfl (by kernel_rfl) (by kernel_rfl) (by kernel_rfl) rfl (fun _ _ _ h => h) (by rfl) ?_ (by assumption) ?_
    rotate_left
    · intro w hSw; (try dsimp only at hSw); go_simp; (try with_reducible rfl)
    (try simp only [Act.put, List.setIfInBounds_toArray, List.set_cons_zero, List.set_cons_succ])
    refine take_on (i := 14) (v := ?_) (some 23) rfl (by kernel_rfl) (by kernel_rfl) (by kernel_rfl) rfl (fun _ _ _ h => h) (by rfl) ?_ (by assumption) ?_
    rotate_left
    · intro w hSw; (try dsimp only at hSw); go_simp; (try with_reducible rfl)
    (try simp only [Act.put, List.setIfInBounds_toArray, List.set_cons_zero, List.set_cons_succ])
    refine take_off (i := 15) (some 24) rfl (by kernel_rfl) (by kernel_rfl) (by kernel_rfl) rfl (fun _ _ _ h => h) (wanted_off (k := 14) (d := 23) (b := false) (c := true) rfl rfl rfl rfl) (by assumption) ?_
    (try simp only [Act.put, List.setIfInBounds_toArray, List.set_cons_zero, List.set_cons_succ])
    refine take_off (i := 16) (some 25) rfl (by kernel_rfl) (by kernel_rfl) (by kernel_rfl) rfl (fun _ _ _ h => h) (wanted_off (k := 14) (d := 23) (b := false) (c := true) rfl rfl rfl rfl) (by assumption) ?_
    (try simp only [Act.put, List.setIfInBounds_toArray, List.set_cons_zero, List.set_cons_succ])
    refine take_off (i := 17) (some 26) rfl (by kernel_rfl) (by kernel_rfl) (by kernel_rfl) rfl (fun _ _ _ h => h) (wanted_off (k := 14) (d := 23) (b := false) (c := true) rfl rfl rfl rfl) (by assumption) ?_
    (try simp only [Act.put, List.setIfInBounds_toArray, List.set_cons_zero, List.set_cons_succ])
    refine take_off (i := 18) (some 27) rfl (by kernel_rfl) (by kernel_rfl) (by kernel_rfl) rfl (fun _ _ _ h => h) (wanted_off (k := 14) (d := 23) (b := false) (c := true) rfl rfl rfl rfl) (by assumption) ?_
    (try simp only [Act.put, List.setIfInBounds_toArray, List.set_cons_zero, List.set_cons_succ])
    refine take_off (i := 19) (some 28) rfl (by kernel_rfl) (by kernel_rfl) (by kernel_rfl) rfl (fun _ _ _ h => h) (wanted_off (k := 14) (d := 23) (b := false) (c := true) rfl rfl rfl rfl) (by assumption) ?_
    (try simp only [Act.put, List.setIfInBounds_toArray, List.set_cons_zero, List.set_cons_succ])
    refine take_off (i := 20) (some 29) rfl (by kernel_rfl) (by kernel_rfl) (by kernel_rfl) rfl (fun _ _ _ h => h) (wanted_off (k := 14) (d := 23) (b := false) (c := true) rfl rfl rfl rfl) (by assumption) ?_
    (try simp only [Act.put, List.setIfInBounds_toArray, List.set_cons_zero, List.set_cons_succ])
    refine take_off (i := 21) (some 30) rfl (by kernel_rfl) (by kernel_rfl) (by kernel_rfl) rfl (fun _ _ _ h => h) (wanted_off (k := 14) (d := 23) (b := false) (c := true) rfl rfl rfl rfl) (by assumption) ?_
    (try simp only [Act.put, List.setIfInBounds_toArray, List.set_cons_zero, List.set_cons_succ])
    refine take_off (i := 22) (some 31) rfl (by kernel_rfl) (by kernel_rfl) (by kernel_rfl) rfl (fun _ _ _ h => h) (wanted_off (k := 14) (d := 23) (b := false) (c := true) rfl rfl rfl rfl) (by assumption) ?_
    (try simp only [Act.put, List.setIfInBounds_toArray, List.set_cons_zero, List.set_cons_succ])
    refine take_off (i := 23) (some 32) rfl (by kernel_rfl) (by kernel_rfl) (by kernel_rfl) rfl (fun _ _ _ h => h) (wanted_off (k := 14) (d := 23) (b := false) (c := true) rfl rfl rfl rfl) (by assumption) ?_
    (try simp only [Act.put, List.setIfInBounds_toArray, List.set_cons_zero, List.set_cons_succ])
    refine take_off (i := 24) (some 33) rfl (by kernel_rfl) (by kernel_rfl) (by kernel_rfl) rfl (fun _ _ _ h => h) (wanted_off (k := 14) (d := 23) (b := false) (c := true) rfl rfl rfl rfl) (by assumption) ?_
    (try simp only [Act.put, List.setIfInBounds_toArray, List.set_cons_zero, List.set_cons_succ])
    refine take_off (i := 25) (some 34) rfl (by kernel_rfl) (by kernel_rfl) (by kernel_rfl) rfl (fun _ _ _ h => h) (wanted_off (k := 14) (d := 23) (b := false) (c := true) rfl rfl rfl rfl) (by assumption) ?_
    (try simp only [Act.put, List.setIfInBounds_toArray, List.set_cons_zero, List.set_cons_succ])
    refine take_off (i := 26) (some 35) rfl (by kernel_rfl) (by kernel_rfl) (by kernel_rfl) rfl (fun _ _ _ h => h) (wanted_off (k := 14) (d := 23) (b := false) (c := true) rfl rfl rfl rfl) (by assumption) ?_
    (try simp only [Act.put, List.setIfInBounds_toArray, List.set_cons_zero, List.set_cons_succ])
    refine take_off (i := 27) (some 36) rfl (by kernel_rfl) (by kernel_rfl) (by kernel_rfl) rfl (fun _ _ _ h => h) (wanted_off (k := 14) (d := 23) (b := false) (c := true) rfl rfl rfl rfl) (by assumption) ?_
    (try simp only [Act.put, List.setIfInBounds_toArray, List.set_cons_zero, List.set_cons_succ])
    refine take_off (i := 28) (some 37) rfl (by kernel_rfl) (by kernel_rfl) (by kernel_rfl) rfl (fun _ _ _ h => h) (wanted_off (k := 14) (d := 23) (b := false) (c := true) rfl rfl rfl rfl) (by assumption) ?_
    (try simp only [Act.put, List.setIfInBounds_toArray, List.set_cons_zero, List.set_cons_succ])
    refine take_on (i := 29) (v := ?_) (some 38) rfl (by kernel_rfl) (by kernel_rfl) (by kernel_rfl) rfl (fun _ _ _ h => h) (by rfl) ?_ (by assumption) ?_
    rotate_left
    · intro w hSw; (try dsimp only at hSw); go_simp; (try with_reducible rfl)
    (try simp only [Act.put, List.setIfInBounds_toArray, List.set_cons_zero, List.set_cons_succ])
    refine wpAnyH_done (by kernel_rfl) ?_ _
    have HF := Lib.hid (ws_b Q1.out)
    go_wp2_with (fail)
    go_ret
    exact ⟨by rw [HF.out]; rfl, bs_1⟩
  | true =>
    have Q1 := Lib.hid q1
    clear q1
    (try go_wp2_with (fail))
    refine hK.out _ _ ?_ (fun hHeld => ?_)
    · exact rowCells (keepHeap bs_1 hA)
    clear hK K
    (try simp only [Act.put, List.setIfInBounds_toArray, List.set_cons_zero, List.set_cons_succ])
    refine take_on (i := 5) (v := ?_) (some 14) rfl (by kernel_rfl) (by kernel_rfl) (by kernel_rfl) rfl (fun _ _ _ h => h) (by rfl) ?_ (by assumption) ?_
    rotate_left
    · intro w hSw; (try dsimp only at hSw); go_simp; (try with_reducible rfl)
    (try simp only [Act.put, List.setIfInBounds_toArray, List.set_cons_zero, List.set_cons_succ])
    refine take_on (i := 6) (v := ?_) (some 15) rfl (by kernel_rfl) (by kernel_rfl) (by kernel_rfl) rfl (fun _ _ _ h => h) (by rfl) ?_ (by assumption) ?_
    rotate_left
    · intro w hSw; (try dsimp only at hSw); go_simp; (try with_reducible rfl)
    (try simp only [Act.put, List.setIfInBounds_toArray, List.set_cons_zero, List.set_cons_succ])
    refine take_on (i := 7) (v := ?_) (some 16) rfl (by kernel_rfl) (by kernel_rfl) (by kernel_rfl) rfl (fun _ _ _ h => h) (wanted_on (k := 6) (d := 15) (b := false) rfl rfl rfl) ?_ (by assumption) ?_
    rotate_left
    · intro w hSw; (try dsimp only at hSw); go_simp; (try with_reducible rfl)
    (try simp only [Act.put, List.setIfInBounds_toArray, List.set_cons_zero, List.set_cons_succ])
    refine take_on (i := 8) (v := ?_) (some 17) rfl (by kernel_rfl) (by kernel_rfl) (by kernel_rfl) rfl (fun _ _ _ h => h) (wanted_on (k := 6) (d := 15) (b := false) rfl rfl rfl) ?_ (by assumption) ?_
    rotate_left
    · intro w hSw; (try dsimp only at hSw); go_simp; (try with_reducible rfl)
    (try simp only [Act.put, List.setIfInBounds_toArray, List.set_cons_zero, List.set_cons_succ])
    refine take_on (i := 9) (v := ?_) (some 18) rfl (by kernel_rfl) (by kernel_rfl) (by kernel_rfl) rfl (fun _ _ _ h => h) (wanted_on (k := 6) (d := 15) (b := false) rfl rfl rfl) ?_ (by assumption) ?_
    rotate_left
    · intro w hSw; (try dsimp only at hSw); go_simp; (try with_reducible rfl)
    (try simp only [Act.put, List.setIfInBounds_toArray, List.set_cons_zero, List.set_cons_succ])
    refine take_on (i := 10) (v := ?_) (some 19) rfl (by kernel_rfl) (by kernel_rfl) (by kernel_rfl) rfl (fun _ _ _ h => h) (wanted_on (k := 6) (d := 15) (b := false) rfl rfl rfl) ?_ (by assumption) ?_
    rotate_left
    · intro w hSw; (try dsimp only at hSw); go_simp; (try with_reducible rfl)
    (try simp only [Act.put, List.setIfInBounds_toArray, List.set_cons_zero, List.set_cons_succ])
    refine wpAnyH_ready (rs := [11]) (by kernel_rfl) (by simp) ?_
    refine AllReadyH.cons rfl (fun K hK => ?_) AllReadyH.nil
    go_simp
    refine (hwn bs_1).mono ?_
    rintro e w_2 ⟨rfl, hb_2⟩
    have bs_2 := bs_1.trans (hb_2.mono bs_1.size)
    cases q2 : worldB p.now with
    | false =>
      have Q2 := Lib.hid q2
      clear q2
      (try go_wp2_with (fail))
      refine hK.out _ _ ?_ (fun hHeld => ?_)
      · exact rowCells (keepHeap bs_2 hA)
      clear hK K
      (try simp only [Act.put, List.setIfInBounds_toArray, List.set_cons_zero, List.set_cons_succ])
      refine take_on (i := 12) (v := ?_) (some 21) rfl (by kernel_rfl) (by kernel_rfl) (by kernel_rfl) rfl (fun _ _ _ h => h) (wanted_on (k := 6) (d := 15) (b := false) rfl rfl rfl) ?_ (by assumption) ?_
      rotate_left
      · intro w hSw; (try dsimp only at hSw); go_simp; (try with_reducible rfl)
      (try simp only [Act.put, List.setIfInBounds_toArray, List.set_cons_zero, List.set_cons_succ])
      refine take_on (i := 13) (v := ?_) (some 22) rfl (by kernel_rfl) (by kernel_rfl) (by kernel_rfl) rfl (fun _ _ _ h => h) (by rfl) ?_ (by assumption) ?_
      rotate_left
      · intro w hSw; (try dsimp only at hSw); go_simp; (try with_reducible rfl)
      (try simp only [Act.put, List.setIfInBounds_toArray, List.set_cons_zero, List.set_cons_succ])
      refine take_on (i := 14) (v := ?_) (some 23) rfl (by kernel_rfl) (by kernel_rfl) (by kernel_rfl) rfl (fun _ _ _ h => h) (by rfl) ?_ (by assumption) ?_
      rotate_left
      · intro w hSw; (try dsimp only at hSw); go_simp; (try with_reducible rfl)
      (try simp only [Act.put, List.setIfInBounds_toArray, List.set_cons_zero, List.set_cons_succ])
      refine take_off (i := 15) (some 24) rfl (by kernel_rfl) (by kernel_rfl) (by kernel_rfl) rfl (fun _ _ _ h => h) (wanted_off (k := 14) (d := 23) (b := false) (c := true) rfl rfl rfl rfl) (by assumption) ?_
      (try simp only [Act.put, List.setIfInBounds_toArray, List.set_cons_zero, List.set_cons_succ])
      refine take_off (i := 16) (some 25) rfl (by kernel_rfl) (by kernel_rfl) (by kernel_rfl) rfl (fun _ _ _ h => h) (wanted_off (k := 14) (d := 23) (b := false) (c := true) rfl rfl rfl rfl) (by assumption) ?_
      (try simp only [Act.put, List.setIfInBounds_toArray, List.set_cons_zero, List.set_cons_succ])
      refine take_off (i := 17) (some 26) rfl (by kernel_rfl) (by kernel_rfl) (by kernel_rfl) rfl (fun _ _ _ h => h) (wanted_off (k := 14) (d := 23) (b := false) (c := true) rfl rfl rfl rfl) (by assumption) ?_
      (try simp only [Act.put, List.setIfInBounds_toArray, List.set_cons_zero, List.set_cons_succ])
      refine take_off (i := 18) (some 27) rfl (by kernel_rfl) (by kernel_rfl) (by kernel_rfl) rfl (fun _ _ _ h => h) (wanted_off (k := 14) (d := 23) (b := false) (c := true) rfl rfl rfl rfl) (by assumption) ?_
      (try simp only [Act.put, List.setIfInBounds_toArray, List.set_cons_zero, List.set_cons_succ])
      refine take_off (i := 19) (some 28) rfl (by kernel_rfl) (by kernel_rfl) (by kernel_rfl) rfl (fun _ _ _ h => h) (wanted_off (k := 14) (d := 23) (b := false) (c := true) rfl rfl rfl rfl) (by assumption) ?_
      (try simp only [Act.put, List.setIfInBounds_toArray, List.set_cons_zero, List.set_cons_succ])
      refine take_off (i := 20) (some 29) rfl (by kernel_rfl) (by kernel_rfl) (by kernel_rfl) rfl (fun _ _ _ h => h) (wanted_off (k := 14) (d := 23) (b := false) (c := true) rfl rfl rfl rfl) (by assumption) ?_
      (try simp only [Act.put, List.setIfInBounds_toArray, List.set_cons_zero, List.set_cons_succ])
      refine take_off (i := 21) (some 30) rfl (by kernel_rfl) (by kernel_rfl) (by kernel_rfl) rfl (fun _ _ _ h => h) (wanted_off (k := 14) (d := 23) (b := false) (c := true) rfl rfl rfl rfl) (by assumption) ?_
      (try simp only [Act.put, List.setIfInBounds_toArray, List.set_cons_zero, List.set_cons_succ])
      refine take_off (i := 22) (some 31) rfl (by kernel_rfl) (by kernel_rfl) (by kernel_rfl) rfl (fun _ _ _ h => h) (wanted_off (k := 14) (d := 23) (b := false) (c := true) rfl rfl rfl rfl) (by assumption) ?_
      (try simp only [Act.put, List.setIfInBounds_toArray, List.set_cons_zero, List.set_cons_succ])
      refine take_off (i := 23) (some 32) rfl (by kernel_rfl) (by kernel_rfl) (by kernel_rfl) rfl (fun _ _ _ h => h) (wanted_off (k := 14) (d := 23) (b := false) (c := true) rfl rfl rfl rfl) (by assumption) ?_
      (try simp only [Act.put, List.setIfInBounds_toArray, List.set_cons_zero, List.set_cons_succ])
      refine take_off (i := 24) (some 33) rfl (by kernel_rfl) (by kernel_rfl) (by kernel_rfl) rfl (fun _ _ _ h => h) (wanted_off (k := 14) (d := 23) (b := false) (c := true) rfl rfl rfl rfl) (by assumption) ?_
      (try simp only [Act.put, List.setIfInBounds_toArray, List.set_cons_zero, List.set_cons_succ])
      refine take_off (i := 25) (some 34) rfl (by kernel_rfl) (by kernel_rfl) (by kernel_rfl) rfl (fun _ _ _ h => h) (wanted_off (k := 14) (d := 23) (b := false) (c := true) rfl rfl rfl rfl) (by assumption) ?_
      (try simp only [Act.put, List.setIfInBounds_toArray, List.set_cons_zero, List.set_cons_succ])
      refine take_off (i := 26) (some 35) rfl (by kernel_rfl) (by kernel_rfl) (by kernel_rfl) rfl (fun _ _ _ h => h) (wanted_off (k := 14) (d := 23) (b := false) (c := true) rfl rfl rfl rfl) (by assumption) ?_
      (try simp only [Act.put, List.setIfInBounds_toArray, List.set_cons_zero, List.set_cons_succ])
      refine take_off (i := 27) (some 36) rfl (by kernel_rfl) (by kernel_rfl) (by kernel_rfl) rfl (fun _ _ _ h => h) (wanted_off (k := 14) (d := 23) (b := false) (c := true) rfl rfl rfl rfl) (by assumption) ?_
      (try simp only [Act.put, List.setIfInBounds_toArray, List.set_cons_zero, List.set_cons_succ])
      refine take_off (i := 28) (some 37) rfl (by kernel_rfl) (by kernel_rfl) (by kernel_rfl) rfl (fun _ _ _ h => h) (wanted_off (k := 14) (d := 23) (b := false) (c := true) rfl rfl rfl rfl) (by assumption) ?_
      (try simp only [Act.put, List.setIfInBounds_toArray, List.set_cons_zero, List.set_cons_succ])
      refine take_on (i := 29) (v := ?_) (some 38) rfl (by kernel_rfl) (by kernel_rfl) (by kernel_rfl) rfl (fun _ _ _ h => h) (by rfl) ?_ (by assumption) ?_
      rotate_left
      · intro w hSw; (try dsimp only at hSw); go_simp; (try with_reducible rfl)
      (try simp only [Act.put, List.setIfInBounds_toArray, List.set_cons_zero, List.set_cons_succ])
      refine wpAnyH_done (by kernel_rfl) ?_ _
      have HF := Lib.hid (ws_n Q2.out)
      go_wp2_with (fail)
      go_ret
      exact ⟨by rw [HF.out]; rfl, bs_2⟩
    | true =>
      have Q2 := Lib.hid q2
      clear q2
      (try go_wp2_with (fail))
      refine hK.out _ _ ?_ (fun hHeld => ?_)
      · exact rowCells (keepHeap bs_2 hA)
      clear hK K
      (try simp only [Act.put, List.setIfInBounds_toArray, List.set_cons_zero, List.set_cons_succ])
      refine take_on (i := 12) (v := ?_) (some 21) rfl (by kernel_rfl) (by kernel_rfl) (by kernel_rfl) rfl (fun _ _ _ h => h) (wanted_on (k := 6) (d := 15) (b := false) rfl rfl rfl) ?_ (by assumption) ?_
      rotate_left
      · intro w hSw; (try dsimp only at hSw); go_simp; (try with_reducible rfl)
      (try simp only [Act.put, List.setIfInBounds_toArray, List.set_cons_zero, List.set_cons_succ])
      refine take_on (i := 13) (v := ?_) (some 22) rfl (by kernel_rfl) (by kernel_rfl) (by kernel_rfl) rfl (fun _ _ _ h => h) (by rfl) ?_ (by assumption) ?_
      rotate_left
      · intro w hSw; (try dsimp only at hSw); go_simp; (try with_reducible rfl)
      (try simp only [Act.put, List.setIfInBounds_toArray, List.set_cons_zero, List.set_cons_succ])
      refine take_on (i := 14) (v := ?_) (some 23) rfl (by kernel_rfl) (by kernel_rfl) (by kernel_rfl) rfl (fun _ _ _ h => h) (by rfl) ?_ (by assumption) ?_
      rotate_left
      · intro w hSw; (try dsimp only at hSw); go_simp; (try with_reducible rfl)
      (try simp only [Act.put, List.setIfInBounds_toArray, List.set_cons_zero, List.set_cons_succ])
      refine take_on (i := 15) (v := ?_) (some 24) rfl (by kernel_rfl) (by kernel_rfl) (by kernel_rfl) rfl (fun _ _ _ h => h) (wanted_on (k := 14) (d := 23) (b := false) rfl rfl rfl) ?_ (by assumption) ?_
      rotate_left
      · intro w hSw; (try dsimp only at hSw); go_simp; (try with_reducible rfl)
      (try simp only [Act.put, List.setIfInBounds_toArray, List.set_cons_zero, List.set_cons_succ])
      refine take_on (i := 16) (v := ?_) (some 25) rfl (by kernel_rfl) (by kernel_rfl) (by kernel_rfl) rfl (fun _ _ _ h => h) (wanted_on (k := 14) (d := 23) (b := false) rfl rfl rfl) ?_ (by assumption) ?_
      rotate_left
      · intro w hSw; (try dsimp only at hSw); go_simp; (try with_reducible rfl)
      (try simp only [Act.put, List.setIfInBounds_toArray, List.set_cons_zero, List.set_cons_succ])
      refine take_on (i := 17) (v := ?_) (some 26) rfl (by kernel_rfl) (by kernel_rfl) (by kernel_rfl) rfl (fun _ _ _ h => h) (wanted_on (k := 14) (d := 23) (b := false) rfl rfl rfl) ?_ (by assumption) ?_
      rotate_left
      · intro w hSw; (try dsimp only at hSw); go_simp; (try with_reducible rfl)
      (try simp only [Act.put, List.setIfInBounds_toArray, List.set_cons_zero, List.set_cons_succ])
      refine take_on (i := 18) (v := ?_) (some 27) rfl (by kernel_rfl) (by kernel_rfl) (by kernel_rfl) rfl (fun _ _ _ h => h) (wanted_on (k := 14) (d := 23) (b := false) rfl rfl rfl) ?_ (by assumption) ?_
      rotate_left
      · intro w hSw; (try dsimp only at hSw); go_simp; (try with_reducible rfl)
      (try simp only [Act.put, List.setIfInBounds_toArray, List.set_cons_zero, List.set_cons_succ])
      refine take_on (i := 19) (v := ?_) (some 28) rfl (by kernel_rfl) (by kernel_rfl) (by kernel_rfl) rfl (fun _ _ _ h => h) (wanted_on (k := 14) (d := 23) (b := false) rfl rfl rfl) ?_ (by assumption) ?_
      rotate_left
      · intro w hSw; (try dsimp only at hSw); go_simp; (try with_reducible rfl)
      (try simp only [Act.put, List.setIfInBounds_toArray, List.set_cons_zero, List.set_cons_succ])
      refine take_on (i := 20) (v := ?_) (some 29) rfl (by kernel_rfl) (by kernel_rfl) (by kernel_rfl) rfl (fun _ _ _ h => h) (wanted_on (k := 14) (d := 23) (b := false) rfl rfl rfl) ?_ (by assumption) ?_
      rotate_left
      · intro w hSw; (try dsimp only at hSw); go_simp; (try with_reducible rfl)
      (try simp only [Act.put, List.setIfInBounds_toArray, List.set_cons_zero, List.set_cons_succ])
      refine take_on (i := 21) (v := ?_) (some 30) rfl (by kernel_rfl) (by kernel_rfl) (by kernel_rfl) rfl (fun _ _ _ h => h) (wanted_on (k := 14) (d := 23) (b := false) rfl rfl rfl) ?_ (by assumption) ?_
      rotate_left
      · intro w hSw; (try dsimp only at hSw); go_simp; (try with_reducible rfl)
      (try simp only [Act.put, List.setIfInBounds_toArray, List.set_cons_zero, List.set_cons_succ])
      refine take_on (i := 22) (v := ?_) (some 31) rfl (by kernel_rfl) (by kernel_rfl) (by kernel_rfl) rfl (fun _ _ _ h => h) (wanted_on (k := 14) (d := 23) (b := false) rfl rfl rfl) ?_ (by assumption) ?_
      rotate_left
      · intro w hSw; (try dsimp only at hSw); go_simp; (try with_reducible rfl)
      (try simp only [Act.put, List.setIfInBounds_toArray, List.set_cons_zero, List.set_cons_succ])
      refine take_on (i := 23) (v := ?_) (some 32) rfl (by kernel_rfl) (by kernel_rfl) (by kernel_rfl) rfl (fun _ _ _ h => h) (wanted_on (k := 14) (d := 23) (b := false) rfl rfl rfl) ?_ (by assumption) ?_
      rotate_left
      · intro w hSw; (try dsimp only at hSw); go_simp; (try with_reducible rfl)
      (try simp only [Act.put, List.setIfInBounds_toArray, List.set_cons_zero, List.set_cons_succ])
      refine take_on (i := 24) (v := ?_) (some 33) rfl (by kernel_rfl) (by kernel_rfl) (by kernel_rfl) rfl (fun _ _ _ h => h) (wanted_on (k := 14) (d := 23) (b := false) rfl rfl rfl) ?_ (by assumption) ?_
      rotate_left
      · intro w hSw; (try dsimp only at hSw); go_simp; (try with_reducible rfl)
      (try simp only [Act.put, List.setIfInBounds_toArray, List.set_cons_zero, List.set_cons_succ])
      refine take_on (i := 25) (v := ?_) (some 34) rfl (by kernel_rfl) (by kernel_rfl) (by kernel_rfl) rfl (fun _ _ _ h => h) (wanted_on (k := 14) (d := 23) (b := false) rfl rfl rfl) ?_ (by assumption) ?_
      rotate_left
      · intro w hSw; (try dsimp only at hSw); go_simp; (try with_reducible rfl)
      (try simp only [Act.put, List.setIfInBounds_toArray, List.set_cons_zero, List.set_cons_succ])
      refine take_on (i := 26) (v := ?_) (some 35) rfl (by kernel_rfl) (by kernel_rfl) (by kernel_rfl) rfl (fun _ _ _ h => h) (wanted_on (k := 14) (d := 23) (b := false) rfl rfl rfl) ?_ (by assumption) ?_
      rotate_left
      · intro w hSw; (try dsimp only at hSw); go_simp; (try with_reducible rfl)
      (try simp only [Act.put, List.setIfInBounds_toArray, List.set_cons_zero, List.set_cons_succ])
      refine wpAnyH_ready (rs := [27]) (by kernel_rfl) (by simp) ?_
      refine AllReadyH.cons rfl (fun K hK => ?_) AllReadyH.nil
      go_simp
      refine (hws bs_2).mono ?_
      rintro e w_3 ⟨rfl, hb_3⟩
      have bs_3 := bs_2.trans (hb_3.mono bs_2.size)
      cases q3 : sg p.base.rows p.now.rows with
      | false =>
        have Q3 := Lib.hid q3
        clear q3
        (try go_wp2_with (fail))
        refine hK.out _ _ ?_ (fun hHeld => ?_)
        · exact rowCells (keepHeap bs_3 hA)
        clear hK K
        (try simp only [Act.put, List.setIfInBounds_toArray, List.set_cons_zero, List.set_cons_succ])
        refine take_on (i := 28) (v := ?_) (some 37) rfl (by kernel_rfl) (by kernel_rfl) (by kernel_rfl) rfl (fun _ _ _ h => h) (wanted_on (k := 14) (d := 23) (b := false) rfl rfl rfl) ?_ (by assumption) ?_
        rotate_left
        · intro w hSw; (try dsimp only at hSw); go_simp; (try with_reducible rfl)
        (try simp only [Act.put, List.setIfInBounds_toArray, List.set_cons_zero, List.set_cons_succ])
        refine take_on (i := 29) (v := ?_) (some 38) rfl (by kernel_rfl) (by kernel_rfl) (by kernel_rfl) rfl (fun _ _ _ h => h) (by rfl) ?_ (by assumption) ?_
        rotate_left
        · intro w hSw; (try dsimp only at hSw); go_simp; (try with_reducible rfl)
        (try simp only [Act.put, List.setIfInBounds_toArray, List.set_cons_zero, List.set_cons_succ])
        refine wpAnyH_done (by kernel_rfl) ?_ _
        have HF := Lib.hid (ws_l Q3.out)
        go_wp2_with (fail)
        go_ret
        exact ⟨by rw [HF.out]; rfl, bs_3⟩
      | true =>
        have Q3 := Lib.hid q3
        clear q3
        (try go_wp2_with (fail))
        refine hK.out _ _ ?_ (fun hHeld => ?_)
        · exact rowCells (keepHeap bs_3 hA)
        clear hK K
        (try simp only [Act.put, List.setIfInBounds_toArray, List.set_cons_zero, List.set_cons_succ])
        refine take_on (i := 28) (v := ?_) (some 37) rfl (by kernel_rfl) (by kernel_rfl) (by kernel_rfl) rfl (fun _ _ _ h => h) (wanted_on (k := 14) (d := 23) (b := false) rfl rfl rfl) ?_ (by assumption) ?_
        rotate_left
        · intro w hSw; (try dsimp only at hSw); go_simp; (try with_reducible rfl)
        (try simp only [Act.put, List.setIfInBounds_toArray, List.set_cons_zero, List.set_cons_succ])
        refine take_on (i := 29) (v := ?_) (some 38) rfl (by kernel_rfl) (by kernel_rfl) (by kernel_rfl) rfl (fun _ _ _ h => h) (by rfl) ?_ (by assumption) ?_
        rotate_left
        · intro w hSw; (try dsimp only at hSw); go_simp; (try with_reducible rfl)
        (try simp only [Act.put, List.setIfInBounds_toArray, List.set_cons_zero, List.set_cons_succ])
        refine wpAnyH_done (by kernel_rfl) ?_ _
        have cZ := rowCells (keepHeap bs_3 hA)
        by_cases e1 : (p.base.scores.length : Int) = (p.tracks.length : Int)
        · have z1 : ((p.base.scores.length : Int) == (p.tracks.length : Int)) = true := by simpa using e1
          by_cases e2 : (p.now.scores.length : Int) = (p.tracks.length : Int)
          · have z2 : ((p.now.scores.length : Int) == (p.tracks.length : Int)) = true := by simpa using e2
            have HF := Lib.hid (ws_ok Q1.out Q2.out Q3.out e1 e2)
            clear e1 e2
            go_wp2_with (fail)
            go_ret
            exact ⟨by rw [HF.out]; rfl, bs_3⟩
          · have z2 : ((p.now.scores.length : Int) == (p.tracks.length : Int)) = false := by simpa using e2
            have HF := Lib.hid (ws_2 e2)
            clear e1 e2
            go_wp2_with (fail)
            go_ret
            exact ⟨by rw [HF.out]; rfl, bs_3⟩
        · have z1 : ((p.base.scores.length : Int) == (p.tracks.length : Int)) = false := by simpa using e1
          have HF := Lib.hid (ws_1 e1)
          clear e1
          go_wp2_with (fail)
          go_ret
          exact ⟨by rw [HF.out]; rfl, bs_3⟩
theorem RdI.two2 (W : World) (a b : Int) (t : TypeId) : RdI (W.alloc (.cells #[.int .i64 a, .int .i64 b] t)) (.slice (some ⟨W.heap.size, 0, none⟩) 2 2) [a, b] := by
  refine ⟨_, _, rfl, .inr ⟨_, 0, rfl, fun j hj => ?_⟩⟩
  rw [World.cell?_alloc_mark]
  match j, hj with
  | 0, _ => rfl
  | 1, _ => rfl
set_option maxRecDepth 100000 in
set_option maxHeartbeats 8000000 in
theorem numbersFit_impl {w : World} {p : Pr} {vt bl bs bb nl ns nb vu vv vs : Value} {B : Nat} (hA : w.heap[B]? = some (.cells (prC p vt bl bs bb nl ns nb vu vv vs) 46 (0, 0))) (h : RdPr w p vt bl bs bb nl ns nb vu vv vs) (hs : p.sane) (hf : p.few) :
    Calls Tryz.prog 68 #[.pointer (some ⟨B, 0, none⟩)] w fun e w' => e = .returned (.bool (numbersB p)) ∧ Below w.heap.size w w' := by
  have h0 := h
  obtain ⟨a0, c0, rfl, -⟩ := id h.1
  obtain ⟨a1, c1, rfl, -⟩ := id h.2.1.1
  obtain ⟨a2, c2, rfl, -⟩ := id h.2.1.2.1
  obtain ⟨a3, c3, rfl, -⟩ := id h.2.1.2.2
  obtain ⟨a4, c4, rfl, -⟩ := id h.2.2.1.1
  obtain ⟨a5, c5, rfl, -⟩ := id h.2.2.1.2.1
  obtain ⟨a6, c6, rfl, -⟩ := id h.2.2.1.2.2
  obtain ⟨a7, c7, rfl, -⟩ := id h.2.2.2.1
  obtain ⟨a8, c8, rfl, -⟩ := id h.2.2.2.2.1
  obtain ⟨a9, c9, rfl, -⟩ := id h.2.2.2.2.2
  unfold prC at hA
  have cA := rowCells hA
  have hlA : B < w.heap.size := blockLtP hA
  have ht : (p.tracks.length : Int) ≤ 9223372036854775807 := by have := hs.1.1; omega
  have hb : (p.base.scores.length : Int) ≤ 9223372036854775807 := by have := hs.2.1.2.1; omega
  have hn : (p.now.scores.length : Int) ≤ 9223372036854775807 := by have := hs.2.2.1.2.1; omega
  have hu : (p.used.length : Int) ≤ 9223372036854775807 := by have := hs.2.2.2.1.1; omega
  have hv : (p.saves.length : Int) ≤ 9223372036854775807 := by have := hs.2.2.2.2.1.1; omega
  have hm : (p.sums.length : Int) ≤ 9223372036854775807 := by have := hs.2.2.2.2.2; omega
  have hfo := fun W => faultOk_impl p.fault (p.tracks.length : Int) W
  unfold ftV at hfo
  go_enter Tryz.func68, Tryz.ntmps68
  go_wp2_with (fail)
  refine (hfo _).mono ?_
  rintro e w1 ⟨rfl, hb01⟩
  have hA1 := keepHeap hb01 hA
  have cA1 := rowCells hA1
  clear cA
  cases q1 : faultB p.fault (p.tracks.length : Int) with
  | false =>
    have HF := Lib.hid (ns_f q1)
    clear q1
    go_wp2_with (fail)
    go_ret
    exact ⟨by rw [HF.out]; rfl, hb01⟩
  | true =>
  have Q1 := Lib.hid q1
  clear q1
  go_wp2_with (fail)
  refine (within_impl _ _ _ _).mono ?_
  rintro e w2 ⟨rfl, rfl⟩
  cases q2 : inR p.me 0 ((p.tracks.length : Int) - 1) with
  | false =>
    have HF := Lib.hid (ns_m q2)
    clear q2
    go_wp2_with (fail)
    go_ret
    exact ⟨by rw [HF.out]; rfl, hb01⟩
  | true =>
  have Q2 := Lib.hid q2
  clear q2
  go_wp2_with (fail)
  refine (within_impl _ _ _ _).mono ?_
  rintro e w2 ⟨rfl, rfl⟩
  cases q3 : inR p.delay 0 5 with
  | false =>
    have HF := Lib.hid (ns_d q3)
    clear q3
    go_wp2_with (fail)
    go_ret
    exact ⟨by rw [HF.out]; rfl, hb01⟩
  | true =>
  have Q3 := Lib.hid q3
  clear q3
  go_upto_region 4 with (fail)
  have bs_0 : Below w1.heap.size w1 w1.drew := belowDrew w1 1
  refine wp_region_held_drew (S := (fun w' => (∀ j, w'.cell? ⟨B, j, none⟩ = #[Value.int .i64 p.me, .int .i64 p.delay, .int .i64 p.ahead, .int .i64 p.seed, (.slice a0 p.tracks.length c0), (.slice a1 p.base.rows.length c1), .int .i64 p.base.tick, .int .i64 p.base.seed, (.slice a2 p.base.scores.length c2), (.slice a3 p.base.bods.length c3), (.slice a4 p.now.rows.length c4), .int .i64 p.now.tick, .int .i64 p.now.seed, (.slice a5 p.now.scores.length c5), (.slice a6 p.now.bods.length c6), (.slice a7 p.used.length c7), (.slice a8 p.saves.length c8), (.slice a9 p.sums.length c9), .int .i64 p.fault.tick, .int .i64 p.fault.player, .int .i64 p.fault.add, .int .i64 p.rolls, .int .i64 p.again][j]?))) (by kernel_rfl) ?_ (fun hHeld => ?_)
  · exact rowCells (keepHeap bs_0 hA1)
  refine take_on (i := 0) (v := ?_) (some 34) rfl (by kernel_rfl) (by kernel_rfl) (by kernel_rfl) rfl (fun _ _ _ h => h) (by rfl) ?_ (by assumption) ?_
  rotate_left
  · intro w hSw; (try dsimp only at hSw); go_simp; (try with_reducible rfl)
  (try simp only [Act.put, List.setIfInBounds_toArray, List.set_cons_zero, List.set_cons_succ])
  refine take_on (i := 1) (v := ?_) (some 35) rfl (by kernel_rfl) (by kernel_rfl) (by kernel_rfl) rfl (fun _ _ _ h => h) (by rfl) ?_ (by assumption) ?_
  rotate_left
  · intro w hSw; (try dsimp only at hSw); go_simp; (try with_reducible rfl)
  (try simp only [Act.put, List.setIfInBounds_toArray, List.set_cons_zero, List.set_cons_succ])
  refine take_on (i := 2) (v := ?_) (some 36) rfl (by kernel_rfl) (by kernel_rfl) (by kernel_rfl) rfl (fun _ _ _ h => h) (by rfl) ?_ (by assumption) ?_
  rotate_left
  · intro w hSw; (try dsimp only at hSw); go_simp; (try with_reducible rfl)
  (try simp only [Act.put, List.setIfInBounds_toArray, List.set_cons_zero, List.set_cons_succ])
  refine take_on (i := 3) (v := ?_) (some 37) rfl (by kernel_rfl) (by kernel_rfl) (by kernel_rfl) rfl (fun _ _ _ h => h) (by rfl) ?_ (by assumption) ?_
  rotate_left
  · intro w hSw; (try dsimp only at hSw); go_simp; (try with_reducible rfl)
  (try simp only [Act.put, List.setIfInBounds_toArray, List.set_cons_zero, List.set_cons_succ])
  refine wpAnyH_ready (rs := [4]) (by kernel_rfl) (by simp) ?_
  refine AllReadyH.cons rfl (fun K hK => ?_) AllReadyH.nil
  go_simp
  refine (within_impl _ _ _ _).mono ?_
  rintro e w_x ⟨rfl, rfl⟩
  cases q4 : inR p.ahead 1 8 with
  | false =>
    have Q4 := Lib.hid q4
    clear q4
    (try go_wp2_with (fail))
    refine hK.out _ _ ?_ (fun hHeld => ?_)
    · exact rowCells (keepHeap bs_0 hA1)
    clear hK K
    (try simp only [Act.put, List.setIfInBounds_toArray, List.set_cons_zero, List.set_cons_succ])
    refine take_on (i := 5) (v := ?_) (some 39) rfl (by kernel_rfl) (by kernel_rfl) (by kernel_rfl) rfl (fun _ _ _ h => h) (by rfl) ?_ (by assumption) ?_
    rotate_left
    · intro w hSw; (try dsimp only at hSw); go_simp; (try with_reducible rfl)
    (try simp only [Act.put, List.setIfInBounds_toArray, List.set_cons_zero, List.set_cons_succ])
    refine take_off (i := 6) (some 40) rfl (by kernel_rfl) (by kernel_rfl) (by kernel_rfl) rfl (fun _ _ _ h => h) (wanted_off (k := 5) (d := 39) (b := true) (c := false) rfl rfl rfl rfl) (by assumption) ?_
    (try simp only [Act.put, List.setIfInBounds_toArray, List.set_cons_zero, List.set_cons_succ])
    refine take_off (i := 7) (some 41) rfl (by kernel_rfl) (by kernel_rfl) (by kernel_rfl) rfl (fun _ _ _ h => h) (wanted_off (k := 5) (d := 39) (b := true) (c := false) rfl rfl rfl rfl) (by assumption) ?_
    (try simp only [Act.put, List.setIfInBounds_toArray, List.set_cons_zero, List.set_cons_succ])
    refine take_off (i := 8) (some 42) rfl (by kernel_rfl) (by kernel_rfl) (by kernel_rfl) rfl (fun _ _ _ h => h) (wanted_off (k := 5) (d := 39) (b := true) (c := false) rfl rfl rfl rfl) (by assumption) ?_
    (try simp only [Act.put, List.setIfInBounds_toArray, List.set_cons_zero, List.set_cons_succ])
    refine take_off (i := 9) (some 43) rfl (by kernel_rfl) (by kernel_rfl) (by kernel_rfl) rfl (fun _ _ _ h => h) (wanted_off (k := 5) (d := 39) (b := true) (c := false) rfl rfl rfl rfl) (by assumption) ?_
    (try simp only [Act.put, List.setIfInBounds_toArray, List.set_cons_zero, List.set_cons_succ])
    refine take_off (i := 10) (some 44) rfl (by kernel_rfl) (by kernel_rfl) (by kernel_rfl) rfl (fun _ _ _ h => h) (wanted_off (k := 5) (d := 39) (b := true) (c := false) rfl rfl rfl rfl) (by assumption) ?_
    (try simp only [Act.put, List.setIfInBounds_toArray, List.set_cons_zero, List.set_cons_succ])
    refine take_on (i := 11) (v := ?_) (some 45) rfl (by kernel_rfl) (by kernel_rfl) (by kernel_rfl) rfl (fun _ _ _ h => h) (by rfl) ?_ (by assumption) ?_
    rotate_left
    · intro w hSw; (try dsimp only at hSw); go_simp; (try with_reducible rfl)
    (try simp only [Act.put, List.setIfInBounds_toArray, List.set_cons_zero, List.set_cons_succ])
    refine take_on (i := 12) (v := ?_) (some 46) rfl (by kernel_rfl) (by kernel_rfl) (by kernel_rfl) rfl (fun _ _ _ h => h) (by rfl) ?_ (by assumption) ?_
    rotate_left
    · intro w hSw; (try dsimp only at hSw); go_simp; (try with_reducible rfl)
    (try simp only [Act.put, List.setIfInBounds_toArray, List.set_cons_zero, List.set_cons_succ])
    refine take_off (i := 13) (some 47) rfl (by kernel_rfl) (by kernel_rfl) (by kernel_rfl) rfl (fun _ _ _ h => h) (wanted_off (k := 12) (d := 46) (b := true) (c := false) rfl rfl rfl rfl) (by assumption) ?_
    (try simp only [Act.put, List.setIfInBounds_toArray, List.set_cons_zero, List.set_cons_succ])
    refine take_off (i := 14) (some 48) rfl (by kernel_rfl) (by kernel_rfl) (by kernel_rfl) rfl (fun _ _ _ h => h) (wanted_off (k := 12) (d := 46) (b := true) (c := false) rfl rfl rfl rfl) (by assumption) ?_
    (try simp only [Act.put, List.setIfInBounds_toArray, List.set_cons_zero, List.set_cons_succ])
    refine take_off (i := 15) (some 49) rfl (by kernel_rfl) (by kernel_rfl) (by kernel_rfl) rfl (fun _ _ _ h => h) (wanted_off (k := 12) (d := 46) (b := true) (c := false) rfl rfl rfl rfl) (by assumption) ?_
    (try simp only [Act.put, List.setIfInBounds_toArray, List.set_cons_zero, List.set_cons_succ])
    refine take_off (i := 16) (some 50) rfl (by kernel_rfl) (by kernel_rfl) (by kernel_rfl) rfl (fun _ _ _ h => h) (wanted_off (k := 12) (d := 46) (b := true) (c := false) rfl rfl rfl rfl) (by assumption) ?_
    (try simp only [Act.put, List.setIfInBounds_toArray, List.set_cons_zero, List.set_cons_succ])
    refine take_off (i := 17) (some 51) rfl (by kernel_rfl) (by kernel_rfl) (by kernel_rfl) rfl (fun _ _ _ h => h) (wanted_off (k := 12) (d := 46) (b := true) (c := false) rfl rfl rfl rfl) (by assumption) ?_
    (try simp only [Act.put, List.setIfInBounds_toArray, List.set_cons_zero, List.set_cons_succ])
    refine take_off (i := 18) (some 52) rfl (by kernel_rfl) (by kernel_rfl) (by kernel_rfl) rfl (fun _ _ _ h => h) (wanted_off (k := 12) (d := 46) (b := true) (c := false) rfl rfl rfl rfl) (by assumption) ?_
    (try simp only [Act.put, List.setIfInBounds_toArray, List.set_cons_zero, List.set_cons_succ])
    refine take_off (i := 19) (some 53) rfl (by kernel_rfl) (by kernel_rfl) (by kernel_rfl) rfl (fun _ _ _ h => h) (wanted_off (k := 12) (d := 46) (b := true) (c := false) rfl rfl rfl rfl) (by assumption) ?_
    (try simp only [Act.put, List.setIfInBounds_toArray, List.set_cons_zero, List.set_cons_succ])
    refine take_off (i := 20) (some 54) rfl (by kernel_rfl) (by kernel_rfl) (by kernel_rfl) rfl (fun _ _ _ h => h) (wanted_off (k := 12) (d := 46) (b := true) (c := false) rfl rfl rfl rfl) (by assumption) ?_
    (try simp only [Act.put, List.setIfInBounds_toArray, List.set_cons_zero, List.set_cons_succ])
    refine take_off (i := 21) (some 55) rfl (by kernel_rfl) (by kernel_rfl) (by kernel_rfl) rfl (fun _ _ _ h => h) (wanted_off (k := 12) (d := 46) (b := true) (c := false) rfl rfl rfl rfl) (by assumption) ?_
    (try simp only [Act.put, List.setIfInBounds_toArray, List.set_cons_zero, List.set_cons_succ])
    refine take_off (i := 22) (some 56) rfl (by kernel_rfl) (by kernel_rfl) (by kernel_rfl) rfl (fun _ _ _ h => h) (wanted_off (k := 12) (d := 46) (b := true) (c := false) rfl rfl rfl rfl) (by assumption) ?_
    (try simp only [Act.put, List.setIfInBounds_toArray, List.set_cons_zero, List.set_cons_succ])
    refine take_on (i := 23) (v := ?_) (some 57) rfl (by kernel_rfl) (by kernel_rfl) (by kernel_rfl) rfl (fun _ _ _ h => h) (by rfl) ?_ (by assumption) ?_
    rotate_left
    · intro w hSw; (try dsimp only at hSw); go_simp; (try with_reducible rfl)
    (try simp only [Act.put, List.setIfInBounds_toArray, List.set_cons_zero, List.set_cons_succ])
    refine take_on (i := 24) (v := ?_) (some 2) rfl (by kernel_rfl) (by kernel_rfl) (by kernel_rfl) rfl (fun _ _ _ h => h) (by rfl) ?_ (by assumption) ?_
    rotate_left
    · intro w hSw; (try dsimp only at hSw); go_simp; (try with_reducible rfl)
    (try simp only [Act.put, List.setIfInBounds_toArray, List.set_cons_zero, List.set_cons_succ])
    refine wpAnyH_done (by kernel_rfl) ?_ _
    have HF := Lib.hid (ns_a Q4.out)
    go_wp2_with (fail)
    go_ret
    exact ⟨by rw [HF.out]; rfl, hb01.trans (bs_0.mono hb01.size)⟩
  | true =>
    have Q4 := Lib.hid q4
    clear q4
    (try go_wp2_with (fail))
    refine hK.out _ _ ?_ (fun hHeld => ?_)
    · exact rowCells (keepHeap bs_0 hA1)
    clear hK K
    (try simp only [Act.put, List.setIfInBounds_toArray, List.set_cons_zero, List.set_cons_succ])
    refine take_on (i := 5) (v := ?_) (some 39) rfl (by kernel_rfl) (by kernel_rfl) (by kernel_rfl) rfl (fun _ _ _ h => h) (by rfl) ?_ (by assumption) ?_
    rotate_left
    · intro w hSw; (try dsimp only at hSw); go_simp; (try with_reducible rfl)
    (try simp only [Act.put, List.setIfInBounds_toArray, List.set_cons_zero, List.set_cons_succ])
    refine take_on (i := 6) (v := ?_) (some 40) rfl (by kernel_rfl) (by kernel_rfl) (by kernel_rfl) rfl (fun _ _ _ h => h) (wanted_on (k := 5) (d := 39) (b := true) rfl rfl rfl) ?_ (by assumption) ?_
    rotate_left
    · intro w hSw; (try dsimp only at hSw); go_simp; (try with_reducible rfl)
    (try simp only [Act.put, List.setIfInBounds_toArray, List.set_cons_zero, List.set_cons_succ])
    refine take_on (i := 7) (v := ?_) (some 41) rfl (by kernel_rfl) (by kernel_rfl) (by kernel_rfl) rfl (fun _ _ _ h => h) (wanted_on (k := 5) (d := 39) (b := true) rfl rfl rfl) ?_ (by assumption) ?_
    rotate_left
    · intro w hSw; (try dsimp only at hSw); go_simp; (try with_reducible rfl)
    (try simp only [Act.put, List.setIfInBounds_toArray, List.set_cons_zero, List.set_cons_succ])
    refine take_on (i := 8) (v := ?_) (some 42) rfl (by kernel_rfl) (by kernel_rfl) (by kernel_rfl) rfl (fun _ _ _ h => h) (wanted_on (k := 5) (d := 39) (b := true) rfl rfl rfl) ?_ (by assumption) ?_
    rotate_left
    · intro w hSw; (try dsimp only at hSw); go_simp; (try with_reducible rfl)
    (try simp only [Act.put, List.setIfInBounds_toArray, List.set_cons_zero, List.set_cons_succ])
    refine take_on (i := 9) (v := ?_) (some 43) rfl (by kernel_rfl) (by kernel_rfl) (by kernel_rfl) rfl (fun _ _ _ h => h) (wanted_on (k := 5) (d := 39) (b := true) rfl rfl rfl) ?_ (by assumption) ?_
    rotate_left
    · intro w hSw; (try dsimp only at hSw); go_simp; (try with_reducible rfl)
    (try simp only [Act.put, List.setIfInBounds_toArray, List.set_cons_zero, List.set_cons_succ])
    refine wpAnyH_ready (rs := [10]) (by kernel_rfl) (by simp) ?_
    refine AllReadyH.cons rfl (fun K hK => ?_) AllReadyH.nil
    go_simp
    refine (within_impl _ _ _ _).mono ?_
    rintro e w_x ⟨rfl, rfl⟩
    cases q5 : inR p.seed 0 65535 with
    | false =>
      have Q5 := Lib.hid q5
      clear q5
      (try go_wp2_with (fail))
      refine hK.out _ _ ?_ (fun hHeld => ?_)
      · exact rowCells (keepHeap bs_0 hA1)
      clear hK K
      (try simp only [Act.put, List.setIfInBounds_toArray, List.set_cons_zero, List.set_cons_succ])
      refine take_on (i := 11) (v := ?_) (some 45) rfl (by kernel_rfl) (by kernel_rfl) (by kernel_rfl) rfl (fun _ _ _ h => h) (by rfl) ?_ (by assumption) ?_
      rotate_left
      · intro w hSw; (try dsimp only at hSw); go_simp; (try with_reducible rfl)
      (try simp only [Act.put, List.setIfInBounds_toArray, List.set_cons_zero, List.set_cons_succ])
      refine take_on (i := 12) (v := ?_) (some 46) rfl (by kernel_rfl) (by kernel_rfl) (by kernel_rfl) rfl (fun _ _ _ h => h) (by rfl) ?_ (by assumption) ?_
      rotate_left
      · intro w hSw; (try dsimp only at hSw); go_simp; (try with_reducible rfl)
      (try simp only [Act.put, List.setIfInBounds_toArray, List.set_cons_zero, List.set_cons_succ])
      refine take_off (i := 13) (some 47) rfl (by kernel_rfl) (by kernel_rfl) (by kernel_rfl) rfl (fun _ _ _ h => h) (wanted_off (k := 12) (d := 46) (b := true) (c := false) rfl rfl rfl rfl) (by assumption) ?_
      (try simp only [Act.put, List.setIfInBounds_toArray, List.set_cons_zero, List.set_cons_succ])
      refine take_off (i := 14) (some 48) rfl (by kernel_rfl) (by kernel_rfl) (by kernel_rfl) rfl (fun _ _ _ h => h) (wanted_off (k := 12) (d := 46) (b := true) (c := false) rfl rfl rfl rfl) (by assumption) ?_
      (try simp only [Act.put, List.setIfInBounds_toArray, List.set_cons_zero, List.set_cons_succ])
      refine take_off (i := 15) (some 49) rfl (by kernel_rfl) (by kernel_rfl) (by kernel_rfl) rfl (fun _ _ _ h => h) (wanted_off (k := 12) (d := 46) (b := true) (c := false) rfl rfl rfl rfl) (by assumption) ?_
      (try simp only [Act.put, List.setIfInBounds_toArray, List.set_cons_zero, List.set_cons_succ])
      refine take_off (i := 16) (some 50) rfl (by kernel_rfl) (by kernel_rfl) (by kernel_rfl) rfl (fun _ _ _ h => h) (wanted_off (k := 12) (d := 46) (b := true) (c := false) rfl rfl rfl rfl) (by assumption) ?_
      (try simp only [Act.put, List.setIfInBounds_toArray, List.set_cons_zero, List.set_cons_succ])
      refine take_off (i := 17) (some 51) rfl (by kernel_rfl) (by kernel_rfl) (by kernel_rfl) rfl (fun _ _ _ h => h) (wanted_off (k := 12) (d := 46) (b := true) (c := false) rfl rfl rfl rfl) (by assumption) ?_
      (try simp only [Act.put, List.setIfInBounds_toArray, List.set_cons_zero, List.set_cons_succ])
      refine take_off (i := 18) (some 52) rfl (by kernel_rfl) (by kernel_rfl) (by kernel_rfl) rfl (fun _ _ _ h => h) (wanted_off (k := 12) (d := 46) (b := true) (c := false) rfl rfl rfl rfl) (by assumption) ?_
      (try simp only [Act.put, List.setIfInBounds_toArray, List.set_cons_zero, List.set_cons_succ])
      refine take_off (i := 19) (some 53) rfl (by kernel_rfl) (by kernel_rfl) (by kernel_rfl) rfl (fun _ _ _ h => h) (wanted_off (k := 12) (d := 46) (b := true) (c := false) rfl rfl rfl rfl) (by assumption) ?_
      (try simp only [Act.put, List.setIfInBounds_toArray, List.set_cons_zero, List.set_cons_succ])
      refine take_off (i := 20) (some 54) rfl (by kernel_rfl) (by kernel_rfl) (by kernel_rfl) rfl (fun _ _ _ h => h) (wanted_off (k := 12) (d := 46) (b := true) (c := false) rfl rfl rfl rfl) (by assumption) ?_
      (try simp only [Act.put, List.setIfInBounds_toArray, List.set_cons_zero, List.set_cons_succ])
      refine take_off (i := 21) (some 55) rfl (by kernel_rfl) (by kernel_rfl) (by kernel_rfl) rfl (fun _ _ _ h => h) (wanted_off (k := 12) (d := 46) (b := true) (c := false) rfl rfl rfl rfl) (by assumption) ?_
      (try simp only [Act.put, List.setIfInBounds_toArray, List.set_cons_zero, List.set_cons_succ])
      refine take_off (i := 22) (some 56) rfl (by kernel_rfl) (by kernel_rfl) (by kernel_rfl) rfl (fun _ _ _ h => h) (wanted_off (k := 12) (d := 46) (b := true) (c := false) rfl rfl rfl rfl) (by assumption) ?_
      (try simp only [Act.put, List.setIfInBounds_toArray, List.set_cons_zero, List.set_cons_succ])
      refine take_on (i := 23) (v := ?_) (some 57) rfl (by kernel_rfl) (by kernel_rfl) (by kernel_rfl) rfl (fun _ _ _ h => h) (by rfl) ?_ (by assumption) ?_
      rotate_left
      · intro w hSw; (try dsimp only at hSw); go_simp; (try with_reducible rfl)
      (try simp only [Act.put, List.setIfInBounds_toArray, List.set_cons_zero, List.set_cons_succ])
      refine take_on (i := 24) (v := ?_) (some 2) rfl (by kernel_rfl) (by kernel_rfl) (by kernel_rfl) rfl (fun _ _ _ h => h) (by rfl) ?_ (by assumption) ?_
      rotate_left
      · intro w hSw; (try dsimp only at hSw); go_simp; (try with_reducible rfl)
      (try simp only [Act.put, List.setIfInBounds_toArray, List.set_cons_zero, List.set_cons_succ])
      refine wpAnyH_done (by kernel_rfl) ?_ _
      have HF := Lib.hid (ns_s Q5.out)
      go_wp2_with (fail)
      go_ret
      exact ⟨by rw [HF.out]; rfl, hb01.trans (bs_0.mono hb01.size)⟩
    | true =>
      have Q5 := Lib.hid q5
      clear q5
      (try go_wp2_with (fail))
      refine hK.out _ _ ?_ (fun hHeld => ?_)
      · exact rowCells (keepHeap bs_0 hA1)
      clear hK K
      (try simp only [Act.put, List.setIfInBounds_toArray, List.set_cons_zero, List.set_cons_succ])
      refine take_on (i := 11) (v := ?_) (some 45) rfl (by kernel_rfl) (by kernel_rfl) (by kernel_rfl) rfl (fun _ _ _ h => h) (by rfl) ?_ (by assumption) ?_
      rotate_left
      · intro w hSw; (try dsimp only at hSw); go_simp; (try with_reducible rfl)
      (try simp only [Act.put, List.setIfInBounds_toArray, List.set_cons_zero, List.set_cons_succ])
      refine take_on (i := 12) (v := ?_) (some 46) rfl (by kernel_rfl) (by kernel_rfl) (by kernel_rfl) rfl (fun _ _ _ h => h) (by rfl) ?_ (by assumption) ?_
      rotate_left
      · intro w hSw; (try dsimp only at hSw); go_simp; (try with_reducible rfl)
      (try simp only [Act.put, List.setIfInBounds_toArray, List.set_cons_zero, List.set_cons_succ])
      refine take_on (i := 13) (v := ?_) (some 47) rfl (by kernel_rfl) (by kernel_rfl) (by kernel_rfl) rfl (fun _ _ _ h => h) (wanted_on (k := 12) (d := 46) (b := true) rfl rfl rfl) ?_ (by assumption) ?_
      rotate_left
      · intro w hSw; (try dsimp only at hSw); go_simp; (try with_reducible rfl)
      (try simp only [Act.put, List.setIfInBounds_toArray, List.set_cons_zero, List.set_cons_succ])
      refine take_on (i := 14) (v := ?_) (some 48) rfl (by kernel_rfl) (by kernel_rfl) (by kernel_rfl) rfl (fun _ _ _ h => h) (wanted_on (k := 12) (d := 46) (b := true) rfl rfl rfl) ?_ (by assumption) ?_
      rotate_left
      · intro w hSw; (try dsimp only at hSw); go_simp; (try with_reducible rfl)
      (try simp only [Act.put, List.setIfInBounds_toArray, List.set_cons_zero, List.set_cons_succ])
      refine take_on (i := 15) (v := ?_) (some 49) rfl (by kernel_rfl) (by kernel_rfl) (by kernel_rfl) rfl (fun _ _ _ h => h) (wanted_on (k := 12) (d := 46) (b := true) rfl rfl rfl) ?_ (by assumption) ?_
      rotate_left
      · intro w hSw; (try dsimp only at hSw); go_simp; (try with_reducible rfl)
      (try simp only [Act.put, List.setIfInBounds_toArray, List.set_cons_zero, List.set_cons_succ])
      refine take_on (i := 16) (v := ?_) (some 50) rfl (by kernel_rfl) (by kernel_rfl) (by kernel_rfl) rfl (fun _ _ _ h => h) (wanted_on (k := 12) (d := 46) (b := true) rfl rfl rfl) ?_ (by assumption) ?_
      rotate_left
      · intro w hSw; (try dsimp only at hSw); go_simp; (try with_reducible rfl)
      (try simp only [Act.put, List.setIfInBounds_toArray, List.set_cons_zero, List.set_cons_succ])
      refine take_on (i := 17) (v := ?_) (some 51) rfl (by kernel_rfl) (by kernel_rfl) (by kernel_rfl) rfl (fun _ _ _ h => h) (wanted_on (k := 12) (d := 46) (b := true) rfl rfl rfl) ?_ (by assumption) ?_
      rotate_left
      · intro w hSw; (try dsimp only at hSw); go_simp; (try with_reducible rfl)
      (try simp only [Act.put, List.setIfInBounds_toArray, List.set_cons_zero, List.set_cons_succ])
      refine take_on (i := 18) (v := ?_) (some 52) rfl (by kernel_rfl) (by kernel_rfl) (by kernel_rfl) rfl (fun _ _ _ h => h) (wanted_on (k := 12) (d := 46) (b := true) rfl rfl rfl) ?_ (by assumption) ?_
      rotate_left
      · intro w hSw; (try dsimp only at hSw); go_simp; (try with_reducible rfl)
      (try simp only [Act.put, List.setIfInBounds_toArray, List.set_cons_zero, List.set_cons_succ])
      refine take_on (i := 19) (v := ?_) (some 53) rfl (by kernel_rfl) (by kernel_rfl) (by kernel_rfl) rfl (fun _ _ _ h => h) (wanted_on (k := 12) (d := 46) (b := true) rfl rfl rfl) ?_ (by assumption) ?_
      rotate_left
      · intro w hSw; (try dsimp only at hSw); go_simp; (try with_reducible rfl)
      (try simp only [Act.put, List.setIfInBounds_toArray, List.set_cons_zero, List.set_cons_succ])
      refine take_on (i := 20) (v := ?_) (some 54) rfl (by kernel_rfl) (by kernel_rfl) (by kernel_rfl) rfl (fun _ _ _ h => h) (wanted_on (k := 12) (d := 46) (b := true) rfl rfl rfl) ?_ (by assumption) ?_
      rotate_left
      · intro w hSw; (try dsimp only at hSw); go_simp; (try with_reducible rfl)
      (try simp only [Act.put, List.setIfInBounds_toArray, List.set_cons_zero, List.set_cons_succ])
      refine wpAnyH_ready (rs := [21]) (by kernel_rfl) (by simp) ?_
      refine AllReadyH.cons rfl (fun K hK => ?_) AllReadyH.nil
      go_simp
      obtain ⟨w_1, hw_1, nz_1, hb_1⟩ : ∃ W, (w1.alloc (.cells #[.int .i64 p.rolls, .int .i64 p.again] 3)).drew = W ∧ RdI W (.slice (some ⟨w1.heap.size, 0, none⟩) 2 2) [p.rolls, p.again] ∧ Below w1.drew.heap.size w1.drew W := ⟨_, rfl, RdI.two2 _ _ _ _, below1 w1.drew _⟩
      try rw [hw_1]
      clear hw_1
      have bs_1 := bs_0.trans (hb_1.mono bs_0.size)
      refine hK.out _ _ ?_ (fun hHeld => ?_)
      · exact rowCells (keepHeap bs_1 hA1)
      clear hK K
      (try simp only [Act.put, List.setIfInBounds_toArray, List.set_cons_zero, List.set_cons_succ])
      refine wpAnyH_ready (rs := [22]) (by kernel_rfl) (by simp) ?_
      refine AllReadyH.cons rfl (fun K hK => ?_) AllReadyH.nil
      go_simp
      refine (allWithin_any nz_1 (by simp) 0 1000000).mono ?_
      rintro e w_x ⟨rfl, rfl⟩
      cases q6 : allW 0 1000000 [p.rolls, p.again] with
      | false =>
        have Q6 := Lib.hid q6
        clear q6
        (try go_wp2_with (fail))
        refine hK.out _ _ ?_ (fun hHeld => ?_)
        · exact rowCells (keepHeap bs_1 hA1)
        clear hK K
        (try simp only [Act.put, List.setIfInBounds_toArray, List.set_cons_zero, List.set_cons_succ])
        refine take_on (i := 23) (v := ?_) (some 57) rfl (by kernel_rfl) (by kernel_rfl) (by kernel_rfl) rfl (fun _ _ _ h => h) (by rfl) ?_ (by assumption) ?_
        rotate_left
        · intro w hSw; (try dsimp only at hSw); go_simp; (try with_reducible rfl)
        (try simp only [Act.put, List.setIfInBounds_toArray, List.set_cons_zero, List.set_cons_succ])
        refine take_on (i := 24) (v := ?_) (some 2) rfl (by kernel_rfl) (by kernel_rfl) (by kernel_rfl) rfl (fun _ _ _ h => h) (by rfl) ?_ (by assumption) ?_
        rotate_left
        · intro w hSw; (try dsimp only at hSw); go_simp; (try with_reducible rfl)
        (try simp only [Act.put, List.setIfInBounds_toArray, List.set_cons_zero, List.set_cons_succ])
        refine wpAnyH_done (by kernel_rfl) ?_ _
        have HF := Lib.hid (ns_c Q6.out)
        go_wp2_with (fail)
        go_ret
        exact ⟨by rw [HF.out]; rfl, hb01.trans (bs_1.mono hb01.size)⟩
      | true =>
        have Q6 := Lib.hid q6
        clear q6
        (try go_wp2_with (fail))
        refine hK.out _ _ ?_ (fun hHeld => ?_)
        · exact rowCells (keepHeap bs_1 hA1)
        clear hK K
        (try simp only [Act.put, List.setIfInBounds_toArray, List.set_cons_zero, List.set_cons_succ])
        refine take_on (i := 23) (v := ?_) (some 57) rfl (by kernel_rfl) (by kernel_rfl) (by kernel_rfl) rfl (fun _ _ _ h => h) (by rfl) ?_ (by assumption) ?_
        rotate_left
        · intro w hSw; (try dsimp only at hSw); go_simp; (try with_reducible rfl)
        (try simp only [Act.put, List.setIfInBounds_toArray, List.set_cons_zero, List.set_cons_succ])
        refine take_on (i := 24) (v := ?_) (some 2) rfl (by kernel_rfl) (by kernel_rfl) (by kernel_rfl) rfl (fun _ _ _ h => h) (by rfl) ?_ (by assumption) ?_
        rotate_left
        · intro w hSw; (try dsimp only at hSw); go_simp; (try with_reducible rfl)
        (try simp only [Act.put, List.setIfInBounds_toArray, List.set_cons_zero, List.set_cons_succ])
        refine wpAnyH_done (by kernel_rfl) ?_ _
        have HF := Lib.hid (ns_ok Q1.out Q2.out Q3.out Q4.out Q5.out Q6.out)
        go_wp2_with (fail)
        go_ret
        exact ⟨by rw [HF.out]; rfl, hb01.trans (bs_1.mono hb01.size)⟩
set_option maxRecDepth 100000 in
set_option maxHeartbeats 8000000 in
theorem ticksFit_impl {w : World} {p : Pr} {vt bl bs bb nl ns nb vu vv vs : Value} {B : Nat} (hA : w.heap[B]? = some (.cells (prC p vt bl bs bb nl ns nb vu vv vs) 46 (0, 0))) (h : RdPr w p vt bl bs bb nl ns nb vu vv vs) (hs : p.sane) (hf : p.few) (hme0 : 0 ≤ p.me) (hme1 : p.me < (p.tracks.length : Int)) (hbt : 0 ≤ p.base.tick ∧ p.base.tick ≤ 100000) (hnt : 0 ≤ p.now.tick ∧ p.now.tick ≤ 100000) :
    Calls Tryz.prog 69 #[.pointer (some ⟨B, 0, none⟩)] w fun e w' => e = .returned (.bool (ticksB p)) ∧ Below w.heap.size w w' := by
  have h0 := h
  obtain ⟨a0, c0, rfl, -⟩ := id h.1
  obtain ⟨a1, c1, rfl, -⟩ := id h.2.1.1
  obtain ⟨a2, c2, rfl, -⟩ := id h.2.1.2.1
  obtain ⟨a3, c3, rfl, -⟩ := id h.2.1.2.2
  obtain ⟨a4, c4, rfl, -⟩ := id h.2.2.1.1
  obtain ⟨a5, c5, rfl, -⟩ := id h.2.2.1.2.1
  obtain ⟨a6, c6, rfl, -⟩ := id h.2.2.1.2.2
  obtain ⟨a7, c7, rfl, -⟩ := id h.2.2.2.1
  obtain ⟨a8, c8, rfl, -⟩ := id h.2.2.2.2.1
  obtain ⟨a9, c9, rfl, -⟩ := id h.2.2.2.2.2
  unfold prC at hA
  have cA := rowCells hA
  have hlA : B < w.heap.size := blockLtP hA
  have ht : (p.tracks.length : Int) ≤ 9223372036854775807 := by have := hs.1.1; omega
  have hb : (p.base.scores.length : Int) ≤ 9223372036854775807 := by have := hs.2.1.2.1; omega
  have hn : (p.now.scores.length : Int) ≤ 9223372036854775807 := by have := hs.2.2.1.2.1; omega
  have hu : (p.used.length : Int) ≤ 9223372036854775807 := by have := hs.2.2.2.1.1; omega
  have hv : (p.saves.length : Int) ≤ 9223372036854775807 := by have := hs.2.2.2.2.1.1; omega
  have hm : (p.sums.length : Int) ≤ 9223372036854775807 := by have := hs.2.2.2.2.2; omega
  obtain ⟨-, -, -, hs4, ⟨hs5, hs6⟩, -⟩ := hs
  obtain ⟨⟨f1, f2⟩, -, -, ⟨f5, f6⟩, f7, f8⟩ := hf
  obtain ⟨ld, hld⟩ : ∃ ld : Int, ld = p.now.tick - p.base.tick := ⟨_, rfl⟩
  have hT1 := tk_l (p := p)
  have hT2 := tk_u (p := p)
  have hT3 := tk_s (p := p)
  have hT4 := fun k hk => tk_r (p := p) (k := k) hk
  have hT5 := tk_ok (p := p)
  rw [← hld] at hT1 hT2 hT3 hT4 hT5
  have hldb : -100000 ≤ ld ∧ ld ≤ 100000 := by omega
  have hsub : wrap64 (p.now.tick - p.base.tick) = ld := by rw [hld]; exact IntWalk.wrap64_in _ ⟨by omega, by omega⟩
  have hsub2 : p.now.tick - p.base.tick = ld := hld.symm
  have HLD := Lib.hid hld
  clear hld
  go_enter Tryz.func69, Tryz.ntmps69
  go_wp2_with (fail)
  go_quiet (fail)
  have qd := belowDrew w 1
  go_wp2_with (fail)
  refine (within_impl _ _ _ _).mono ?_
  rintro e w2 ⟨rfl, rfl⟩
  cases q1 : inR ld 0 p.ahead with
  | false =>
    have HF := Lib.hid (hT1 q1)
    clear q1
    go_wp2_with (fail)
    go_ret
    exact ⟨by rw [HF.out]; rfl, ⟨rfl, rfl, rfl, Nat.le_refl _, fun _ _ => rfl⟩⟩
  | true =>
  have hl0 := ((inR_iff _ _ _).1 q1).1
  by_cases e2 : (p.used.length : Int) = ld
  case neg =>
    have z2 : ((p.used.length : Int) != ld) = true := by simpa using e2
    have HF := Lib.hid (hT2 e2)
    clear e2 q1
    go_wp2_with (fail)
    go_ret
    exact ⟨by rw [HF.out]; rfl, ⟨rfl, rfl, rfl, Nat.le_refl _, fun _ _ => rfl⟩⟩
  by_cases e3 : (p.saves.length : Int) = ld
  case neg =>
    have z2 : ((p.used.length : Int) != ld) = false := by simpa using e2
    have z3 : ((p.saves.length : Int) != ld) = true := by simpa using e3
    have HF := Lib.hid (hT3 e3)
    clear e2 e3 q1
    go_wp2_with (fail)
    go_ret
    exact ⟨by rw [HF.out]; rfl, ⟨rfl, rfl, rfl, Nat.le_refl _, fun _ _ => rfl⟩⟩
  have z2 : ((p.used.length : Int) != ld) = false := by simpa using e2
  have z3 : ((p.saves.length : Int) != ld) = false := by simpa using e3
  have HOK := Lib.hid (hT5 q1 e2 e3)
  obtain ⟨L, hL⟩ : ∃ L : Nat, ld = (L : Int) := ⟨ld.toNat, by omega⟩
  subst hL
  have hLu : p.used.length = L := by omega
  have hLs : p.saves.length = L := by omega
  have HLu := Lib.hid hLu
  have HLs := Lib.hid hLs
  have HBAD := Lib.hid (fun k (hk : k < L) hb => hT4 k (by omega) hb)
  have hLb : L ≤ 100000 := by omega
  clear q1 e2 e3 hT1 hT2 hT3 hT4 hT5 hLu hLs hsub hsub2 hldb
  go_wp2_with (fail)
  go_loopw [42] (fun i wr => ∃ k : Nat, k ≤ L ∧ i = .int .i64 (k : Int) ∧ Below w.heap.size w wr ∧ Hid (∀ j : Nat, j < k → rowAtB p j = true)) (fun i _ => L - (intOf i).toNat)
  case atStart => exact ⟨0, Nat.zero_le _, rfl, ⟨rfl, rfl, rfl, Nat.le_refl _, fun _ _ => rfl⟩, Lib.hid (fun j hl => by omega)⟩
  case round =>
    obtain ⟨k, hk, rfl, hbel, HA⟩ := hrel
    have hAr := keepHeap hbel hA
    have cAr := rowCells hAr
    have hr := h0.keep hbel
    clear cA
    by_cases hkl : k < L
    · have hku : k < p.used.length := by rw [HLu.out]; exact hkl
      have hks : k < p.saves.length := by rw [HLs.out]; exact hkl
      have hl1 : (k : Int) < (L : Int) := by omega
      have hl2 : (k : Int) < (p.used.length : Int) := by omega
      have hl3 : (k : Int) < (p.saves.length : Int) := by omega
      obtain ⟨x1, x2, ex, hus⟩ := hr.2.2.2.1
      obtain ⟨rfl, -, rfl⟩ := Value.slice.inj ex
      obtain ⟨b, off, rfl, hc⟩ := hus.resolve_left (by intro e; rw [e] at hku; simp at hku)
      obtain ⟨u, c1, r1⟩ := hc k hku
      obtain ⟨y1, y2, ey, hvs⟩ := hr.2.2.2.2.1
      obtain ⟨rfl, -, rfl⟩ := Value.slice.inj ey
      obtain ⟨b', off', rfl, hc'⟩ := hvs.resolve_left (by intro e; rw [e] at hks; simp at hks)
      have c2 := (cellsSv (hc' k hks)).1
      have hx3 := hs4.2 p.used[k] (List.getElem_mem _)
      obtain ⟨ax, cx, rfl, -⟩ := id r1
      have hRO : ∀ n, Calls Tryz.prog 94 #[.slice ax p.used[k].length cx, .int .i64 (p.tracks.length : Int)] (wr.drewN n) fun e w' => e = .returned (.bool (rokB (p.tracks.length : Int) p.used[k])) ∧ w' = wr.drewN n := fun n => (rowOk_impl (r1.keep (belowDrew wr n)) hx3 _).mono fun _ _ h => ⟨h.1, h.2.symm⟩
      have d15 : wr.cell? ⟨B, 15, none⟩ = some (.slice (some ⟨b, off, none⟩) p.used.length c7) := cAr 15
      have d16 : wr.cell? ⟨B, 16, none⟩ = some (.slice (some ⟨b', off', none⟩) p.saves.length c8) := cAr 16
      have d4 : wr.cell? ⟨B, 4, none⟩ = some (.slice a0 p.tracks.length c0) := cAr 4
      have d6 : wr.cell? ⟨B, 6, none⟩ = some (.int .i64 p.base.tick) := cAr 6
      have hlA2 : B < wr.heap.size := blockLtP hAr
      have RN := Lib.hid (fun h => ra_no (p := p) hku h)
      have RT := Lib.hid (fun h => ra_tick (p := p) hks h)
      have RY := Lib.hid (fun h h2 => ra_ok (p := p) hku hks h h2)
      have HB1 := Lib.hid (HBAD.out k hkl)
      obtain ⟨tk, htk⟩ : ∃ t, t = p.saves[k].tick := ⟨_, rfl⟩
      rw [← htk] at c2 RT RY
      generalize p.used[k].length = m1 at c1 hRO
      clear hc hc' htk hx3 r1 hus hvs ex ey hr hAr
      cases q2 : rokB (p.tracks.length : Int) p.used[k] with
      | false =>
        rw [q2] at hRO
        have HF := Lib.hid (HB1.out (RN.out q2))
        clear q2 RN RT RY
        go_wp2_with (fail)
        go_quiet (first | (go_at_call 94; exact Calls.quiet_of_same (hRO _)))
        go_wp2_with (fail)
        go_ret
        exact ⟨by rw [HF.out]; rfl, hbel.trans (Below.mono ⟨rfl, rfl, rfl, Nat.le_refl _, fun _ _ => rfl⟩ hbel.size)⟩
      | true =>
        rw [q2] at hRO
        by_cases e4 : tk = p.base.tick + (k : Int)
        · have z4 : (tk != p.base.tick + (k : Int)) = false := by simpa using e4
          have HY := Lib.hid (RY.out q2 e4)
          clear q2 e4 RN RT RY
          go_wp2_with (fail)
          go_quiet (first | (go_at_call 94; exact Calls.quiet_of_same (hRO _)))
          go_wp2_with (fail)
          go_roundw
          case rel =>
            refine ⟨k + 1, by omega, by go_num, hbel.trans (Below.mono ⟨rfl, rfl, rfl, Nat.le_refl _, fun _ _ => rfl⟩ hbel.size), Lib.hid (fun j hjk => ?_)⟩
            by_cases e : j = k
            · subst e; exact HY.out
            · exact HA.out j (by omega)
          case measure => simp [intOf]; omega
        · have z4 : (tk != p.base.tick + (k : Int)) = true := by simpa using e4
          have HF := Lib.hid (HB1.out (RT.out e4))
          clear q2 e4 RN RT RY
          go_wp2_with (fail)
          go_quiet (first | (go_at_call 94; exact Calls.quiet_of_same (hRO _)))
          go_wp2_with (fail)
          go_ret
          exact ⟨by rw [HF.out]; rfl, hbel.trans (Below.mono ⟨rfl, rfl, rfl, Nat.le_refl _, fun _ _ => rfl⟩ hbel.size)⟩
    · have hl1 : ¬ (k : Int) < (L : Int) := by omega
      have HTL := Lib.hid (HOK.out (fun j hj => HA.out j (by omega)))
      have hqr := hbel.size
      obtain ⟨m, hm0⟩ : ∃ m : Nat, p.me = (m : Int) := ⟨p.me.toNat, by omega⟩
      have hmt : m < p.tracks.length := by omega
      have HWT : Hid (IntKind.i64.wrap (p.base.tick + 1) = p.base.tick + 1) := Lib.hid (IntWalk.i64_in _ (by omega))
      obtain ⟨x1, x2, ex, hts⟩ := hr.1
      obtain ⟨rfl, -, rfl⟩ := Value.slice.inj ex
      obtain ⟨bt, ot, rfl, hct⟩ := hts.resolve_left (by intro e; rw [e] at hmt; simp at hmt)
      obtain ⟨um, cm, rm⟩ := hct m hmt
      obtain ⟨am, xm, rfl, -⟩ := id rm
      have TK := Lib.hid (tl_k (p := p))
      have TM := Lib.hid (fun h => tl_m (p := p) hmt hm0 h)
      have TO := Lib.hid (fun h1 h2 => tl_ok (p := p) hmt hm0 h1 h2)
      have hkn := fun {W : World} (hb : Below wr.heap.size wr W) => knownTicks_impl (hr.1.keep hb) ⟨f1, f2⟩
      generalize hnm : p.tracks[m].length = nm at cm TM TO
      have hnm1 : (nm : Int) ≤ 9223372036854775807 := by have := f2 p.tracks[m] (List.getElem_mem _); omega
      generalize knownI p.tracks = kn at hkn TK TO
      have hml : (m : Int) < (p.tracks.length : Int) := by omega
      have hmw : 0 ≤ (m : Int) := by omega
      rw [hm0] at hAr
      have HM0 := Lib.hid hm0
      clear hm0 hct hts ex rm hnm
      have cAr := rowCells hAr
      by_cases e5 : p.base.tick ≤ kn
      · have z5 : decide (p.base.tick ≤ kn) = true := by simpa using e5
        by_cases e6 : p.now.tick ≤ (nm : Int)
        · have z6 : decide (p.now.tick ≤ (nm : Int)) = true := by simpa using e6
          have HF0 := Lib.hid (TO.out e5 e6)
          clear e5 e6
          go_upto_region 10 with (fail)
          have bs_0 : Below wr.heap.size wr wr.drew := belowDrew wr 1
          refine wp_region_held_drew (S := (fun w' => (∀ j, w'.cell? ⟨B, j, none⟩ = #[Value.int .i64 (m : Int), .int .i64 p.delay, .int .i64 p.ahead, .int .i64 p.seed, (.slice (some ⟨bt, ot, none⟩) p.tracks.length c0), (.slice a1 p.base.rows.length c1), .int .i64 p.base.tick, .int .i64 p.base.seed, (.slice a2 p.base.scores.length c2), (.slice a3 p.base.bods.length c3), (.slice a4 p.now.rows.length c4), .int .i64 p.now.tick, .int .i64 p.now.seed, (.slice a5 p.now.scores.length c5), (.slice a6 p.now.bods.length c6), (.slice a7 p.used.length c7), (.slice a8 p.saves.length c8), (.slice a9 p.sums.length c9), .int .i64 p.fault.tick, .int .i64 p.fault.player, .int .i64 p.fault.add, .int .i64 p.rolls, .int .i64 p.again][j]?) ∧ w'.cell? ⟨bt, ot + m, none⟩ = some (.slice am nm xm))) (by kernel_rfl) ?_ (fun hHeld => ?_)
          · exact ⟨rowCells (keepHeap bs_0 hAr), (bs_0.cell (World.block_lt_of_cell? _ _ cm)).trans cm⟩
          refine take_on (i := 0) (v := ?_) (some 78) rfl (by kernel_rfl) (by kernel_rfl) (by kernel_rfl) rfl (fun _ _ _ h => h) (by rfl) ?_ (by assumption) ?_
          rotate_left
          · intro w hSw; (try dsimp only at hSw); go_simp; (try with_reducible rfl)
          (try simp only [Act.put, List.setIfInBounds_toArray, List.set_cons_zero, List.set_cons_succ])
          refine take_on (i := 1) (v := ?_) (some 79) rfl (by kernel_rfl) (by kernel_rfl) (by kernel_rfl) rfl (fun _ _ _ h => h) (by rfl) ?_ (by assumption) ?_
          rotate_left
          · intro w hSw; (try dsimp only at hSw); go_simp; (try with_reducible rfl)
          (try simp only [Act.put, List.setIfInBounds_toArray, List.set_cons_zero, List.set_cons_succ])
          refine take_on (i := 2) (v := ?_) (some 80) rfl (by kernel_rfl) (by kernel_rfl) (by kernel_rfl) rfl (fun _ _ _ h => h) (by rfl) ?_ (by assumption) ?_
          rotate_left
          · intro w hSw; (try dsimp only at hSw); go_simp; (try with_reducible rfl)
          (try simp only [Act.put, List.setIfInBounds_toArray, List.set_cons_zero, List.set_cons_succ])
          refine take_on (i := 3) (v := ?_) (some 81) rfl (by kernel_rfl) (by kernel_rfl) (by kernel_rfl) rfl (fun _ _ _ h => h) (by rfl) ?_ (by assumption) ?_
          rotate_left
          · intro w hSw; (try dsimp only at hSw); go_simp; (try with_reducible rfl)
          (try simp only [Act.put, List.setIfInBounds_toArray, List.set_cons_zero, List.set_cons_succ])
          refine take_on (i := 4) (v := ?_) (some 82) rfl (by kernel_rfl) (by kernel_rfl) (by kernel_rfl) rfl (fun _ _ _ h => h) (by rfl) ?_ (by assumption) ?_
          rotate_left
          · intro w hSw; (try dsimp only at hSw); go_simp; (try with_reducible rfl)
          (try simp only [Act.put, List.setIfInBounds_toArray, List.set_cons_zero, List.set_cons_succ])
          refine take_on (i := 5) (v := ?_) (some 83) rfl (by kernel_rfl) (by kernel_rfl) (by kernel_rfl) rfl (fun _ _ _ h => h) (by rfl) ?_ (by assumption) ?_
          rotate_left
          · intro w hSw; (try dsimp only at hSw); go_simp; (try with_reducible rfl)
          (try simp only [Act.put, List.setIfInBounds_toArray, List.set_cons_zero, List.set_cons_succ])
          refine take_on (i := 6) (v := ?_) (some 84) rfl (by kernel_rfl) (by kernel_rfl) (by kernel_rfl) rfl (fun _ _ _ h => h) (by rfl) ?_ (by assumption) ?_
          rotate_left
          · intro w hSw; (try dsimp only at hSw); go_simp; (try with_reducible rfl)
          (try simp only [Act.put, List.setIfInBounds_toArray, List.set_cons_zero, List.set_cons_succ])
          refine take_on (i := 7) (v := ?_) (some 85) rfl (by kernel_rfl) (by kernel_rfl) (by kernel_rfl) rfl (fun _ _ _ h => h) (by rfl) ?_ (by assumption) ?_
          rotate_left
          · intro w hSw; (try dsimp only at hSw); go_simp; (try with_reducible rfl)
          (try simp only [Act.put, List.setIfInBounds_toArray, List.set_cons_zero, List.set_cons_succ])
          refine take_on (i := 8) (v := ?_) (some 86) rfl (by kernel_rfl) (by kernel_rfl) (by kernel_rfl) rfl (fun _ _ _ h => h) (by rfl) ?_ (by assumption) ?_
          rotate_left
          · intro w hSw; (try dsimp only at hSw); go_simp; (try with_reducible rfl)
          (try simp only [Act.put, List.setIfInBounds_toArray, List.set_cons_zero, List.set_cons_succ])
          refine wpAnyH_ready (rs := [9]) (by kernel_rfl) (by simp) ?_
          refine AllReadyH.cons rfl (fun K hK => ?_) AllReadyH.nil
          go_simp
          refine (hkn bs_0).mono ?_
          rintro e w_1 ⟨rfl, hb_1⟩
          have bs_1 := bs_0.trans (hb_1.mono bs_0.size)
          (try go_wp2_with (fail))
          refine hK.out _ _ ?_ (fun hHeld => ?_)
          · exact ⟨rowCells (keepHeap bs_1 hAr), (bs_1.cell (World.block_lt_of_cell? _ _ cm)).trans cm⟩
          clear hK K
          (try simp only [Act.put, List.setIfInBounds_toArray, List.set_cons_zero, List.set_cons_succ])
          refine take_on (i := 10) (v := ?_) (some 88) rfl (by kernel_rfl) (by kernel_rfl) (by kernel_rfl) rfl (fun _ _ _ h => h) (by rfl) ?_ (by assumption) ?_
          rotate_left
          · intro w hSw; (try dsimp only at hSw); go_simp; (try with_reducible rfl)
          (try simp only [Act.put, List.setIfInBounds_toArray, List.set_cons_zero, List.set_cons_succ])
          refine take_on (i := 11) (v := ?_) (some 89) rfl (by kernel_rfl) (by kernel_rfl) (by kernel_rfl) rfl (fun _ _ _ h => h) (by rfl) ?_ (by assumption) ?_
          rotate_left
          · intro w hSw; (try dsimp only at hSw); go_simp; (try with_reducible rfl)
          (try simp only [Act.put, List.setIfInBounds_toArray, List.set_cons_zero, List.set_cons_succ])
          refine take_on (i := 12) (v := ?_) (some 90) rfl (by kernel_rfl) (by kernel_rfl) (by kernel_rfl) rfl (fun _ _ _ h => h) (wanted_on (k := 11) (d := 89) (b := true) rfl rfl rfl) ?_ (by assumption) ?_
          rotate_left
          · intro w hSw; (try dsimp only at hSw); go_simp; (try with_reducible rfl)
          (try simp only [Act.put, List.setIfInBounds_toArray, List.set_cons_zero, List.set_cons_succ])
          refine take_on (i := 13) (v := ?_) (some 91) rfl (by kernel_rfl) (by kernel_rfl) (by kernel_rfl) rfl (fun _ _ _ h => h) (wanted_on (k := 11) (d := 89) (b := true) rfl rfl rfl) ?_ (by assumption) ?_
          rotate_left
          · intro w hSw; (try dsimp only at hSw); go_simp; (try with_reducible rfl)
          (try simp only [Act.put, List.setIfInBounds_toArray, List.set_cons_zero, List.set_cons_succ])
          refine take_on (i := 14) (v := ?_) (some 92) rfl (by kernel_rfl) (by kernel_rfl) (by kernel_rfl) rfl (fun _ _ _ h => h) (wanted_on (k := 11) (d := 89) (b := true) rfl rfl rfl) ?_ (by assumption) ?_
          rotate_left
          · intro w hSw; (try dsimp only at hSw); go_simp; (try with_reducible rfl)
          (try simp only [Act.put, List.setIfInBounds_toArray, List.set_cons_zero, List.set_cons_succ])
          refine take_on (i := 15) (v := ?_) (some 93) rfl (by kernel_rfl) (by kernel_rfl) (by kernel_rfl) rfl (fun _ _ _ h => h) (wanted_on (k := 11) (d := 89) (b := true) rfl rfl rfl) ?_ (by assumption) ?_
          rotate_left
          · intro w hSw; (try dsimp only at hSw); go_simp; (try with_reducible rfl)
          (try simp only [Act.put, List.setIfInBounds_toArray, List.set_cons_zero, List.set_cons_succ])
          refine take_on (i := 16) (v := ?_) (some 94) rfl (by kernel_rfl) (by kernel_rfl) (by kernel_rfl) rfl (fun _ _ _ h => h) (wanted_on (k := 11) (d := 89) (b := true) rfl rfl rfl) ?_ (by assumption) ?_
          rotate_left
          · intro w hSw; (try dsimp only at hSw); go_simp; (try with_reducible rfl)
          (try simp only [Act.put, List.setIfInBounds_toArray, List.set_cons_zero, List.set_cons_succ])
          refine take_on (i := 17) (v := ?_) (some 95) rfl (by kernel_rfl) (by kernel_rfl) (by kernel_rfl) rfl (fun _ _ _ h => h) (wanted_on (k := 11) (d := 89) (b := true) rfl rfl rfl) ?_ (by assumption) ?_
          rotate_left
          · intro w hSw; (try dsimp only at hSw); go_simp; (try with_reducible rfl)
          (try simp only [Act.put, List.setIfInBounds_toArray, List.set_cons_zero, List.set_cons_succ])
          refine take_on (i := 18) (v := ?_) (some 96) rfl (by kernel_rfl) (by kernel_rfl) (by kernel_rfl) rfl (fun _ _ _ h => h) (wanted_on (k := 11) (d := 89) (b := true) rfl rfl rfl) ?_ (by assumption) ?_
          rotate_left
          · intro w hSw; (try dsimp only at hSw); go_simp; (try with_reducible rfl)
          (try simp only [Act.put, List.setIfInBounds_toArray, List.set_cons_zero, List.set_cons_succ])
          refine take_on (i := 19) (v := ?_) (some 97) rfl (by kernel_rfl) (by kernel_rfl) (by kernel_rfl) rfl (fun _ _ _ h => h) (wanted_on (k := 11) (d := 89) (b := true) rfl rfl rfl) ?_ (by assumption) ?_
          rotate_left
          · intro w hSw; (try dsimp only at hSw); go_simp; (try with_reducible rfl)
          (try simp only [Act.put, List.setIfInBounds_toArray, List.set_cons_zero, List.set_cons_succ])
          refine take_on (i := 20) (v := ?_) (some 98) rfl (by kernel_rfl) (by kernel_rfl) (by kernel_rfl) rfl (fun _ _ _ h => h) (wanted_on (k := 11) (d := 89) (b := true) rfl rfl rfl) ?_ (by assumption) ?_
          rotate_left
          · intro w hSw; (try dsimp only at hSw); go_simp; (try with_reducible rfl)
          (try simp only [Act.put, List.setIfInBounds_toArray, List.set_cons_zero, List.set_cons_succ])
          refine take_on (i := 21) (v := ?_) (some 99) rfl (by kernel_rfl) (by kernel_rfl) (by kernel_rfl) rfl (fun _ _ _ h => h) (wanted_on (k := 11) (d := 89) (b := true) rfl rfl rfl) ?_ (by assumption) ?_
          rotate_left
          · intro w hSw; (try dsimp only at hSw); go_simp; (try with_reducible rfl)
          (try simp only [Act.put, List.setIfInBounds_toArray, List.set_cons_zero, List.set_cons_succ])
          refine take_on (i := 22) (v := ?_) (some 100) rfl (by kernel_rfl) (by kernel_rfl) (by kernel_rfl) rfl (fun _ _ _ h => h) (wanted_on (k := 11) (d := 89) (b := true) rfl rfl rfl) ?_ (by assumption) ?_
          rotate_left
          · intro w hSw; (try dsimp only at hSw); go_simp; (try with_reducible rfl)
          (try simp only [Act.put, List.setIfInBounds_toArray, List.set_cons_zero, List.set_cons_succ])
          refine take_on (i := 23) (v := ?_) (some 101) rfl (by kernel_rfl) (by kernel_rfl) (by kernel_rfl) rfl (fun _ _ _ h => h) (wanted_on (k := 11) (d := 89) (b := true) rfl rfl rfl) ?_ (by assumption) ?_
          rotate_left
          · intro w hSw; (try dsimp only at hSw); go_simp; (try with_reducible rfl)
          (try simp only [Act.put, List.setIfInBounds_toArray, List.set_cons_zero, List.set_cons_succ])
          refine take_on (i := 24) (v := ?_) (some 102) rfl (by kernel_rfl) (by kernel_rfl) (by kernel_rfl) rfl (fun _ _ _ h => h) (wanted_on (k := 11) (d := 89) (b := true) rfl rfl rfl) ?_ (by assumption) ?_
          rotate_left
          · intro w hSw; (try dsimp only at hSw); go_simp; (try with_reducible rfl)
          (try simp only [Act.put, List.setIfInBounds_toArray, List.set_cons_zero, List.set_cons_succ])
          refine take_on (i := 25) (v := ?_) (some 103) rfl (by kernel_rfl) (by kernel_rfl) (by kernel_rfl) rfl (fun _ _ _ h => h) (wanted_on (k := 11) (d := 89) (b := true) rfl rfl rfl) ?_ (by assumption) ?_
          rotate_left
          · intro w hSw; (try dsimp only at hSw); go_simp; (try with_reducible rfl)
          (try simp only [Act.put, List.setIfInBounds_toArray, List.set_cons_zero, List.set_cons_succ])
          refine take_on (i := 26) (v := ?_) (some 104) rfl (by kernel_rfl) (by kernel_rfl) (by kernel_rfl) rfl (fun _ _ _ h => h) (wanted_on (k := 11) (d := 89) (b := true) rfl rfl rfl) ?_ (by assumption) ?_
          rotate_left
          · intro w hSw; (try dsimp only at hSw); go_simp; (try with_reducible rfl)
          (try simp only [Act.put, List.setIfInBounds_toArray, List.set_cons_zero, List.set_cons_succ])
          refine take_on (i := 27) (v := ?_) (some 105) rfl (by kernel_rfl) (by kernel_rfl) (by kernel_rfl) rfl (fun _ _ _ h => h) (wanted_on (k := 11) (d := 89) (b := true) rfl rfl rfl) ?_ (by assumption) ?_
          rotate_left
          · intro w hSw; (try dsimp only at hSw); go_simp; (try with_reducible rfl)
          (try simp only [Act.put, List.setIfInBounds_toArray, List.set_cons_zero, List.set_cons_succ])
          refine take_on (i := 28) (v := ?_) (some 106) rfl (by kernel_rfl) (by kernel_rfl) (by kernel_rfl) rfl (fun _ _ _ h => h) (wanted_on (k := 11) (d := 89) (b := true) rfl rfl rfl) ?_ (by assumption) ?_
          rotate_left
          · intro w hSw; (try dsimp only at hSw); go_simp; (try with_reducible rfl)
          (try simp only [Act.put, List.setIfInBounds_toArray, List.set_cons_zero, List.set_cons_succ])
          refine take_on (i := 29) (v := ?_) (some 107) rfl (by kernel_rfl) (by kernel_rfl) (by kernel_rfl) rfl (fun _ _ _ h => h) (wanted_on (k := 11) (d := 89) (b := true) rfl rfl rfl) ?_ (by assumption) ?_
          rotate_left
          · intro w hSw; (try dsimp only at hSw); go_simp; (try with_reducible rfl)
          (try simp only [Act.put, List.setIfInBounds_toArray, List.set_cons_zero, List.set_cons_succ])
          refine take_on (i := 30) (v := ?_) (some 108) rfl (by kernel_rfl) (by kernel_rfl) (by kernel_rfl) rfl (fun _ _ _ h => h) (by rfl) ?_ (by assumption) ?_
          rotate_left
          · intro w hSw; (try dsimp only at hSw); go_simp; (try with_reducible rfl)
          (try simp only [Act.put, List.setIfInBounds_toArray, List.set_cons_zero, List.set_cons_succ])
          refine take_on (i := 31) (v := ?_) (some 109) rfl (by kernel_rfl) (by kernel_rfl) (by kernel_rfl) rfl (fun _ _ _ h => h) (by rfl) ?_ (by assumption) ?_
          rotate_left
          · intro w hSw; (try dsimp only at hSw); go_simp; (try with_reducible rfl)
          (try simp only [Act.put, List.setIfInBounds_toArray, List.set_cons_zero, List.set_cons_succ])
          refine take_on (i := 32) (v := ?_) (some 110) rfl (by kernel_rfl) (by kernel_rfl) (by kernel_rfl) rfl (fun _ _ _ h => h) (wanted_on (k := 31) (d := 109) (b := true) rfl rfl rfl) ?_ (by assumption) ?_
          rotate_left
          · intro w hSw; (try dsimp only at hSw); go_simp; (try with_reducible rfl)
          (try simp only [Act.put, List.setIfInBounds_toArray, List.set_cons_zero, List.set_cons_succ])
          refine take_on (i := 33) (v := ?_) (some 111) rfl (by kernel_rfl) (by kernel_rfl) (by kernel_rfl) rfl (fun _ _ _ h => h) (wanted_on (k := 31) (d := 109) (b := true) rfl rfl rfl) ?_ (by assumption) ?_
          rotate_left
          · intro w hSw; (try dsimp only at hSw); go_simp; (try with_reducible rfl)
          (try simp only [Act.put, List.setIfInBounds_toArray, List.set_cons_zero, List.set_cons_succ])
          refine take_on (i := 34) (v := ?_) (some 112) rfl (by kernel_rfl) (by kernel_rfl) (by kernel_rfl) rfl (fun _ _ _ h => h) (wanted_on (k := 31) (d := 109) (b := true) rfl rfl rfl) ?_ (by assumption) ?_
          rotate_left
          · intro w hSw; (try dsimp only at hSw); go_simp; (try with_reducible rfl)
          (try simp only [Act.put, List.setIfInBounds_toArray, List.set_cons_zero, List.set_cons_succ])
          refine take_on (i := 35) (v := ?_) (some 113) rfl (by kernel_rfl) (by kernel_rfl) (by kernel_rfl) rfl (fun _ _ _ h => h) (wanted_on (k := 31) (d := 109) (b := true) rfl rfl rfl) ?_ (by assumption) ?_
          rotate_left
          · intro w hSw; (try dsimp only at hSw); go_simp; (try with_reducible rfl)
          (try simp only [Act.put, List.setIfInBounds_toArray, List.set_cons_zero, List.set_cons_succ])
          refine take_on (i := 36) (v := ?_) (some 114) rfl (by kernel_rfl) (by kernel_rfl) (by kernel_rfl) rfl (fun _ _ _ h => h) (wanted_on (k := 31) (d := 109) (b := true) rfl rfl rfl) ?_ (by assumption) ?_
          rotate_left
          · intro w hSw; (try dsimp only at hSw); go_simp; (try with_reducible rfl)
          (try simp only [Act.put, List.setIfInBounds_toArray, List.set_cons_zero, List.set_cons_succ])
          refine take_on (i := 37) (v := ?_) (some 115) rfl (by kernel_rfl) (by kernel_rfl) (by kernel_rfl) rfl (fun _ _ _ h => h) (wanted_on (k := 31) (d := 109) (b := true) rfl rfl rfl) ?_ (by assumption) ?_
          rotate_left
          · intro w hSw; (try dsimp only at hSw); go_simp; (try with_reducible rfl)
          (try simp only [Act.put, List.setIfInBounds_toArray, List.set_cons_zero, List.set_cons_succ])
          refine take_on (i := 38) (v := ?_) (some 116) rfl (by kernel_rfl) (by kernel_rfl) (by kernel_rfl) rfl (fun _ _ _ h => h) (wanted_on (k := 31) (d := 109) (b := true) rfl rfl rfl) ?_ (by assumption) ?_
          rotate_left
          · intro w hSw; (try dsimp only at hSw); go_simp; (try with_reducible rfl)
          (try simp only [Act.put, List.setIfInBounds_toArray, List.set_cons_zero, List.set_cons_succ])
          refine take_on (i := 39) (v := ?_) (some 117) rfl (by kernel_rfl) (by kernel_rfl) (by kernel_rfl) rfl (fun _ _ _ h => h) (wanted_on (k := 31) (d := 109) (b := true) rfl rfl rfl) ?_ (by assumption) ?_
          rotate_left
          · intro w hSw; (try dsimp only at hSw); go_simp; (try with_reducible rfl)
          (try simp only [Act.put, List.setIfInBounds_toArray, List.set_cons_zero, List.set_cons_succ])
          refine take_on (i := 40) (v := ?_) (some 118) rfl (by kernel_rfl) (by kernel_rfl) (by kernel_rfl) rfl (fun _ _ _ h => h) (wanted_on (k := 31) (d := 109) (b := true) rfl rfl rfl) ?_ (by assumption) ?_
          rotate_left
          · intro w hSw; (try dsimp only at hSw); go_simp; (try with_reducible rfl)
          (try simp only [Act.put, List.setIfInBounds_toArray, List.set_cons_zero, List.set_cons_succ])
          refine take_on (i := 41) (v := ?_) (some 119) rfl (by kernel_rfl) (by kernel_rfl) (by kernel_rfl) rfl (fun _ _ _ h => h) (wanted_on (k := 31) (d := 109) (b := true) rfl rfl rfl) ?_ (by assumption) ?_
          rotate_left
          · intro w hSw; (try dsimp only at hSw); go_simp; (try with_reducible rfl)
          (try simp only [Act.put, List.setIfInBounds_toArray, List.set_cons_zero, List.set_cons_succ])
          refine take_on (i := 42) (v := ?_) (some 120) rfl (by kernel_rfl) (by kernel_rfl) (by kernel_rfl) rfl (fun _ _ _ h => h) (wanted_on (k := 31) (d := 109) (b := true) rfl rfl rfl) ?_ (by assumption) ?_
          rotate_left
          · intro w hSw; (try dsimp only at hSw); go_simp; (try with_reducible rfl)
          (try simp only [Act.put, List.setIfInBounds_toArray, List.set_cons_zero, List.set_cons_succ])
          refine take_on (i := 43) (v := ?_) (some 121) rfl (by kernel_rfl) (by kernel_rfl) (by kernel_rfl) rfl (fun _ _ _ h => h) (wanted_on (k := 31) (d := 109) (b := true) rfl rfl rfl) ?_ (by assumption) ?_
          rotate_left
          · intro w hSw; (try dsimp only at hSw); go_simp; (try with_reducible rfl)
          (try simp only [Act.put, List.setIfInBounds_toArray, List.set_cons_zero, List.set_cons_succ])
          refine take_on (i := 44) (v := ?_) (some 122) rfl (by kernel_rfl) (by kernel_rfl) (by kernel_rfl) rfl (fun _ _ _ h => h) (by rfl) ?_ (by assumption) ?_
          rotate_left
          · intro w hSw; (try dsimp only at hSw); go_simp; (try with_reducible rfl)
          (try simp only [Act.put, List.setIfInBounds_toArray, List.set_cons_zero, List.set_cons_succ])
          refine take_on (i := 45) (v := ?_) (some 2) rfl (by kernel_rfl) (by kernel_rfl) (by kernel_rfl) rfl (fun _ _ _ h => h) (by rfl) ?_ (by assumption) ?_
          rotate_left
          · intro w hSw; (try dsimp only at hSw); go_simp; (try with_reducible rfl)
          (try simp only [Act.put, List.setIfInBounds_toArray, List.set_cons_zero, List.set_cons_succ])
          refine wpAnyH_done (by kernel_rfl) ?_ _
          have HF := Lib.hid HF0.out
          go_wp2_with (fail)
          go_ret
          exact ⟨by rw [HTL.out, HF.out]; first | rfl | (simp; done) | (rw [HWT.out]; exact Bool.beq_eq_decide_eq _ _) | (simp [HWT.out]; exact Bool.beq_eq_decide_eq _ _), hbel.trans (bs_1.mono hqr)⟩
        · have z6 : decide (p.now.tick ≤ (nm : Int)) = false := by simpa using e6
          have HF0 := Lib.hid (TM.out e6)
          clear e5 e6
          go_upto_region 10 with (fail)
          have bs_0 : Below wr.heap.size wr wr.drew := belowDrew wr 1
          refine wp_region_held_drew (S := (fun w' => (∀ j, w'.cell? ⟨B, j, none⟩ = #[Value.int .i64 (m : Int), .int .i64 p.delay, .int .i64 p.ahead, .int .i64 p.seed, (.slice (some ⟨bt, ot, none⟩) p.tracks.length c0), (.slice a1 p.base.rows.length c1), .int .i64 p.base.tick, .int .i64 p.base.seed, (.slice a2 p.base.scores.length c2), (.slice a3 p.base.bods.length c3), (.slice a4 p.now.rows.length c4), .int .i64 p.now.tick, .int .i64 p.now.seed, (.slice a5 p.now.scores.length c5), (.slice a6 p.now.bods.length c6), (.slice a7 p.used.length c7), (.slice a8 p.saves.length c8), (.slice a9 p.sums.length c9), .int .i64 p.fault.tick, .int .i64 p.fault.player, .int .i64 p.fault.add, .int .i64 p.rolls, .int .i64 p.again][j]?) ∧ w'.cell? ⟨bt, ot + m, none⟩ = some (.slice am nm xm))) (by kernel_rfl) ?_ (fun hHeld => ?_)
          · exact ⟨rowCells (keepHeap bs_0 hAr), (bs_0.cell (World.block_lt_of_cell? _ _ cm)).trans cm⟩
          refine take_on (i := 0) (v := ?_) (some 78) rfl (by kernel_rfl) (by kernel_rfl) (by kernel_rfl) rfl (fun _ _ _ h => h) (by rfl) ?_ (by assumption) ?_
          rotate_left
          · intro w hSw; (try dsimp only at hSw); go_simp; (try with_reducible rfl)
          (try simp only [Act.put, List.setIfInBounds_toArray, List.set_cons_zero, List.set_cons_succ])
          refine take_on (i := 1) (v := ?_) (some 79) rfl (by kernel_rfl) (by kernel_rfl) (by kernel_rfl) rfl (fun _ _ _ h => h) (by rfl) ?_ (by assumption) ?_
          rotate_left
          · intro w hSw; (try dsimp only at hSw); go_simp; (try with_reducible rfl)
          (try simp only [Act.put, List.setIfInBounds_toArray, List.set_cons_zero, List.set_cons_succ])
          refine take_on (i := 2) (v := ?_) (some 80) rfl (by kernel_rfl) (by kernel_rfl) (by kernel_rfl) rfl (fun _ _ _ h => h) (by rfl) ?_ (by assumption) ?_
          rotate_left
          · intro w hSw; (try dsimp only at hSw); go_simp; (try with_reducible rfl)
          (try simp only [Act.put, List.setIfInBounds_toArray, List.set_cons_zero, List.set_cons_succ])
          refine take_on (i := 3) (v := ?_) (some 81) rfl (by kernel_rfl) (by kernel_rfl) (by kernel_rfl) rfl (fun _ _ _ h => h) (by rfl) ?_ (by assumption) ?_
          rotate_left
          · intro w hSw; (try dsimp only at hSw); go_simp; (try with_reducible rfl)
          (try simp only [Act.put, List.setIfInBounds_toArray, List.set_cons_zero, List.set_cons_succ])
          refine take_on (i := 4) (v := ?_) (some 82) rfl (by kernel_rfl) (by kernel_rfl) (by kernel_rfl) rfl (fun _ _ _ h => h) (by rfl) ?_ (by assumption) ?_
          rotate_left
          · intro w hSw; (try dsimp only at hSw); go_simp; (try with_reducible rfl)
          (try simp only [Act.put, List.setIfInBounds_toArray, List.set_cons_zero, List.set_cons_succ])
          refine take_on (i := 5) (v := ?_) (some 83) rfl (by kernel_rfl) (by kernel_rfl) (by kernel_rfl) rfl (fun _ _ _ h => h) (by rfl) ?_ (by assumption) ?_
          rotate_left
          · intro w hSw; (try dsimp only at hSw); go_simp; (try with_reducible rfl)
          (try simp only [Act.put, List.setIfInBounds_toArray, List.set_cons_zero, List.set_cons_succ])
          refine take_on (i := 6) (v := ?_) (some 84) rfl (by kernel_rfl) (by kernel_rfl) (by kernel_rfl) rfl (fun _ _ _ h => h) (by rfl) ?_ (by assumption) ?_
          rotate_left
          · intro w hSw; (try dsimp only at hSw); go_simp; (try with_reducible rfl)
          (try simp only [Act.put, List.setIfInBounds_toArray, List.set_cons_zero, List.set_cons_succ])
          refine take_on (i := 7) (v := ?_) (some 85) rfl (by kernel_rfl) (by kernel_rfl) (by kernel_rfl) rfl (fun _ _ _ h => h) (by rfl) ?_ (by assumption) ?_
          rotate_left
          · intro w hSw; (try dsimp only at hSw); go_simp; (try with_reducible rfl)
          (try simp only [Act.put, List.setIfInBounds_toArray, List.set_cons_zero, List.set_cons_succ])
          refine take_on (i := 8) (v := ?_) (some 86) rfl (by kernel_rfl) (by kernel_rfl) (by kernel_rfl) rfl (fun _ _ _ h => h) (by rfl) ?_ (by assumption) ?_
          rotate_left
          · intro w hSw; (try dsimp only at hSw); go_simp; (try with_reducible rfl)
          (try simp only [Act.put, List.setIfInBounds_toArray, List.set_cons_zero, List.set_cons_succ])
          refine wpAnyH_ready (rs := [9]) (by kernel_rfl) (by simp) ?_
          refine AllReadyH.cons rfl (fun K hK => ?_) AllReadyH.nil
          go_simp
          refine (hkn bs_0).mono ?_
          rintro e w_1 ⟨rfl, hb_1⟩
          have bs_1 := bs_0.trans (hb_1.mono bs_0.size)
          (try go_wp2_with (fail))
          refine hK.out _ _ ?_ (fun hHeld => ?_)
          · exact ⟨rowCells (keepHeap bs_1 hAr), (bs_1.cell (World.block_lt_of_cell? _ _ cm)).trans cm⟩
          clear hK K
          (try simp only [Act.put, List.setIfInBounds_toArray, List.set_cons_zero, List.set_cons_succ])
          refine take_on (i := 10) (v := ?_) (some 88) rfl (by kernel_rfl) (by kernel_rfl) (by kernel_rfl) rfl (fun _ _ _ h => h) (by rfl) ?_ (by assumption) ?_
          rotate_left
          · intro w hSw; (try dsimp only at hSw); go_simp; (try with_reducible rfl)
          (try simp only [Act.put, List.setIfInBounds_toArray, List.set_cons_zero, List.set_cons_succ])
          refine take_on (i := 11) (v := ?_) (some 89) rfl (by kernel_rfl) (by kernel_rfl) (by kernel_rfl) rfl (fun _ _ _ h => h) (by rfl) ?_ (by assumption) ?_
          rotate_left
          · intro w hSw; (try dsimp only at hSw); go_simp; (try with_reducible rfl)
          (try simp only [Act.put, List.setIfInBounds_toArray, List.set_cons_zero, List.set_cons_succ])
          refine take_on (i := 12) (v := ?_) (some 90) rfl (by kernel_rfl) (by kernel_rfl) (by kernel_rfl) rfl (fun _ _ _ h => h) (wanted_on (k := 11) (d := 89) (b := true) rfl rfl rfl) ?_ (by assumption) ?_
          rotate_left
          · intro w hSw; (try dsimp only at hSw); go_simp; (try with_reducible rfl)
          (try simp only [Act.put, List.setIfInBounds_toArray, List.set_cons_zero, List.set_cons_succ])
          refine take_on (i := 13) (v := ?_) (some 91) rfl (by kernel_rfl) (by kernel_rfl) (by kernel_rfl) rfl (fun _ _ _ h => h) (wanted_on (k := 11) (d := 89) (b := true) rfl rfl rfl) ?_ (by assumption) ?_
          rotate_left
          · intro w hSw; (try dsimp only at hSw); go_simp; (try with_reducible rfl)
          (try simp only [Act.put, List.setIfInBounds_toArray, List.set_cons_zero, List.set_cons_succ])
          refine take_on (i := 14) (v := ?_) (some 92) rfl (by kernel_rfl) (by kernel_rfl) (by kernel_rfl) rfl (fun _ _ _ h => h) (wanted_on (k := 11) (d := 89) (b := true) rfl rfl rfl) ?_ (by assumption) ?_
          rotate_left
          · intro w hSw; (try dsimp only at hSw); go_simp; (try with_reducible rfl)
          (try simp only [Act.put, List.setIfInBounds_toArray, List.set_cons_zero, List.set_cons_succ])
          refine take_on (i := 15) (v := ?_) (some 93) rfl (by kernel_rfl) (by kernel_rfl) (by kernel_rfl) rfl (fun _ _ _ h => h) (wanted_on (k := 11) (d := 89) (b := true) rfl rfl rfl) ?_ (by assumption) ?_
          rotate_left
          · intro w hSw; (try dsimp only at hSw); go_simp; (try with_reducible rfl)
          (try simp only [Act.put, List.setIfInBounds_toArray, List.set_cons_zero, List.set_cons_succ])
          refine take_on (i := 16) (v := ?_) (some 94) rfl (by kernel_rfl) (by kernel_rfl) (by kernel_rfl) rfl (fun _ _ _ h => h) (wanted_on (k := 11) (d := 89) (b := true) rfl rfl rfl) ?_ (by assumption) ?_
          rotate_left
          · intro w hSw; (try dsimp only at hSw); go_simp; (try with_reducible rfl)
          (try simp only [Act.put, List.setIfInBounds_toArray, List.set_cons_zero, List.set_cons_succ])
          refine take_on (i := 17) (v := ?_) (some 95) rfl (by kernel_rfl) (by kernel_rfl) (by kernel_rfl) rfl (fun _ _ _ h => h) (wanted_on (k := 11) (d := 89) (b := true) rfl rfl rfl) ?_ (by assumption) ?_
          rotate_left
          · intro w hSw; (try dsimp only at hSw); go_simp; (try with_reducible rfl)
          (try simp only [Act.put, List.setIfInBounds_toArray, List.set_cons_zero, List.set_cons_succ])
          refine take_on (i := 18) (v := ?_) (some 96) rfl (by kernel_rfl) (by kernel_rfl) (by kernel_rfl) rfl (fun _ _ _ h => h) (wanted_on (k := 11) (d := 89) (b := true) rfl rfl rfl) ?_ (by assumption) ?_
          rotate_left
          · intro w hSw; (try dsimp only at hSw); go_simp; (try with_reducible rfl)
          (try simp only [Act.put, List.setIfInBounds_toArray, List.set_cons_zero, List.set_cons_succ])
          refine take_on (i := 19) (v := ?_) (some 97) rfl (by kernel_rfl) (by kernel_rfl) (by kernel_rfl) rfl (fun _ _ _ h => h) (wanted_on (k := 11) (d := 89) (b := true) rfl rfl rfl) ?_ (by assumption) ?_
          rotate_left
          · intro w hSw; (try dsimp only at hSw); go_simp; (try with_reducible rfl)
          (try simp only [Act.put, List.setIfInBounds_toArray, List.set_cons_zero, List.set_cons_succ])
          refine take_on (i := 20) (v := ?_) (some 98) rfl (by kernel_rfl) (by kernel_rfl) (by kernel_rfl) rfl (fun _ _ _ h => h) (wanted_on (k := 11) (d := 89) (b := true) rfl rfl rfl) ?_ (by assumption) ?_
          rotate_left
          · intro w hSw; (try dsimp only at hSw); go_simp; (try with_reducible rfl)
          (try simp only [Act.put, List.setIfInBounds_toArray, List.set_cons_zero, List.set_cons_succ])
          refine take_on (i := 21) (v := ?_) (some 99) rfl (by kernel_rfl) (by kernel_rfl) (by kernel_rfl) rfl (fun _ _ _ h => h) (wanted_on (k := 11) (d := 89) (b := true) rfl rfl rfl) ?_ (by assumption) ?_
          rotate_left
          · intro w hSw; (try dsimp only at hSw); go_simp; (try with_reducible rfl)
          (try simp only [Act.put, List.setIfInBounds_toArray, List.set_cons_zero, List.set_cons_succ])
          refine take_on (i := 22) (v := ?_) (some 100) rfl (by kernel_rfl) (by kernel_rfl) (by kernel_rfl) rfl (fun _ _ _ h => h) (wanted_on (k := 11) (d := 89) (b := true) rfl rfl rfl) ?_ (by assumption) ?_
          rotate_left
          · intro w hSw; (try dsimp only at hSw); go_simp; (try with_reducible rfl)
          (try simp only [Act.put, List.setIfInBounds_toArray, List.set_cons_zero, List.set_cons_succ])
          refine take_on (i := 23) (v := ?_) (some 101) rfl (by kernel_rfl) (by kernel_rfl) (by kernel_rfl) rfl (fun _ _ _ h => h) (wanted_on (k := 11) (d := 89) (b := true) rfl rfl rfl) ?_ (by assumption) ?_
          rotate_left
          · intro w hSw; (try dsimp only at hSw); go_simp; (try with_reducible rfl)
          (try simp only [Act.put, List.setIfInBounds_toArray, List.set_cons_zero, List.set_cons_succ])
          refine take_on (i := 24) (v := ?_) (some 102) rfl (by kernel_rfl) (by kernel_rfl) (by kernel_rfl) rfl (fun _ _ _ h => h) (wanted_on (k := 11) (d := 89) (b := true) rfl rfl rfl) ?_ (by assumption) ?_
          rotate_left
          · intro w hSw; (try dsimp only at hSw); go_simp; (try with_reducible rfl)
          (try simp only [Act.put, List.setIfInBounds_toArray, List.set_cons_zero, List.set_cons_succ])
          refine take_on (i := 25) (v := ?_) (some 103) rfl (by kernel_rfl) (by kernel_rfl) (by kernel_rfl) rfl (fun _ _ _ h => h) (wanted_on (k := 11) (d := 89) (b := true) rfl rfl rfl) ?_ (by assumption) ?_
          rotate_left
          · intro w hSw; (try dsimp only at hSw); go_simp; (try with_reducible rfl)
          (try simp only [Act.put, List.setIfInBounds_toArray, List.set_cons_zero, List.set_cons_succ])
          refine take_on (i := 26) (v := ?_) (some 104) rfl (by kernel_rfl) (by kernel_rfl) (by kernel_rfl) rfl (fun _ _ _ h => h) (wanted_on (k := 11) (d := 89) (b := true) rfl rfl rfl) ?_ (by assumption) ?_
          rotate_left
          · intro w hSw; (try dsimp only at hSw); go_simp; (try with_reducible rfl)
          (try simp only [Act.put, List.setIfInBounds_toArray, List.set_cons_zero, List.set_cons_succ])
          refine take_on (i := 27) (v := ?_) (some 105) rfl (by kernel_rfl) (by kernel_rfl) (by kernel_rfl) rfl (fun _ _ _ h => h) (wanted_on (k := 11) (d := 89) (b := true) rfl rfl rfl) ?_ (by assumption) ?_
          rotate_left
          · intro w hSw; (try dsimp only at hSw); go_simp; (try with_reducible rfl)
          (try simp only [Act.put, List.setIfInBounds_toArray, List.set_cons_zero, List.set_cons_succ])
          refine take_on (i := 28) (v := ?_) (some 106) rfl (by kernel_rfl) (by kernel_rfl) (by kernel_rfl) rfl (fun _ _ _ h => h) (wanted_on (k := 11) (d := 89) (b := true) rfl rfl rfl) ?_ (by assumption) ?_
          rotate_left
          · intro w hSw; (try dsimp only at hSw); go_simp; (try with_reducible rfl)
          (try simp only [Act.put, List.setIfInBounds_toArray, List.set_cons_zero, List.set_cons_succ])
          refine take_on (i := 29) (v := ?_) (some 107) rfl (by kernel_rfl) (by kernel_rfl) (by kernel_rfl) rfl (fun _ _ _ h => h) (wanted_on (k := 11) (d := 89) (b := true) rfl rfl rfl) ?_ (by assumption) ?_
          rotate_left
          · intro w hSw; (try dsimp only at hSw); go_simp; (try with_reducible rfl)
          (try simp only [Act.put, List.setIfInBounds_toArray, List.set_cons_zero, List.set_cons_succ])
          refine take_on (i := 30) (v := ?_) (some 108) rfl (by kernel_rfl) (by kernel_rfl) (by kernel_rfl) rfl (fun _ _ _ h => h) (by rfl) ?_ (by assumption) ?_
          rotate_left
          · intro w hSw; (try dsimp only at hSw); go_simp; (try with_reducible rfl)
          (try simp only [Act.put, List.setIfInBounds_toArray, List.set_cons_zero, List.set_cons_succ])
          refine take_on (i := 31) (v := ?_) (some 109) rfl (by kernel_rfl) (by kernel_rfl) (by kernel_rfl) rfl (fun _ _ _ h => h) (by rfl) ?_ (by assumption) ?_
          rotate_left
          · intro w hSw; (try dsimp only at hSw); go_simp; (try with_reducible rfl)
          (try simp only [Act.put, List.setIfInBounds_toArray, List.set_cons_zero, List.set_cons_succ])
          refine take_off (i := 32) (some 110) rfl (by kernel_rfl) (by kernel_rfl) (by kernel_rfl) rfl (fun _ _ _ h => h) (wanted_off (k := 31) (d := 109) (b := true) (c := false) rfl rfl rfl rfl) (by assumption) ?_
          (try simp only [Act.put, List.setIfInBounds_toArray, List.set_cons_zero, List.set_cons_succ])
          refine take_off (i := 33) (some 111) rfl (by kernel_rfl) (by kernel_rfl) (by kernel_rfl) rfl (fun _ _ _ h => h) (wanted_off (k := 31) (d := 109) (b := true) (c := false) rfl rfl rfl rfl) (by assumption) ?_
          (try simp only [Act.put, List.setIfInBounds_toArray, List.set_cons_zero, List.set_cons_succ])
          refine take_off (i := 34) (some 112) rfl (by kernel_rfl) (by kernel_rfl) (by kernel_rfl) rfl (fun _ _ _ h => h) (wanted_off (k := 31) (d := 109) (b := true) (c := false) rfl rfl rfl rfl) (by assumption) ?_
          (try simp only [Act.put, List.setIfInBounds_toArray, List.set_cons_zero, List.set_cons_succ])
          refine take_off (i := 35) (some 113) rfl (by kernel_rfl) (by kernel_rfl) (by kernel_rfl) rfl (fun _ _ _ h => h) (wanted_off (k := 31) (d := 109) (b := true) (c := false) rfl rfl rfl rfl) (by assumption) ?_
          (try simp only [Act.put, List.setIfInBounds_toArray, List.set_cons_zero, List.set_cons_succ])
          refine take_off (i := 36) (some 114) rfl (by kernel_rfl) (by kernel_rfl) (by kernel_rfl) rfl (fun _ _ _ h => h) (wanted_off (k := 31) (d := 109) (b := true) (c := false) rfl rfl rfl rfl) (by assumption) ?_
          (try simp only [Act.put, List.setIfInBounds_toArray, List.set_cons_zero, List.set_cons_succ])
          refine take_off (i := 37) (some 115) rfl (by kernel_rfl) (by kernel_rfl) (by kernel_rfl) rfl (fun _ _ _ h => h) (wanted_off (k := 31) (d := 109) (b := true) (c := false) rfl rfl rfl rfl) (by assumption) ?_
          (try simp only [Act.put, List.setIfInBounds_toArray, List.set_cons_zero, List.set_cons_succ])
          refine take_off (i := 38) (some 116) rfl (by kernel_rfl) (by kernel_rfl) (by kernel_rfl) rfl (fun _ _ _ h => h) (wanted_off (k := 31) (d := 109) (b := true) (c := false) rfl rfl rfl rfl) (by assumption) ?_
          (try simp only [Act.put, List.setIfInBounds_toArray, List.set_cons_zero, List.set_cons_succ])
          refine take_off (i := 39) (some 117) rfl (by kernel_rfl) (by kernel_rfl) (by kernel_rfl) rfl (fun _ _ _ h => h) (wanted_off (k := 31) (d := 109) (b := true) (c := false) rfl rfl rfl rfl) (by assumption) ?_
          (try simp only [Act.put, List.setIfInBounds_toArray, List.set_cons_zero, List.set_cons_succ])
          refine take_off (i := 40) (some 118) rfl (by kernel_rfl) (by kernel_rfl) (by kernel_rfl) rfl (fun _ _ _ h => h) (wanted_off (k := 31) (d := 109) (b := true) (c := false) rfl rfl rfl rfl) (by assumption) ?_
          (try simp only [Act.put, List.setIfInBounds_toArray, List.set_cons_zero, List.set_cons_succ])
          refine take_off (i := 41) (some 119) rfl (by kernel_rfl) (by kernel_rfl) (by kernel_rfl) rfl (fun _ _ _ h => h) (wanted_off (k := 31) (d := 109) (b := true) (c := false) rfl rfl rfl rfl) (by assumption) ?_
          (try simp only [Act.put, List.setIfInBounds_toArray, List.set_cons_zero, List.set_cons_succ])
          refine take_off (i := 42) (some 120) rfl (by kernel_rfl) (by kernel_rfl) (by kernel_rfl) rfl (fun _ _ _ h => h) (wanted_off (k := 31) (d := 109) (b := true) (c := false) rfl rfl rfl rfl) (by assumption) ?_
          (try simp only [Act.put, List.setIfInBounds_toArray, List.set_cons_zero, List.set_cons_succ])
          refine take_off (i := 43) (some 121) rfl (by kernel_rfl) (by kernel_rfl) (by kernel_rfl) rfl (fun _ _ _ h => h) (wanted_off (k := 31) (d := 109) (b := true) (c := false) rfl rfl rfl rfl) (by assumption) ?_
          (try simp only [Act.put, List.setIfInBounds_toArray, List.set_cons_zero, List.set_cons_succ])
          refine take_on (i := 44) (v := ?_) (some 122) rfl (by kernel_rfl) (by kernel_rfl) (by kernel_rfl) rfl (fun _ _ _ h => h) (by rfl) ?_ (by assumption) ?_
          rotate_left
          · intro w hSw; (try dsimp only at hSw); go_simp; (try with_reducible rfl)
          (try simp only [Act.put, List.setIfInBounds_toArray, List.set_cons_zero, List.set_cons_succ])
          refine take_on (i := 45) (v := ?_) (some 2) rfl (by kernel_rfl) (by kernel_rfl) (by kernel_rfl) rfl (fun _ _ _ h => h) (by rfl) ?_ (by assumption) ?_
          rotate_left
          · intro w hSw; (try dsimp only at hSw); go_simp; (try with_reducible rfl)
          (try simp only [Act.put, List.setIfInBounds_toArray, List.set_cons_zero, List.set_cons_succ])
          refine wpAnyH_done (by kernel_rfl) ?_ _
          have HF := Lib.hid HF0.out
          go_wp2_with (fail)
          go_ret
          exact ⟨by rw [HTL.out, HF.out]; first | rfl | (simp; done) | (rw [HWT.out]; exact Bool.beq_eq_decide_eq _ _) | (simp [HWT.out]; exact Bool.beq_eq_decide_eq _ _), hbel.trans (bs_1.mono hqr)⟩
      · have z5 : decide (p.base.tick ≤ kn) = false := by simpa using e5
        have HF0 := Lib.hid (TK.out e5)
        clear e5
        go_upto_region 10 with (fail)
        have bs_0 : Below wr.heap.size wr wr.drew := belowDrew wr 1
        refine wp_region_held_drew (S := (fun w' => (∀ j, w'.cell? ⟨B, j, none⟩ = #[Value.int .i64 (m : Int), .int .i64 p.delay, .int .i64 p.ahead, .int .i64 p.seed, (.slice (some ⟨bt, ot, none⟩) p.tracks.length c0), (.slice a1 p.base.rows.length c1), .int .i64 p.base.tick, .int .i64 p.base.seed, (.slice a2 p.base.scores.length c2), (.slice a3 p.base.bods.length c3), (.slice a4 p.now.rows.length c4), .int .i64 p.now.tick, .int .i64 p.now.seed, (.slice a5 p.now.scores.length c5), (.slice a6 p.now.bods.length c6), (.slice a7 p.used.length c7), (.slice a8 p.saves.length c8), (.slice a9 p.sums.length c9), .int .i64 p.fault.tick, .int .i64 p.fault.player, .int .i64 p.fault.add, .int .i64 p.rolls, .int .i64 p.again][j]?) ∧ w'.cell? ⟨bt, ot + m, none⟩ = some (.slice am nm xm))) (by kernel_rfl) ?_ (fun hHeld => ?_)
        · exact ⟨rowCells (keepHeap bs_0 hAr), (bs_0.cell (World.block_lt_of_cell? _ _ cm)).trans cm⟩
        refine take_on (i := 0) (v := ?_) (some 78) rfl (by kernel_rfl) (by kernel_rfl) (by kernel_rfl) rfl (fun _ _ _ h => h) (by rfl) ?_ (by assumption) ?_
        rotate_left
        · intro w hSw; (try dsimp only at hSw); go_simp; (try with_reducible rfl)
        (try simp only [Act.put, List.setIfInBounds_toArray, List.set_cons_zero, List.set_cons_succ])
        refine take_on (i := 1) (v := ?_) (some 79) rfl (by kernel_rfl) (by kernel_rfl) (by kernel_rfl) rfl (fun _ _ _ h => h) (by rfl) ?_ (by assumption) ?_
        rotate_left
        · intro w hSw; (try dsimp only at hSw); go_simp; (try with_reducible rfl)
        (try simp only [Act.put, List.setIfInBounds_toArray, List.set_cons_zero, List.set_cons_succ])
        refine take_on (i := 2) (v := ?_) (some 80) rfl (by kernel_rfl) (by kernel_rfl) (by kernel_rfl) rfl (fun _ _ _ h => h) (by rfl) ?_ (by assumption) ?_
        rotate_left
        · intro w hSw; (try dsimp only at hSw); go_simp; (try with_reducible rfl)
        (try simp only [Act.put, List.setIfInBounds_toArray, List.set_cons_zero, List.set_cons_succ])
        refine take_on (i := 3) (v := ?_) (some 81) rfl (by kernel_rfl) (by kernel_rfl) (by kernel_rfl) rfl (fun _ _ _ h => h) (by rfl) ?_ (by assumption) ?_
        rotate_left
        · intro w hSw; (try dsimp only at hSw); go_simp; (try with_reducible rfl)
        (try simp only [Act.put, List.setIfInBounds_toArray, List.set_cons_zero, List.set_cons_succ])
        refine take_on (i := 4) (v := ?_) (some 82) rfl (by kernel_rfl) (by kernel_rfl) (by kernel_rfl) rfl (fun _ _ _ h => h) (by rfl) ?_ (by assumption) ?_
        rotate_left
        · intro w hSw; (try dsimp only at hSw); go_simp; (try with_reducible rfl)
        (try simp only [Act.put, List.setIfInBounds_toArray, List.set_cons_zero, List.set_cons_succ])
        refine take_on (i := 5) (v := ?_) (some 83) rfl (by kernel_rfl) (by kernel_rfl) (by kernel_rfl) rfl (fun _ _ _ h => h) (by rfl) ?_ (by assumption) ?_
        rotate_left
        · intro w hSw; (try dsimp only at hSw); go_simp; (try with_reducible rfl)
        (try simp only [Act.put, List.setIfInBounds_toArray, List.set_cons_zero, List.set_cons_succ])
        refine take_on (i := 6) (v := ?_) (some 84) rfl (by kernel_rfl) (by kernel_rfl) (by kernel_rfl) rfl (fun _ _ _ h => h) (by rfl) ?_ (by assumption) ?_
        rotate_left
        · intro w hSw; (try dsimp only at hSw); go_simp; (try with_reducible rfl)
        (try simp only [Act.put, List.setIfInBounds_toArray, List.set_cons_zero, List.set_cons_succ])
        refine take_on (i := 7) (v := ?_) (some 85) rfl (by kernel_rfl) (by kernel_rfl) (by kernel_rfl) rfl (fun _ _ _ h => h) (by rfl) ?_ (by assumption) ?_
        rotate_left
        · intro w hSw; (try dsimp only at hSw); go_simp; (try with_reducible rfl)
        (try simp only [Act.put, List.setIfInBounds_toArray, List.set_cons_zero, List.set_cons_succ])
        refine take_on (i := 8) (v := ?_) (some 86) rfl (by kernel_rfl) (by kernel_rfl) (by kernel_rfl) rfl (fun _ _ _ h => h) (by rfl) ?_ (by assumption) ?_
        rotate_left
        · intro w hSw; (try dsimp only at hSw); go_simp; (try with_reducible rfl)
        (try simp only [Act.put, List.setIfInBounds_toArray, List.set_cons_zero, List.set_cons_succ])
        refine wpAnyH_ready (rs := [9]) (by kernel_rfl) (by simp) ?_
        refine AllReadyH.cons rfl (fun K hK => ?_) AllReadyH.nil
        go_simp
        refine (hkn bs_0).mono ?_
        rintro e w_1 ⟨rfl, hb_1⟩
        have bs_1 := bs_0.trans (hb_1.mono bs_0.size)
        (try go_wp2_with (fail))
        refine hK.out _ _ ?_ (fun hHeld => ?_)
        · exact ⟨rowCells (keepHeap bs_1 hAr), (bs_1.cell (World.block_lt_of_cell? _ _ cm)).trans cm⟩
        clear hK K
        (try simp only [Act.put, List.setIfInBounds_toArray, List.set_cons_zero, List.set_cons_succ])
        refine take_on (i := 10) (v := ?_) (some 88) rfl (by kernel_rfl) (by kernel_rfl) (by kernel_rfl) rfl (fun _ _ _ h => h) (by rfl) ?_ (by assumption) ?_
        rotate_left
        · intro w hSw; (try dsimp only at hSw); go_simp; (try with_reducible rfl)
        (try simp only [Act.put, List.setIfInBounds_toArray, List.set_cons_zero, List.set_cons_succ])
        refine take_on (i := 11) (v := ?_) (some 89) rfl (by kernel_rfl) (by kernel_rfl) (by kernel_rfl) rfl (fun _ _ _ h => h) (by rfl) ?_ (by assumption) ?_
        rotate_left
        · intro w hSw; (try dsimp only at hSw); go_simp; (try with_reducible rfl)
        (try simp only [Act.put, List.setIfInBounds_toArray, List.set_cons_zero, List.set_cons_succ])
        refine take_off (i := 12) (some 90) rfl (by kernel_rfl) (by kernel_rfl) (by kernel_rfl) rfl (fun _ _ _ h => h) (wanted_off (k := 11) (d := 89) (b := true) (c := false) rfl rfl rfl rfl) (by assumption) ?_
        (try simp only [Act.put, List.setIfInBounds_toArray, List.set_cons_zero, List.set_cons_succ])
        refine take_off (i := 13) (some 91) rfl (by kernel_rfl) (by kernel_rfl) (by kernel_rfl) rfl (fun _ _ _ h => h) (wanted_off (k := 11) (d := 89) (b := true) (c := false) rfl rfl rfl rfl) (by assumption) ?_
        (try simp only [Act.put, List.setIfInBounds_toArray, List.set_cons_zero, List.set_cons_succ])
        refine take_off (i := 14) (some 92) rfl (by kernel_rfl) (by kernel_rfl) (by kernel_rfl) rfl (fun _ _ _ h => h) (wanted_off (k := 11) (d := 89) (b := true) (c := false) rfl rfl rfl rfl) (by assumption) ?_
        (try simp only [Act.put, List.setIfInBounds_toArray, List.set_cons_zero, List.set_cons_succ])
        refine take_off (i := 15) (some 93) rfl (by kernel_rfl) (by kernel_rfl) (by kernel_rfl) rfl (fun _ _ _ h => h) (wanted_off (k := 11) (d := 89) (b := true) (c := false) rfl rfl rfl rfl) (by assumption) ?_
        (try simp only [Act.put, List.setIfInBounds_toArray, List.set_cons_zero, List.set_cons_succ])
        refine take_off (i := 16) (some 94) rfl (by kernel_rfl) (by kernel_rfl) (by kernel_rfl) rfl (fun _ _ _ h => h) (wanted_off (k := 11) (d := 89) (b := true) (c := false) rfl rfl rfl rfl) (by assumption) ?_
        (try simp only [Act.put, List.setIfInBounds_toArray, List.set_cons_zero, List.set_cons_succ])
        refine take_off (i := 17) (some 95) rfl (by kernel_rfl) (by kernel_rfl) (by kernel_rfl) rfl (fun _ _ _ h => h) (wanted_off (k := 11) (d := 89) (b := true) (c := false) rfl rfl rfl rfl) (by assumption) ?_
        (try simp only [Act.put, List.setIfInBounds_toArray, List.set_cons_zero, List.set_cons_succ])
        refine take_off (i := 18) (some 96) rfl (by kernel_rfl) (by kernel_rfl) (by kernel_rfl) rfl (fun _ _ _ h => h) (wanted_off (k := 11) (d := 89) (b := true) (c := false) rfl rfl rfl rfl) (by assumption) ?_
        (try simp only [Act.put, List.setIfInBounds_toArray, List.set_cons_zero, List.set_cons_succ])
        refine take_off (i := 19) (some 97) rfl (by kernel_rfl) (by kernel_rfl) (by kernel_rfl) rfl (fun _ _ _ h => h) (wanted_off (k := 11) (d := 89) (b := true) (c := false) rfl rfl rfl rfl) (by assumption) ?_
        (try simp only [Act.put, List.setIfInBounds_toArray, List.set_cons_zero, List.set_cons_succ])
        refine take_off (i := 20) (some 98) rfl (by kernel_rfl) (by kernel_rfl) (by kernel_rfl) rfl (fun _ _ _ h => h) (wanted_off (k := 11) (d := 89) (b := true) (c := false) rfl rfl rfl rfl) (by assumption) ?_
        (try simp only [Act.put, List.setIfInBounds_toArray, List.set_cons_zero, List.set_cons_succ])
        refine take_off (i := 21) (some 99) rfl (by kernel_rfl) (by kernel_rfl) (by kernel_rfl) rfl (fun _ _ _ h => h) (wanted_off (k := 11) (d := 89) (b := true) (c := false) rfl rfl rfl rfl) (by assumption) ?_
        (try simp only [Act.put, List.setIfInBounds_toArray, List.set_cons_zero, List.set_cons_succ])
        refine take_off (i := 22) (some 100) rfl (by kernel_rfl) (by kernel_rfl) (by kernel_rfl) rfl (fun _ _ _ h => h) (wanted_off (k := 11) (d := 89) (b := true) (c := false) rfl rfl rfl rfl) (by assumption) ?_
        (try simp only [Act.put, List.setIfInBounds_toArray, List.set_cons_zero, List.set_cons_succ])
        refine take_off (i := 23) (some 101) rfl (by kernel_rfl) (by kernel_rfl) (by kernel_rfl) rfl (fun _ _ _ h => h) (wanted_off (k := 11) (d := 89) (b := true) (c := false) rfl rfl rfl rfl) (by assumption) ?_
        (try simp only [Act.put, List.setIfInBounds_toArray, List.set_cons_zero, List.set_cons_succ])
        refine take_off (i := 24) (some 102) rfl (by kernel_rfl) (by kernel_rfl) (by kernel_rfl) rfl (fun _ _ _ h => h) (wanted_off (k := 11) (d := 89) (b := true) (c := false) rfl rfl rfl rfl) (by assumption) ?_
        (try simp only [Act.put, List.setIfInBounds_toArray, List.set_cons_zero, List.set_cons_succ])
        refine take_off (i := 25) (some 103) rfl (by kernel_rfl) (by kernel_rfl) (by kernel_rfl) rfl (fun _ _ _ h => h) (wanted_off (k := 11) (d := 89) (b := true) (c := false) rfl rfl rfl rfl) (by assumption) ?_
        (try simp only [Act.put, List.setIfInBounds_toArray, List.set_cons_zero, List.set_cons_succ])
        refine take_off (i := 26) (some 104) rfl (by kernel_rfl) (by kernel_rfl) (by kernel_rfl) rfl (fun _ _ _ h => h) (wanted_off (k := 11) (d := 89) (b := true) (c := false) rfl rfl rfl rfl) (by assumption) ?_
        (try simp only [Act.put, List.setIfInBounds_toArray, List.set_cons_zero, List.set_cons_succ])
        refine take_off (i := 27) (some 105) rfl (by kernel_rfl) (by kernel_rfl) (by kernel_rfl) rfl (fun _ _ _ h => h) (wanted_off (k := 11) (d := 89) (b := true) (c := false) rfl rfl rfl rfl) (by assumption) ?_
        (try simp only [Act.put, List.setIfInBounds_toArray, List.set_cons_zero, List.set_cons_succ])
        refine take_off (i := 28) (some 106) rfl (by kernel_rfl) (by kernel_rfl) (by kernel_rfl) rfl (fun _ _ _ h => h) (wanted_off (k := 11) (d := 89) (b := true) (c := false) rfl rfl rfl rfl) (by assumption) ?_
        (try simp only [Act.put, List.setIfInBounds_toArray, List.set_cons_zero, List.set_cons_succ])
        refine take_off (i := 29) (some 107) rfl (by kernel_rfl) (by kernel_rfl) (by kernel_rfl) rfl (fun _ _ _ h => h) (wanted_off (k := 11) (d := 89) (b := true) (c := false) rfl rfl rfl rfl) (by assumption) ?_
        (try simp only [Act.put, List.setIfInBounds_toArray, List.set_cons_zero, List.set_cons_succ])
        refine take_on (i := 30) (v := ?_) (some 108) rfl (by kernel_rfl) (by kernel_rfl) (by kernel_rfl) rfl (fun _ _ _ h => h) (by rfl) ?_ (by assumption) ?_
        rotate_left
        · intro w hSw; (try dsimp only at hSw); go_simp; (try with_reducible rfl)
        (try simp only [Act.put, List.setIfInBounds_toArray, List.set_cons_zero, List.set_cons_succ])
        refine take_on (i := 31) (v := ?_) (some 109) rfl (by kernel_rfl) (by kernel_rfl) (by kernel_rfl) rfl (fun _ _ _ h => h) (by rfl) ?_ (by assumption) ?_
        rotate_left
        · intro w hSw; (try dsimp only at hSw); go_simp; (try with_reducible rfl)
        (try simp only [Act.put, List.setIfInBounds_toArray, List.set_cons_zero, List.set_cons_succ])
        refine take_off (i := 32) (some 110) rfl (by kernel_rfl) (by kernel_rfl) (by kernel_rfl) rfl (fun _ _ _ h => h) (wanted_off (k := 31) (d := 109) (b := true) (c := false) rfl rfl rfl rfl) (by assumption) ?_
        (try simp only [Act.put, List.setIfInBounds_toArray, List.set_cons_zero, List.set_cons_succ])
        refine take_off (i := 33) (some 111) rfl (by kernel_rfl) (by kernel_rfl) (by kernel_rfl) rfl (fun _ _ _ h => h) (wanted_off (k := 31) (d := 109) (b := true) (c := false) rfl rfl rfl rfl) (by assumption) ?_
        (try simp only [Act.put, List.setIfInBounds_toArray, List.set_cons_zero, List.set_cons_succ])
        refine take_off (i := 34) (some 112) rfl (by kernel_rfl) (by kernel_rfl) (by kernel_rfl) rfl (fun _ _ _ h => h) (wanted_off (k := 31) (d := 109) (b := true) (c := false) rfl rfl rfl rfl) (by assumption) ?_
        (try simp only [Act.put, List.setIfInBounds_toArray, List.set_cons_zero, List.set_cons_succ])
        refine take_off (i := 35) (some 113) rfl (by kernel_rfl) (by kernel_rfl) (by kernel_rfl) rfl (fun _ _ _ h => h) (wanted_off (k := 31) (d := 109) (b := true) (c := false) rfl rfl rfl rfl) (by assumption) ?_
        (try simp only [Act.put, List.setIfInBounds_toArray, List.set_cons_zero, List.set_cons_succ])
        refine take_off (i := 36) (some 114) rfl (by kernel_rfl) (by kernel_rfl) (by kernel_rfl) rfl (fun _ _ _ h => h) (wanted_off (k := 31) (d := 109) (b := true) (c := false) rfl rfl rfl rfl) (by assumption) ?_
        (try simp only [Act.put, List.setIfInBounds_toArray, List.set_cons_zero, List.set_cons_succ])
        refine take_off (i := 37) (some 115) rfl (by kernel_rfl) (by kernel_rfl) (by kernel_rfl) rfl (fun _ _ _ h => h) (wanted_off (k := 31) (d := 109) (b := true) (c := false) rfl rfl rfl rfl) (by assumption) ?_
        (try simp only [Act.put, List.setIfInBounds_toArray, List.set_cons_zero, List.set_cons_succ])
        refine take_off (i := 38) (some 116) rfl (by kernel_rfl) (by kernel_rfl) (by kernel_rfl) rfl (fun _ _ _ h => h) (wanted_off (k := 31) (d := 109) (b := true) (c := false) rfl rfl rfl rfl) (by assumption) ?_
        (try simp only [Act.put, List.setIfInBounds_toArray, List.set_cons_zero, List.set_cons_succ])
        refine take_off (i := 39) (some 117) rfl (by kernel_rfl) (by kernel_rfl) (by kernel_rfl) rfl (fun _ _ _ h => h) (wanted_off (k := 31) (d := 109) (b := true) (c := false) rfl rfl rfl rfl) (by assumption) ?_
        (try simp only [Act.put, List.setIfInBounds_toArray, List.set_cons_zero, List.set_cons_succ])
        refine take_off (i := 40) (some 118) rfl (by kernel_rfl) (by kernel_rfl) (by kernel_rfl) rfl (fun _ _ _ h => h) (wanted_off (k := 31) (d := 109) (b := true) (c := false) rfl rfl rfl rfl) (by assumption) ?_
        (try simp only [Act.put, List.setIfInBounds_toArray, List.set_cons_zero, List.set_cons_succ])
        refine take_off (i := 41) (some 119) rfl (by kernel_rfl) (by kernel_rfl) (by kernel_rfl) rfl (fun _ _ _ h => h) (wanted_off (k := 31) (d := 109) (b := true) (c := false) rfl rfl rfl rfl) (by assumption) ?_
        (try simp only [Act.put, List.setIfInBounds_toArray, List.set_cons_zero, List.set_cons_succ])
        refine take_off (i := 42) (some 120) rfl (by kernel_rfl) (by kernel_rfl) (by kernel_rfl) rfl (fun _ _ _ h => h) (wanted_off (k := 31) (d := 109) (b := true) (c := false) rfl rfl rfl rfl) (by assumption) ?_
        (try simp only [Act.put, List.setIfInBounds_toArray, List.set_cons_zero, List.set_cons_succ])
        refine take_off (i := 43) (some 121) rfl (by kernel_rfl) (by kernel_rfl) (by kernel_rfl) rfl (fun _ _ _ h => h) (wanted_off (k := 31) (d := 109) (b := true) (c := false) rfl rfl rfl rfl) (by assumption) ?_
        (try simp only [Act.put, List.setIfInBounds_toArray, List.set_cons_zero, List.set_cons_succ])
        refine take_on (i := 44) (v := ?_) (some 122) rfl (by kernel_rfl) (by kernel_rfl) (by kernel_rfl) rfl (fun _ _ _ h => h) (by rfl) ?_ (by assumption) ?_
        rotate_left
        · intro w hSw; (try dsimp only at hSw); go_simp; (try with_reducible rfl)
        (try simp only [Act.put, List.setIfInBounds_toArray, List.set_cons_zero, List.set_cons_succ])
        refine take_on (i := 45) (v := ?_) (some 2) rfl (by kernel_rfl) (by kernel_rfl) (by kernel_rfl) rfl (fun _ _ _ h => h) (by rfl) ?_ (by assumption) ?_
        rotate_left
        · intro w hSw; (try dsimp only at hSw); go_simp; (try with_reducible rfl)
        (try simp only [Act.put, List.setIfInBounds_toArray, List.set_cons_zero, List.set_cons_succ])
        refine wpAnyH_done (by kernel_rfl) ?_ _
        have HF := Lib.hid HF0.out
        go_wp2_with (fail)
        go_ret
        exact ⟨by rw [HTL.out, HF.out]; first | rfl | (simp; done) | (rw [HWT.out]; exact Bool.beq_eq_decide_eq _ _) | (simp [HWT.out]; exact Bool.beq_eq_decide_eq _ _), hbel.trans (bs_1.mono hqr)⟩
set_option maxRecDepth 100000 in
set_option maxHeartbeats 8000000 in
theorem peerOk_impl {w : World} {p : Pr} {vt bl bs bb nl ns nb vu vv vs : Value} (h : RdPr w p vt bl bs bb nl ns nb vu vv vs) (hs : p.sane) (hf : p.few) :
    Calls Tryz.prog 36 #[.agg (prC p vt bl bs bb nl ns nb vu vv vs)] w fun e w' => e = .returned (.bool (peerB p)) ∧ Below w.heap.size w w' := by
  have h0 := h
  obtain ⟨a0, c0, rfl, -⟩ := id h.1
  obtain ⟨a1, c1, rfl, -⟩ := id h.2.1.1
  obtain ⟨a2, c2, rfl, -⟩ := id h.2.1.2.1
  obtain ⟨a3, c3, rfl, -⟩ := id h.2.1.2.2
  obtain ⟨a4, c4, rfl, -⟩ := id h.2.2.1.1
  obtain ⟨a5, c5, rfl, -⟩ := id h.2.2.1.2.1
  obtain ⟨a6, c6, rfl, -⟩ := id h.2.2.1.2.2
  obtain ⟨a7, c7, rfl, -⟩ := id h.2.2.2.1
  obtain ⟨a8, c8, rfl, -⟩ := id h.2.2.2.2.1
  obtain ⟨a9, c9, rfl, -⟩ := id h.2.2.2.2.2
  obtain ⟨W0, hW, hA0, q0, -⟩ := rows1 w (prC p (.slice a0 p.tracks.length c0) (.slice a1 p.base.rows.length c1) (.slice a2 p.base.scores.length c2) (.slice a3 p.base.bods.length c3) (.slice a4 p.now.rows.length c4) (.slice a5 p.now.scores.length c5) (.slice a6 p.now.bods.length c6) (.slice a7 p.used.length c7) (.slice a8 p.saves.length c8) (.slice a9 p.sums.length c9)) 46
  have hk0 := h0.keep q0
  have hwf := fun {W : World} (hb : Below W0.heap.size W0 W) => worldsFit_impl (keepHeap hb hA0) (hk0.keep hb) hs hf
  have hnf := fun {W : World} (hb : Below W0.heap.size W0 W) => numbersFit_impl (keepHeap hb hA0) (hk0.keep hb) hs hf
  have htf := fun (h1 : 0 ≤ p.me) (h2 : p.me < (p.tracks.length : Int)) (h3 : 0 ≤ p.base.tick ∧ p.base.tick ≤ 100000) (h4 : 0 ≤ p.now.tick ∧ p.now.tick ≤ 100000) {W : World} (hb : Below W0.heap.size W0 W) => ticksFit_impl (keepHeap hb hA0) (hk0.keep hb) hs hf h1 h2 h3 h4
  have hto := tracksOk_impl hk0.1 hf.1
  unfold prC at hA0 hW ⊢
  have cA := rowCells hA0
  go_enter Tryz.func36, Tryz.ntmps36
  go_wp2_with (fail)
  try rw [hW]
  clear hW
  refine hto.mono ?_
  rintro e w1 ⟨rfl, hb1⟩
  have q1 := q0.trans (hb1.mono q0.size)
  cases e1 : trksB p.tracks with
  | false =>
    have HF := Lib.hid (pr_t e1)
    clear e1
    go_wp2_with (fail)
    go_ret
    exact ⟨by rw [HF.out]; rfl, q1⟩
  | true =>
  have E1 := Lib.hid e1
  clear e1
  go_wp2_with (fail)
  refine (hwf hb1).mono ?_
  rintro e w2 ⟨rfl, hb2⟩
  have hb12 := hb1.trans (hb2.mono hb1.size)
  have q2 := q0.trans (hb12.mono q0.size)
  cases e2 : worldsB p with
  | false =>
    have HF := Lib.hid (pr_w e2)
    clear e2
    go_wp2_with (fail)
    go_ret
    exact ⟨by rw [HF.out]; rfl, q2⟩
  | true =>
  have E2 := Lib.hid e2
  have hbt : (0 ≤ p.base.tick ∧ p.base.tick ≤ 100000) ∧ (0 ≤ p.now.tick ∧ p.now.tick ≤ 100000) := by
    unfold worldsB at e2
    simp only [Bool.and_eq_true] at e2
    exact ⟨(inR_iff _ _ _).1 (wd_facts e2.1).2.1, (inR_iff _ _ _).1 (wd_facts e2.2.1).2.1⟩
  clear e2
  go_wp2_with (fail)
  refine (hnf hb12).mono ?_
  rintro e w3 ⟨rfl, hb3⟩
  have hb13 := hb12.trans (hb3.mono hb12.size)
  have q3 := q0.trans (hb13.mono q0.size)
  cases e3 : numbersB p with
  | false =>
    have HF := Lib.hid (pr_n e3)
    clear e3
    go_wp2_with (fail)
    go_ret
    exact ⟨by rw [HF.out]; rfl, q3⟩
  | true =>
  have HF := Lib.hid (pr_ok E1.out E2.out e3)
  have hme : 0 ≤ p.me ∧ p.me < (p.tracks.length : Int) := by
    unfold numbersB at e3
    simp only [Bool.and_eq_true] at e3
    have := (inR_iff _ _ _).1 e3.2.1
    omega
  clear e3
  go_wp2_with (fail)
  refine (htf hme.1 hme.2 hbt.1 hbt.2 hb13).mono ?_
  rintro e w4 ⟨rfl, hb4⟩
  have q4 := q3.trans (hb4.mono q3.size)
  go_wp2_with (fail)
  go_ret
  exact ⟨by rw [HF.out]; rfl, q4⟩
theorem ns_r {p : Pr} (h : inR p.rolls 0 1000000 = false) : numbersB p = false := ns_c (by unfold allW; simp [h])
theorem ns_g {p : Pr} (h : inR p.again 0 1000000 = false) : numbersB p = false := ns_c (by unfold allW; simp [h])
theorem ns_ok2 {p : Pr} (h1 : faultB p.fault (p.tracks.length : Int) = true) (h2 : inR p.me 0 ((p.tracks.length : Int) - 1) = true) (h3 : inR p.delay 0 5 = true) (h4 : inR p.ahead 1 8 = true) (h5 : inR p.seed 0 65535 = true) (h6 : inR p.rolls 0 1000000 = true) (h7 : inR p.again 0 1000000 = true) : numbersB p = true := ns_ok h1 h2 h3 h4 h5 (by unfold allW; simp [h6, h7])
theorem pr_k {p : Pr} (h : ticksB p = false) : peerB p = false := by unfold peerB; rw [h]; simp
set_option maxRecDepth 100000 in
set_option maxHeartbeats 16000000 in
theorem peerOk_spec {w : World} {p : Pr} {vt bl bs bb nl ns nb vu vv vs : Value} (h : RdPr w p vt bl bs bb nl ns nb vu vv vs) (hs : p.sane) (hf : p.few) :
    Calls Tryz.prog 29 #[.agg (prC p vt bl bs bb nl ns nb vu vv vs)] w fun e w' => e = .returned (.bool (peerB p)) ∧ Below w.heap.size w w' := by
  have h00 := h
  obtain ⟨a0, c0, rfl, -⟩ := id h.1
  obtain ⟨a1, c1, rfl, -⟩ := id h.2.1.1
  obtain ⟨a2, c2, rfl, -⟩ := id h.2.1.2.1
  obtain ⟨a3, c3, rfl, -⟩ := id h.2.1.2.2
  obtain ⟨a4, c4, rfl, -⟩ := id h.2.2.1.1
  obtain ⟨a5, c5, rfl, -⟩ := id h.2.2.1.2.1
  obtain ⟨a6, c6, rfl, -⟩ := id h.2.2.1.2.2
  obtain ⟨a7, c7, rfl, -⟩ := id h.2.2.2.1
  obtain ⟨a8, c8, rfl, -⟩ := id h.2.2.2.2.1
  obtain ⟨a9, c9, rfl, -⟩ := id h.2.2.2.2.2
  obtain ⟨W0, hW, hA0, q0, -⟩ := rows1 w #[Value.int .i64 p.me, .int .i64 p.delay, .int .i64 p.ahead, .int .i64 p.seed, (.slice a0 p.tracks.length c0), (.slice a1 p.base.rows.length c1), .int .i64 p.base.tick, .int .i64 p.base.seed, (.slice a2 p.base.scores.length c2), (.slice a3 p.base.bods.length c3), (.slice a4 p.now.rows.length c4), .int .i64 p.now.tick, .int .i64 p.now.seed, (.slice a5 p.now.scores.length c5), (.slice a6 p.now.bods.length c6), (.slice a7 p.used.length c7), (.slice a8 p.saves.length c8), (.slice a9 p.sums.length c9), .int .i64 p.fault.tick, .int .i64 p.fault.player, .int .i64 p.fault.add, .int .i64 p.rolls, .int .i64 p.again] 46
  have h0 := h00.keep q0
  have hwb := fun {W : World} (hb : Below W0.heap.size W0 W) => worldOk_spec ((h0.keep hb).2.1) hs.2.1
  have hwn := fun {W : World} (hb : Below W0.heap.size W0 W) => worldOk_spec ((h0.keep hb).2.2.1) hs.2.2.1
  have hws := fun {W : World} (hb : Below W0.heap.size W0 W) => sameLevel_spec ((h0.keep hb).2.1.1) ((h0.keep hb).2.2.1.1) hs.2.1.1.1 hs.2.2.1.1.1
  have hto := fun {W : World} (hb : Below W0.heap.size W0 W) => tracksOk_spec (h0.keep hb).1 hf.1
  have ht : (p.tracks.length : Int) ≤ 9223372036854775807 := by have := hs.1.1; omega
  have hb : (p.base.scores.length : Int) ≤ 9223372036854775807 := by have := hs.2.1.2.1; omega
  have hn : (p.now.scores.length : Int) ≤ 9223372036854775807 := by have := hs.2.2.1.2.1; omega
  have hu : (p.used.length : Int) ≤ 9223372036854775807 := by have := hs.2.2.2.1.1; omega
  have hv : (p.saves.length : Int) ≤ 9223372036854775807 := by have := hs.2.2.2.2.1.1; omega
  have hm : (p.sums.length : Int) ≤ 9223372036854775807 := by have := hs.2.2.2.2.2; omega
  have hfo := fun W => faultOk_spec p.fault (p.tracks.length : Int) W (by omega)
  unfold ftV at hfo
  unfold prC
  unfold wdC at hwb hwn
  have cA0 := rowCells hA0
  go_enter Tryz.func29, Tryz.ntmps29
  go_wp2_with (fail)
  try rw [hW]
  clear hW
  refine (hwb (Below.refl _ _)).mono ?_
  rintro e w1 ⟨rfl, b1⟩
  have q1 := q0.trans (b1.mono q0.size)
  have hA1 := keepHeap b1 hA0
  have cA1 := rowCells hA1
  clear cA0
  cases e1 : worldB p.base with
  | false =>
    have HF := Lib.hid (pr_w (ws_b e1))
    clear e1
    go_wp2_with (fail)
    go_ret
    exact ⟨by rw [HF.out]; rfl, q1⟩
  | true =>
  have hbt := (inR_iff _ _ _).1 (wd_facts e1).2.1
  have E1 := Lib.hid e1
  clear e1
  go_wp2_with (fail)
  refine (hwn b1).mono ?_
  rintro e w2 ⟨rfl, hb2⟩
  have b2 := b1.trans (hb2.mono b1.size)
  have q2 := q0.trans (b2.mono q0.size)
  have hA2 := keepHeap b2 hA0
  have cA2 := rowCells hA2
  clear cA1 hb2
  cases e2 : worldB p.now with
  | false =>
    have HF := Lib.hid (pr_w (ws_n e2))
    clear e2
    go_wp2_with (fail)
    go_ret
    exact ⟨by rw [HF.out]; rfl, q2⟩
  | true =>
  have hnt := (inR_iff _ _ _).1 (wd_facts e2).2.1
  have E2 := Lib.hid e2
  clear e2
  go_wp2_with (fail)
  refine (hws b2).mono ?_
  rintro e w3 ⟨rfl, hb3⟩
  have b3 := b2.trans (hb3.mono b2.size)
  have q3 := q0.trans (b3.mono q0.size)
  have hA3 := keepHeap b3 hA0
  have cA3 := rowCells hA3
  clear cA2 hb3
  cases e3 : sg p.base.rows p.now.rows with
  | false =>
    have HF := Lib.hid (pr_w (ws_l e3))
    clear e3
    go_wp2_with (fail)
    go_ret
    exact ⟨by rw [HF.out]; rfl, q3⟩
  | true =>
  have E3 := Lib.hid e3
  clear e3
  by_cases e4 : (p.base.scores.length : Int) = (p.tracks.length : Int)
  case neg =>
    have z4 : ((p.base.scores.length : Int) != (p.tracks.length : Int)) = true := by simpa using e4
    have HF := Lib.hid (pr_w (ws_1 e4))
    clear e4
    go_wp2_with (fail)
    go_ret
    exact ⟨by rw [HF.out]; rfl, q3⟩
  have z4 : ((p.base.scores.length : Int) != (p.tracks.length : Int)) = false := by simpa using e4
  have E4 := Lib.hid e4
  clear e4
  by_cases e5 : (p.now.scores.length : Int) = (p.tracks.length : Int)
  case neg =>
    have z5 : ((p.now.scores.length : Int) != (p.tracks.length : Int)) = true := by simpa using e5
    have HF := Lib.hid (pr_w (ws_2 e5))
    clear e5
    go_wp2_with (fail)
    go_ret
    exact ⟨by rw [HF.out]; rfl, q3⟩
  have z5 : ((p.now.scores.length : Int) != (p.tracks.length : Int)) = false := by simpa using e5
  have E5 := Lib.hid (ws_ok E1.out E2.out E3.out E4.out e5)
  clear e5
  go_wp2_with (fail)
  refine (hto b3).mono ?_
  rintro e w4 ⟨rfl, hb4⟩
  have b4 := b3.trans (hb4.mono b3.size)
  have q4 := q0.trans (b4.mono q0.size)
  have hA4 := keepHeap b4 hA0
  have cA4 := rowCells hA4
  clear cA3 hb4
  cases e6 : trksB p.tracks with
  | false =>
    have HF := Lib.hid (pr_t e6)
    clear e6
    go_wp2_with (fail)
    go_ret
    exact ⟨by rw [HF.out]; rfl, q4⟩
  | true =>
  have E6 := Lib.hid e6
  clear e6
  go_wp2_with (fail)
  refine (hfo _).mono ?_
  rintro e w5 ⟨rfl, hb5⟩
  have b5 := b4.trans (hb5.mono b4.size)
  have q5 := q0.trans (b5.mono q0.size)
  have hA5 := keepHeap b5 hA0
  have cA5 := rowCells hA5
  clear cA4 hb5
  cases e7 : faultB p.fault (p.tracks.length : Int) with
  | false =>
    have HF := Lib.hid (pr_n (ns_f e7))
    clear e7
    go_wp2_with (fail)
    go_ret
    exact ⟨by rw [HF.out]; rfl, q5⟩
  | true =>
  have E7 := Lib.hid e7
  obtain ⟨ld, hld⟩ : ∃ ld : Int, ld = p.now.tick - p.base.tick := ⟨_, rfl⟩
  have hT1 := tk_l (p := p)
  have hT2 := tk_u (p := p)
  have hT3 := tk_s (p := p)
  have hT4 := fun k hk => tk_r (p := p) (k := k) hk
  have hT5 := tk_ok (p := p)
  rw [← hld] at hT1 hT2 hT3 hT4 hT5
  have hldb : -100000 ≤ ld ∧ ld ≤ 100000 := by omega
  have hsub : wrap64 (p.now.tick - p.base.tick) = ld := by rw [hld]; exact IntWalk.wrap64_in _ ⟨by omega, by omega⟩
  have hsub2 : p.now.tick - p.base.tick = ld := hld.symm
  have HLD := Lib.hid hld
  clear hld e7
  go_wp2_with (fail)
  refine (in_spec _ _ _ _).mono ?_
  rintro e w6 ⟨rfl, rfl⟩
  cases n1 : inR p.me 0 ((p.tracks.length : Int) - 1) with
  | false =>
    have HF := Lib.hid (pr_n (ns_m n1))
    clear n1
    go_wp2_with (fail)
    go_ret
    exact ⟨by rw [HF.out]; rfl, q5⟩
  | true =>
  have N1 := Lib.hid n1
  clear n1
  go_wp2_with (fail)
  refine (in_spec _ _ _ _).mono ?_
  rintro e w6 ⟨rfl, rfl⟩
  cases n2 : inR p.delay 0 5 with
  | false =>
    have HF := Lib.hid (pr_n (ns_d n2))
    clear n2
    go_wp2_with (fail)
    go_ret
    exact ⟨by rw [HF.out]; rfl, q5⟩
  | true =>
  have N2 := Lib.hid n2
  clear n2
  go_wp2_with (fail)
  refine (in_spec _ _ _ _).mono ?_
  rintro e w6 ⟨rfl, rfl⟩
  cases n3 : inR p.ahead 1 8 with
  | false =>
    have HF := Lib.hid (pr_n (ns_a n3))
    clear n3
    go_wp2_with (fail)
    go_ret
    exact ⟨by rw [HF.out]; rfl, q5⟩
  | true =>
  have N3 := Lib.hid n3
  clear n3
  go_wp2_with (fail)
  refine (in_spec _ _ _ _).mono ?_
  rintro e w6 ⟨rfl, rfl⟩
  cases n4 : inR p.seed 0 65535 with
  | false =>
    have HF := Lib.hid (pr_n (ns_s n4))
    clear n4
    go_wp2_with (fail)
    go_ret
    exact ⟨by rw [HF.out]; rfl, q5⟩
  | true =>
  have N4 := Lib.hid n4
  clear n4
  go_wp2_with (fail)
  refine (in_spec _ _ _ _).mono ?_
  rintro e w6 ⟨rfl, rfl⟩
  cases n5 : inR p.rolls 0 1000000 with
  | false =>
    have HF := Lib.hid (pr_n (ns_r n5))
    clear n5
    go_wp2_with (fail)
    go_ret
    exact ⟨by rw [HF.out]; rfl, q5⟩
  | true =>
  have N5 := Lib.hid n5
  clear n5
  go_wp2_with (fail)
  refine (in_spec _ _ _ _).mono ?_
  rintro e w6 ⟨rfl, rfl⟩
  cases n6 : inR p.again 0 1000000 with
  | false =>
    have HF := Lib.hid (pr_n (ns_g n6))
    clear n6
    go_wp2_with (fail)
    go_ret
    exact ⟨by rw [HF.out]; rfl, q5⟩
  | true =>
  have N6 := Lib.hid n6
  clear n6
  go_wp2_with (fail)
  refine (in_spec _ _ _ _).mono ?_
  rintro e w6 ⟨rfl, rfl⟩
  have HPT := Lib.hid (pr_ok E6.out E5.out (ns_ok2 E7.out N1.out N2.out N3.out N4.out N5.out N6.out))
  have hme := (inR_iff _ _ _).1 N1.out
  cases n7 : inR ld 0 p.ahead with
  | false =>
    have HF := Lib.hid (pr_k (hT1 n7))
    clear n7
    go_wp2_with (fail)
    go_ret
    exact ⟨by rw [HF.out]; rfl, q5⟩
  | true =>
  have hl0 := ((inR_iff _ _ _).1 n7).1
  by_cases e2 : (p.used.length : Int) = ld
  case neg =>
    have z2 : ((p.used.length : Int) != ld) = true := by simpa using e2
    have HF := Lib.hid (pr_k (hT2 e2))
    clear e2 n7
    go_wp2_with (fail)
    go_ret
    exact ⟨by rw [HF.out]; rfl, q5⟩
  by_cases e3 : (p.saves.length : Int) = ld
  case neg =>
    have z2 : ((p.used.length : Int) != ld) = false := by simpa using e2
    have z3 : ((p.saves.length : Int) != ld) = true := by simpa using e3
    have HF := Lib.hid (pr_k (hT3 e3))
    clear e2 e3 n7
    go_wp2_with (fail)
    go_ret
    exact ⟨by rw [HF.out]; rfl, q5⟩
  have z2 : ((p.used.length : Int) != ld) = false := by simpa using e2
  have z3 : ((p.saves.length : Int) != ld) = false := by simpa using e3
  have HOK := Lib.hid (hT5 n7 e2 e3)
  obtain ⟨L, hL⟩ : ∃ L : Nat, ld = (L : Int) := ⟨ld.toNat, by omega⟩
  subst hL
  have hLu : p.used.length = L := by omega
  have hLs : p.saves.length = L := by omega
  have HLu := Lib.hid hLu
  have HLs := Lib.hid hLs
  have HBAD := Lib.hid (fun k (hk : k < L) hb => hT4 k (by omega) hb)
  have hLb : L ≤ 100000 := by omega
  have hP5 := h0.keep b5
  obtain ⟨-, -, -, hs4, -, -⟩ := hs
  obtain ⟨⟨f1, f2⟩, -, -, -, -, -⟩ := hf
  clear n7 e2 e3 hT1 hT2 hT3 hT4 hT5 hLu hLs hsub hsub2 hldb hwb hwn hws hto hfo h0 h00
  go_wp2_with (fail)
  go_loopw [5] (fun i wr => ∃ k : Nat, k ≤ L ∧ i = .int .i64 (k : Int) ∧ Below w5.heap.size w5 wr ∧ Hid (∀ j : Nat, j < k → rowAtB p j = true)) (fun i _ => L - (intOf i).toNat)
  case atStart => exact ⟨0, Nat.zero_le _, rfl, Below.refl _ _, Lib.hid (fun j hl => by omega)⟩
  case round =>
    obtain ⟨k, hk, rfl, hbl, HA⟩ := hrel
    have hbel := q5.trans (hbl.mono q5.size)
    have hAr := keepHeap hbl hA5
    have cAr := rowCells hAr
    have hr := hP5.keep hbl
    have hqr := hbel.size
    clear cA5
    by_cases hkl : k < L
    · have hku : k < p.used.length := by rw [HLu.out]; exact hkl
      have hks : k < p.saves.length := by rw [HLs.out]; exact hkl
      have hl1 : (k : Int) < (L : Int) := by omega
      have hl2 : (k : Int) < (p.used.length : Int) := by omega
      have hl3 : (k : Int) < (p.saves.length : Int) := by omega
      obtain ⟨x1, x2, ex, hus⟩ := hr.2.2.2.1
      obtain ⟨rfl, -, rfl⟩ := Value.slice.inj ex
      obtain ⟨b, off, rfl, hc⟩ := hus.resolve_left (by intro e; rw [e] at hku; simp at hku)
      obtain ⟨u, c1, r1⟩ := hc k hku
      obtain ⟨y1, y2, ey, hvs⟩ := hr.2.2.2.2.1
      obtain ⟨rfl, -, rfl⟩ := Value.slice.inj ey
      obtain ⟨b', off', rfl, hc'⟩ := hvs.resolve_left (by intro e; rw [e] at hks; simp at hks)
      have c2 := (cellsSv (hc' k hks)).1
      have hx3 := hs4.2 p.used[k] (List.getElem_mem _)
      obtain ⟨ax, cx, rfl, -⟩ := id r1
      have hRO : ∀ n, Calls Tryz.prog 60 #[.slice ax p.used[k].length cx, .int .i64 (p.tracks.length : Int)] (wr.drewN n) fun e w' => e = .returned (.bool (rokB (p.tracks.length : Int) p.used[k])) ∧ w' = wr.drewN n := fun n => (l02RowOk_any (r1.keep (belowDrew wr n)) hx3 _).mono fun _ _ h => ⟨h.1, h.2.symm⟩
      have d15 : wr.cell? ⟨w.heap.size, 15, none⟩ = some (.slice (some ⟨b, off, none⟩) p.used.length c7) := cAr 15
      have d16 : wr.cell? ⟨w.heap.size, 16, none⟩ = some (.slice (some ⟨b', off', none⟩) p.saves.length c8) := cAr 16
      have d6 : wr.cell? ⟨w.heap.size, 6, none⟩ = some (.int .i64 p.base.tick) := cAr 6
      have RN := Lib.hid (fun h => ra_no (p := p) hku h)
      have RT := Lib.hid (fun h => ra_tick (p := p) hks h)
      have RY := Lib.hid (fun h h2 => ra_ok (p := p) hku hks h h2)
      have HB1 := Lib.hid (HBAD.out k hkl)
      obtain ⟨tk, htk⟩ : ∃ t, t = p.saves[k].tick := ⟨_, rfl⟩
      rw [← htk] at c2 RT RY
      generalize p.used[k].length = m1 at c1 hRO
      clear hc hc' htk hx3 r1 hus hvs ex ey hr hAr
      cases q2 : rokB (p.tracks.length : Int) p.used[k] with
      | false =>
        rw [q2] at hRO
        have HF := Lib.hid (pr_k (HB1.out (RN.out q2)))
        clear q2 RN RT RY
        go_wp2_with (fail)
        go_quiet (first | (go_at_call 60; exact Calls.quiet_of_same (hRO _)))
        go_wp2_with (fail)
        go_ret
        exact ⟨by rw [HF.out]; rfl, hbel.trans (Below.mono ⟨rfl, rfl, rfl, Nat.le_refl _, fun _ _ => rfl⟩ hbel.size)⟩
      | true =>
        rw [q2] at hRO
        by_cases e4 : tk = p.base.tick + (k : Int)
        · have z4 : (tk != p.base.tick + (k : Int)) = false := by simpa using e4
          have HY := Lib.hid (RY.out q2 e4)
          clear q2 e4 RN RT RY
          go_wp2_with (fail)
          go_quiet (first | (go_at_call 60; exact Calls.quiet_of_same (hRO _)))
          go_wp2_with (fail)
          go_roundw
          case rel =>
            refine ⟨k + 1, by omega, by go_num, hbl.trans (Below.mono ⟨rfl, rfl, rfl, Nat.le_refl _, fun _ _ => rfl⟩ hbl.size), Lib.hid (fun j hjk => ?_)⟩
            by_cases e : j = k
            · subst e; exact HY.out
            · exact HA.out j (by omega)
          case measure => simp [intOf]; omega
        · have z4 : (tk != p.base.tick + (k : Int)) = true := by simpa using e4
          have HF := Lib.hid (pr_k (HB1.out (RT.out e4)))
          clear q2 e4 RN RT RY
          go_wp2_with (fail)
          go_quiet (first | (go_at_call 60; exact Calls.quiet_of_same (hRO _)))
          go_wp2_with (fail)
          go_ret
          exact ⟨by rw [HF.out]; rfl, hbel.trans (Below.mono ⟨rfl, rfl, rfl, Nat.le_refl _, fun _ _ => rfl⟩ hbel.size)⟩
    · have hl1 : ¬ (k : Int) < (L : Int) := by omega
      have hTT := HOK.out (fun j hj => HA.out j (by omega))
      have HTL := Lib.hid (HPT.out.trans hTT)
      clear hTT
      obtain ⟨m, hm0⟩ : ∃ m : Nat, p.me = (m : Int) := ⟨p.me.toNat, by omega⟩
      have hmt : m < p.tracks.length := by omega
      have HWT : Hid (IntKind.i64.wrap (p.base.tick + 1) = p.base.tick + 1) := Lib.hid (IntWalk.i64_in _ (by omega))
      obtain ⟨x1, x2, ex, hts⟩ := hr.1
      obtain ⟨rfl, -, rfl⟩ := Value.slice.inj ex
      obtain ⟨bt, ot, rfl, hct⟩ := hts.resolve_left (by intro e; rw [e] at hmt; simp at hmt)
      obtain ⟨um, cm, rm⟩ := hct m hmt
      obtain ⟨am, xm, rfl, -⟩ := id rm
      have TK := Lib.hid (tl_k (p := p))
      have TM := Lib.hid (fun h => tl_m (p := p) hmt hm0 h)
      have TO := Lib.hid (fun h1 h2 => tl_ok (p := p) hmt hm0 h1 h2)
      have hkn := fun {W : World} (hb : Below wr.heap.size wr W) => knownTicks_spec (hr.1.keep hb) ⟨f1, f2⟩
      generalize hnm : p.tracks[m].length = nm at cm TM TO
      have hnm1 : (nm : Int) ≤ 9223372036854775807 := by have := f2 p.tracks[m] (List.getElem_mem _); omega
      generalize knownI p.tracks = kn at hkn TK TO
      have hml : (m : Int) < (p.tracks.length : Int) := by omega
      have hmw : 0 ≤ (m : Int) := by omega
      rw [hm0] at hAr
      have HM0 := Lib.hid hm0
      clear hm0 hct hts ex rm hnm
      have cAr := rowCells hAr
      by_cases e5 : p.base.tick ≤ kn
      · have z5 : decide (p.base.tick ≤ kn) = true := by simpa using e5
        by_cases e6 : p.now.tick ≤ (nm : Int)
        · have z6 : decide (p.now.tick ≤ (nm : Int)) = true := by simpa using e6
          have HF0 := Lib.hid (TO.out e5 e6)
          clear e5 e6
          go_upto_region 12 with (fail)
          have bs_0 : Below wr.heap.size wr wr.drew := belowDrew wr 1
          refine wp_region_held_drew (S := (fun w' => (∀ j, w'.cell? ⟨w.heap.size, j, none⟩ = #[Value.int .i64 (m : Int), .int .i64 p.delay, .int .i64 p.ahead, .int .i64 p.seed, (.slice (some ⟨bt, ot, none⟩) p.tracks.length c0), (.slice a1 p.base.rows.length c1), .int .i64 p.base.tick, .int .i64 p.base.seed, (.slice a2 p.base.scores.length c2), (.slice a3 p.base.bods.length c3), (.slice a4 p.now.rows.length c4), .int .i64 p.now.tick, .int .i64 p.now.seed, (.slice a5 p.now.scores.length c5), (.slice a6 p.now.bods.length c6), (.slice a7 p.used.length c7), (.slice a8 p.saves.length c8), (.slice a9 p.sums.length c9), .int .i64 p.fault.tick, .int .i64 p.fault.player, .int .i64 p.fault.add, .int .i64 p.rolls, .int .i64 p.again][j]?) ∧ w'.cell? ⟨bt, ot + m, none⟩ = some (.slice am nm xm))) (by kernel_rfl) ?_ (fun hHeld => ?_)
          · exact ⟨rowCells (keepHeap bs_0 hAr), (bs_0.cell (World.block_lt_of_cell? _ _ cm)).trans cm⟩
          refine take_on (i := 0) (v := ?_) (some 149) rfl (by kernel_rfl) (by kernel_rfl) (by kernel_rfl) rfl (fun _ _ _ h => h) (by rfl) ?_ (by assumption) ?_
          rotate_left
          · intro w hSw; (try dsimp only at hSw); go_simp; (try with_reducible rfl)
          (try simp only [Act.put, List.setIfInBounds_toArray, List.set_cons_zero, List.set_cons_succ])
          refine take_on (i := 1) (v := ?_) (some 150) rfl (by kernel_rfl) (by kernel_rfl) (by kernel_rfl) rfl (fun _ _ _ h => h) (by rfl) ?_ (by assumption) ?_
          rotate_left
          · intro w hSw; (try dsimp only at hSw); go_simp; (try with_reducible rfl)
          (try simp only [Act.put, List.setIfInBounds_toArray, List.set_cons_zero, List.set_cons_succ])
          refine take_on (i := 2) (v := ?_) (some 151) rfl (by kernel_rfl) (by kernel_rfl) (by kernel_rfl) rfl (fun _ _ _ h => h) (by rfl) ?_ (by assumption) ?_
          rotate_left
          · intro w hSw; (try dsimp only at hSw); go_simp; (try with_reducible rfl)
          (try simp only [Act.put, List.setIfInBounds_toArray, List.set_cons_zero, List.set_cons_succ])
          refine take_on (i := 3) (v := ?_) (some 152) rfl (by kernel_rfl) (by kernel_rfl) (by kernel_rfl) rfl (fun _ _ _ h => h) (by rfl) ?_ (by assumption) ?_
          rotate_left
          · intro w hSw; (try dsimp only at hSw); go_simp; (try with_reducible rfl)
          (try simp only [Act.put, List.setIfInBounds_toArray, List.set_cons_zero, List.set_cons_succ])
          refine take_on (i := 4) (v := ?_) (some 153) rfl (by kernel_rfl) (by kernel_rfl) (by kernel_rfl) rfl (fun _ _ _ h => h) (by rfl) ?_ (by assumption) ?_
          rotate_left
          · intro w hSw; (try dsimp only at hSw); go_simp; (try with_reducible rfl)
          (try simp only [Act.put, List.setIfInBounds_toArray, List.set_cons_zero, List.set_cons_succ])
          refine wpAnyH_ready (rs := [5]) (by kernel_rfl) (by simp) ?_
          refine AllReadyH.cons rfl (fun K hK => ?_) AllReadyH.nil
          go_simp
          refine (hkn bs_0).mono ?_
          rintro e w_1 ⟨rfl, hb_1⟩
          have bs_1 := bs_0.trans (hb_1.mono bs_0.size)
          (try go_wp2_with (fail))
          refine hK.out _ _ ?_ (fun hHeld => ?_)
          · exact ⟨rowCells (keepHeap bs_1 hAr), (bs_1.cell (World.block_lt_of_cell? _ _ cm)).trans cm⟩
          clear hK K
          (try simp only [Act.put, List.setIfInBounds_toArray, List.set_cons_zero, List.set_cons_succ])
          refine take_on (i := 6) (v := ?_) (some 155) rfl (by kernel_rfl) (by kernel_rfl) (by kernel_rfl) rfl (fun _ _ _ h => h) (by rfl) ?_ (by assumption) ?_
          rotate_left
          · intro w hSw; (try dsimp only at hSw); go_simp; (try with_reducible rfl)
          (try simp only [Act.put, List.setIfInBounds_toArray, List.set_cons_zero, List.set_cons_succ])
          refine take_on (i := 7) (v := ?_) (some 156) rfl (by kernel_rfl) (by kernel_rfl) (by kernel_rfl) rfl (fun _ _ _ h => h) (by rfl) ?_ (by assumption) ?_
          rotate_left
          · intro w hSw; (try dsimp only at hSw); go_simp; (try with_reducible rfl)
          (try simp only [Act.put, List.setIfInBounds_toArray, List.set_cons_zero, List.set_cons_succ])
          refine take_on (i := 8) (v := ?_) (some 157) rfl (by kernel_rfl) (by kernel_rfl) (by kernel_rfl) rfl (fun _ _ _ h => h) (wanted_on (k := 7) (d := 156) (b := true) rfl rfl rfl) ?_ (by assumption) ?_
          rotate_left
          · intro w hSw; (try dsimp only at hSw); go_simp; (try with_reducible rfl)
          (try simp only [Act.put, List.setIfInBounds_toArray, List.set_cons_zero, List.set_cons_succ])
          refine take_on (i := 9) (v := ?_) (some 158) rfl (by kernel_rfl) (by kernel_rfl) (by kernel_rfl) rfl (fun _ _ _ h => h) (wanted_on (k := 7) (d := 156) (b := true) rfl rfl rfl) ?_ (by assumption) ?_
          rotate_left
          · intro w hSw; (try dsimp only at hSw); go_simp; (try with_reducible rfl)
          (try simp only [Act.put, List.setIfInBounds_toArray, List.set_cons_zero, List.set_cons_succ])
          refine take_on (i := 10) (v := ?_) (some 159) rfl (by kernel_rfl) (by kernel_rfl) (by kernel_rfl) rfl (fun _ _ _ h => h) (wanted_on (k := 7) (d := 156) (b := true) rfl rfl rfl) ?_ (by assumption) ?_
          rotate_left
          · intro w hSw; (try dsimp only at hSw); go_simp; (try with_reducible rfl)
          (try simp only [Act.put, List.setIfInBounds_toArray, List.set_cons_zero, List.set_cons_succ])
          refine take_on (i := 11) (v := ?_) (some 160) rfl (by kernel_rfl) (by kernel_rfl) (by kernel_rfl) rfl (fun _ _ _ h => h) (wanted_on (k := 7) (d := 156) (b := true) rfl rfl rfl) ?_ (by assumption) ?_
          rotate_left
          · intro w hSw; (try dsimp only at hSw); go_simp; (try with_reducible rfl)
          (try simp only [Act.put, List.setIfInBounds_toArray, List.set_cons_zero, List.set_cons_succ])
          refine take_on (i := 12) (v := ?_) (some 161) rfl (by kernel_rfl) (by kernel_rfl) (by kernel_rfl) rfl (fun _ _ _ h => h) (wanted_on (k := 7) (d := 156) (b := true) rfl rfl rfl) ?_ (by assumption) ?_
          rotate_left
          · intro w hSw; (try dsimp only at hSw); go_simp; (try with_reducible rfl)
          (try simp only [Act.put, List.setIfInBounds_toArray, List.set_cons_zero, List.set_cons_succ])
          refine take_on (i := 13) (v := ?_) (some 162) rfl (by kernel_rfl) (by kernel_rfl) (by kernel_rfl) rfl (fun _ _ _ h => h) (wanted_on (k := 7) (d := 156) (b := true) rfl rfl rfl) ?_ (by assumption) ?_
          rotate_left
          · intro w hSw; (try dsimp only at hSw); go_simp; (try with_reducible rfl)
          (try simp only [Act.put, List.setIfInBounds_toArray, List.set_cons_zero, List.set_cons_succ])
          refine take_on (i := 14) (v := ?_) (some 163) rfl (by kernel_rfl) (by kernel_rfl) (by kernel_rfl) rfl (fun _ _ _ h => h) (wanted_on (k := 7) (d := 156) (b := true) rfl rfl rfl) ?_ (by assumption) ?_
          rotate_left
          · intro w hSw; (try dsimp only at hSw); go_simp; (try with_reducible rfl)
          (try simp only [Act.put, List.setIfInBounds_toArray, List.set_cons_zero, List.set_cons_succ])
          refine take_on (i := 15) (v := ?_) (some 164) rfl (by kernel_rfl) (by kernel_rfl) (by kernel_rfl) rfl (fun _ _ _ h => h) (wanted_on (k := 7) (d := 156) (b := true) rfl rfl rfl) ?_ (by assumption) ?_
          rotate_left
          · intro w hSw; (try dsimp only at hSw); go_simp; (try with_reducible rfl)
          (try simp only [Act.put, List.setIfInBounds_toArray, List.set_cons_zero, List.set_cons_succ])
          refine take_on (i := 16) (v := ?_) (some 165) rfl (by kernel_rfl) (by kernel_rfl) (by kernel_rfl) rfl (fun _ _ _ h => h) (wanted_on (k := 7) (d := 156) (b := true) rfl rfl rfl) ?_ (by assumption) ?_
          rotate_left
          · intro w hSw; (try dsimp only at hSw); go_simp; (try with_reducible rfl)
          (try simp only [Act.put, List.setIfInBounds_toArray, List.set_cons_zero, List.set_cons_succ])
          refine take_on (i := 17) (v := ?_) (some 166) rfl (by kernel_rfl) (by kernel_rfl) (by kernel_rfl) rfl (fun _ _ _ h => h) (wanted_on (k := 7) (d := 156) (b := true) rfl rfl rfl) ?_ (by assumption) ?_
          rotate_left
          · intro w hSw; (try dsimp only at hSw); go_simp; (try with_reducible rfl)
          (try simp only [Act.put, List.setIfInBounds_toArray, List.set_cons_zero, List.set_cons_succ])
          refine take_on (i := 18) (v := ?_) (some 167) rfl (by kernel_rfl) (by kernel_rfl) (by kernel_rfl) rfl (fun _ _ _ h => h) (wanted_on (k := 7) (d := 156) (b := true) rfl rfl rfl) ?_ (by assumption) ?_
          rotate_left
          · intro w hSw; (try dsimp only at hSw); go_simp; (try with_reducible rfl)
          (try simp only [Act.put, List.setIfInBounds_toArray, List.set_cons_zero, List.set_cons_succ])
          refine take_on (i := 19) (v := ?_) (some 168) rfl (by kernel_rfl) (by kernel_rfl) (by kernel_rfl) rfl (fun _ _ _ h => h) (wanted_on (k := 7) (d := 156) (b := true) rfl rfl rfl) ?_ (by assumption) ?_
          rotate_left
          · intro w hSw; (try dsimp only at hSw); go_simp; (try with_reducible rfl)
          (try simp only [Act.put, List.setIfInBounds_toArray, List.set_cons_zero, List.set_cons_succ])
          refine take_on (i := 20) (v := ?_) (some 169) rfl (by kernel_rfl) (by kernel_rfl) (by kernel_rfl) rfl (fun _ _ _ h => h) (by rfl) ?_ (by assumption) ?_
          rotate_left
          · intro w hSw; (try dsimp only at hSw); go_simp; (try with_reducible rfl)
          (try simp only [Act.put, List.setIfInBounds_toArray, List.set_cons_zero, List.set_cons_succ])
          refine take_on (i := 21) (v := ?_) (some 170) rfl (by kernel_rfl) (by kernel_rfl) (by kernel_rfl) rfl (fun _ _ _ h => h) (by rfl) ?_ (by assumption) ?_
          rotate_left
          · intro w hSw; (try dsimp only at hSw); go_simp; (try with_reducible rfl)
          (try simp only [Act.put, List.setIfInBounds_toArray, List.set_cons_zero, List.set_cons_succ])
          refine take_on (i := 22) (v := ?_) (some 171) rfl (by kernel_rfl) (by kernel_rfl) (by kernel_rfl) rfl (fun _ _ _ h => h) (wanted_on (k := 21) (d := 170) (b := true) rfl rfl rfl) ?_ (by assumption) ?_
          rotate_left
          · intro w hSw; (try dsimp only at hSw); go_simp; (try with_reducible rfl)
          (try simp only [Act.put, List.setIfInBounds_toArray, List.set_cons_zero, List.set_cons_succ])
          refine take_on (i := 23) (v := ?_) (some 172) rfl (by kernel_rfl) (by kernel_rfl) (by kernel_rfl) rfl (fun _ _ _ h => h) (wanted_on (k := 21) (d := 170) (b := true) rfl rfl rfl) ?_ (by assumption) ?_
          rotate_left
          · intro w hSw; (try dsimp only at hSw); go_simp; (try with_reducible rfl)
          (try simp only [Act.put, List.setIfInBounds_toArray, List.set_cons_zero, List.set_cons_succ])
          refine take_on (i := 24) (v := ?_) (some 173) rfl (by kernel_rfl) (by kernel_rfl) (by kernel_rfl) rfl (fun _ _ _ h => h) (wanted_on (k := 21) (d := 170) (b := true) rfl rfl rfl) ?_ (by assumption) ?_
          rotate_left
          · intro w hSw; (try dsimp only at hSw); go_simp; (try with_reducible rfl)
          (try simp only [Act.put, List.setIfInBounds_toArray, List.set_cons_zero, List.set_cons_succ])
          refine take_on (i := 25) (v := ?_) (some 174) rfl (by kernel_rfl) (by kernel_rfl) (by kernel_rfl) rfl (fun _ _ _ h => h) (wanted_on (k := 21) (d := 170) (b := true) rfl rfl rfl) ?_ (by assumption) ?_
          rotate_left
          · intro w hSw; (try dsimp only at hSw); go_simp; (try with_reducible rfl)
          (try simp only [Act.put, List.setIfInBounds_toArray, List.set_cons_zero, List.set_cons_succ])
          refine take_on (i := 26) (v := ?_) (some 175) rfl (by kernel_rfl) (by kernel_rfl) (by kernel_rfl) rfl (fun _ _ _ h => h) (wanted_on (k := 21) (d := 170) (b := true) rfl rfl rfl) ?_ (by assumption) ?_
          rotate_left
          · intro w hSw; (try dsimp only at hSw); go_simp; (try with_reducible rfl)
          (try simp only [Act.put, List.setIfInBounds_toArray, List.set_cons_zero, List.set_cons_succ])
          refine take_on (i := 27) (v := ?_) (some 176) rfl (by kernel_rfl) (by kernel_rfl) (by kernel_rfl) rfl (fun _ _ _ h => h) (wanted_on (k := 21) (d := 170) (b := true) rfl rfl rfl) ?_ (by assumption) ?_
          rotate_left
          · intro w hSw; (try dsimp only at hSw); go_simp; (try with_reducible rfl)
          (try simp only [Act.put, List.setIfInBounds_toArray, List.set_cons_zero, List.set_cons_succ])
          refine take_on (i := 28) (v := ?_) (some 177) rfl (by kernel_rfl) (by kernel_rfl) (by kernel_rfl) rfl (fun _ _ _ h => h) (wanted_on (k := 21) (d := 170) (b := true) rfl rfl rfl) ?_ (by assumption) ?_
          rotate_left
          · intro w hSw; (try dsimp only at hSw); go_simp; (try with_reducible rfl)
          (try simp only [Act.put, List.setIfInBounds_toArray, List.set_cons_zero, List.set_cons_succ])
          refine take_on (i := 29) (v := ?_) (some 178) rfl (by kernel_rfl) (by kernel_rfl) (by kernel_rfl) rfl (fun _ _ _ h => h) (wanted_on (k := 21) (d := 170) (b := true) rfl rfl rfl) ?_ (by assumption) ?_
          rotate_left
          · intro w hSw; (try dsimp only at hSw); go_simp; (try with_reducible rfl)
          (try simp only [Act.put, List.setIfInBounds_toArray, List.set_cons_zero, List.set_cons_succ])
          refine take_on (i := 30) (v := ?_) (some 179) rfl (by kernel_rfl) (by kernel_rfl) (by kernel_rfl) rfl (fun _ _ _ h => h) (by rfl) ?_ (by assumption) ?_
          rotate_left
          · intro w hSw; (try dsimp only at hSw); go_simp; (try with_reducible rfl)
          (try simp only [Act.put, List.setIfInBounds_toArray, List.set_cons_zero, List.set_cons_succ])
          refine take_on (i := 31) (v := ?_) (some 2) rfl (by kernel_rfl) (by kernel_rfl) (by kernel_rfl) rfl (fun _ _ _ h => h) (by rfl) ?_ (by assumption) ?_
          rotate_left
          · intro w hSw; (try dsimp only at hSw); go_simp; (try with_reducible rfl)
          (try simp only [Act.put, List.setIfInBounds_toArray, List.set_cons_zero, List.set_cons_succ])
          refine wpAnyH_done (by kernel_rfl) ?_ _
          have HF := Lib.hid HF0.out
          go_wp2_with (fail)
          go_ret
          exact ⟨by rw [HTL.out, HF.out]; first | rfl | (simp; done) | (rw [HWT.out]; exact Bool.beq_eq_decide_eq _ _) | (simp [HWT.out]; exact Bool.beq_eq_decide_eq _ _), hbel.trans (bs_1.mono hqr)⟩
        · have z6 : decide (p.now.tick ≤ (nm : Int)) = false := by simpa using e6
          have HF0 := Lib.hid (TM.out e6)
          clear e5 e6
          go_upto_region 12 with (fail)
          have bs_0 : Below wr.heap.size wr wr.drew := belowDrew wr 1
          refine wp_region_held_drew (S := (fun w' => (∀ j, w'.cell? ⟨w.heap.size, j, none⟩ = #[Value.int .i64 (m : Int), .int .i64 p.delay, .int .i64 p.ahead, .int .i64 p.seed, (.slice (some ⟨bt, ot, none⟩) p.tracks.length c0), (.slice a1 p.base.rows.length c1), .int .i64 p.base.tick, .int .i64 p.base.seed, (.slice a2 p.base.scores.length c2), (.slice a3 p.base.bods.length c3), (.slice a4 p.now.rows.length c4), .int .i64 p.now.tick, .int .i64 p.now.seed, (.slice a5 p.now.scores.length c5), (.slice a6 p.now.bods.length c6), (.slice a7 p.used.length c7), (.slice a8 p.saves.length c8), (.slice a9 p.sums.length c9), .int .i64 p.fault.tick, .int .i64 p.fault.player, .int .i64 p.fault.add, .int .i64 p.rolls, .int .i64 p.again][j]?) ∧ w'.cell? ⟨bt, ot + m, none⟩ = some (.slice am nm xm))) (by kernel_rfl) ?_ (fun hHeld => ?_)
          · exact ⟨rowCells (keepHeap bs_0 hAr), (bs_0.cell (World.block_lt_of_cell? _ _ cm)).trans cm⟩
          refine take_on (i := 0) (v := ?_) (some 149) rfl (by kernel_rfl) (by kernel_rfl) (by kernel_rfl) rfl (fun _ _ _ h => h) (by rfl) ?_ (by assumption) ?_
          rotate_left
          · intro w hSw; (try dsimp only at hSw); go_simp; (try with_reducible rfl)
          (try simp only [Act.put, List.setIfInBounds_toArray, List.set_cons_zero, List.set_cons_succ])
          refine take_on (i := 1) (v := ?_) (some 150) rfl (by kernel_rfl) (by kernel_rfl) (by kernel_rfl) rfl (fun _ _ _ h => h) (by rfl) ?_ (by assumption) ?_
          rotate_left
          · intro w hSw; (try dsimp only at hSw); go_simp; (try with_reducible rfl)
          (try simp only [Act.put, List.setIfInBounds_toArray, List.set_cons_zero, List.set_cons_succ])
          refine take_on (i := 2) (v := ?_) (some 151) rfl (by kernel_rfl) (by kernel_rfl) (by kernel_rfl) rfl (fun _ _ _ h => h) (by rfl) ?_ (by assumption) ?_
          rotate_left
          · intro w hSw; (try dsimp only at hSw); go_simp; (try with_reducible rfl)
          (try simp only [Act.put, List.setIfInBounds_toArray, List.set_cons_zero, List.set_cons_succ])
          refine take_on (i := 3) (v := ?_) (some 152) rfl (by kernel_rfl) (by kernel_rfl) (by kernel_rfl) rfl (fun _ _ _ h => h) (by rfl) ?_ (by assumption) ?_
          rotate_left
          · intro w hSw; (try dsimp only at hSw); go_simp; (try with_reducible rfl)
          (try simp only [Act.put, List.setIfInBounds_toArray, List.set_cons_zero, List.set_cons_succ])
          refine take_on (i := 4) (v := ?_) (some 153) rfl (by kernel_rfl) (by kernel_rfl) (by kernel_rfl) rfl (fun _ _ _ h => h) (by rfl) ?_ (by assumption) ?_
          rotate_left
          · intro w hSw; (try dsimp only at hSw); go_simp; (try with_reducible rfl)
          (try simp only [Act.put, List.setIfInBounds_toArray, List.set_cons_zero, List.set_cons_succ])
          refine wpAnyH_ready (rs := [5]) (by kernel_rfl) (by simp) ?_
          refine AllReadyH.cons rfl (fun K hK => ?_) AllReadyH.nil
          go_simp
          refine (hkn bs_0).mono ?_
          rintro e w_1 ⟨rfl, hb_1⟩
          have bs_1 := bs_0.trans (hb_1.mono bs_0.size)
          (try go_wp2_with (fail))
          refine hK.out _ _ ?_ (fun hHeld => ?_)
          · exact ⟨rowCells (keepHeap bs_1 hAr), (bs_1.cell (World.block_lt_of_cell? _ _ cm)).trans cm⟩
          clear hK K
          (try simp only [Act.put, List.setIfInBounds_toArray, List.set_cons_zero, List.set_cons_succ])
          refine take_on (i := 6) (v := ?_) (some 155) rfl (by kernel_rfl) (by kernel_rfl) (by kernel_rfl) rfl (fun _ _ _ h => h) (by rfl) ?_ (by assumption) ?_
          rotate_left
          · intro w hSw; (try dsimp only at hSw); go_simp; (try with_reducible rfl)
          (try simp only [Act.put, List.setIfInBounds_toArray, List.set_cons_zero, List.set_cons_succ])
          refine take_on (i := 7) (v := ?_) (some 156) rfl (by kernel_rfl) (by kernel_rfl) (by kernel_rfl) rfl (fun _ _ _ h => h) (by rfl) ?_ (by assumption) ?_
          rotate_left
          · intro w hSw; (try dsimp only at hSw); go_simp; (try with_reducible rfl)
          (try simp only [Act.put, List.setIfInBounds_toArray, List.set_cons_zero, List.set_cons_succ])
          refine take_on (i := 8) (v := ?_) (some 157) rfl (by kernel_rfl) (by kernel_rfl) (by kernel_rfl) rfl (fun _ _ _ h => h) (wanted_on (k := 7) (d := 156) (b := true) rfl rfl rfl) ?_ (by assumption) ?_
          rotate_left
          · intro w hSw; (try dsimp only at hSw); go_simp; (try with_reducible rfl)
          (try simp only [Act.put, List.setIfInBounds_toArray, List.set_cons_zero, List.set_cons_succ])
          refine take_on (i := 9) (v := ?_) (some 158) rfl (by kernel_rfl) (by kernel_rfl) (by kernel_rfl) rfl (fun _ _ _ h => h) (wanted_on (k := 7) (d := 156) (b := true) rfl rfl rfl) ?_ (by assumption) ?_
          rotate_left
          · intro w hSw; (try dsimp only at hSw); go_simp; (try with_reducible rfl)
          (try simp only [Act.put, List.setIfInBounds_toArray, List.set_cons_zero, List.set_cons_succ])
          refine take_on (i := 10) (v := ?_) (some 159) rfl (by kernel_rfl) (by kernel_rfl) (by kernel_rfl) rfl (fun _ _ _ h => h) (wanted_on (k := 7) (d := 156) (b := true) rfl rfl rfl) ?_ (by assumption) ?_
          rotate_left
          · intro w hSw; (try dsimp only at hSw); go_simp; (try with_reducible rfl)
          (try simp only [Act.put, List.setIfInBounds_toArray, List.set_cons_zero, List.set_cons_succ])
          refine take_on (i := 11) (v := ?_) (some 160) rfl (by kernel_rfl) (by kernel_rfl) (by kernel_rfl) rfl (fun _ _ _ h => h) (wanted_on (k := 7) (d := 156) (b := true) rfl rfl rfl) ?_ (by assumption) ?_
          rotate_left
          · intro w hSw; (try dsimp only at hSw); go_simp; (try with_reducible rfl)
          (try simp only [Act.put, List.setIfInBounds_toArray, List.set_cons_zero, List.set_cons_succ])
          refine take_on (i := 12) (v := ?_) (some 161) rfl (by kernel_rfl) (by kernel_rfl) (by kernel_rfl) rfl (fun _ _ _ h => h) (wanted_on (k := 7) (d := 156) (b := true) rfl rfl rfl) ?_ (by assumption) ?_
          rotate_left
          · intro w hSw; (try dsimp only at hSw); go_simp; (try with_reducible rfl)
          (try simp only [Act.put, List.setIfInBounds_toArray, List.set_cons_zero, List.set_cons_succ])
          refine take_on (i := 13) (v := ?_) (some 162) rfl (by kernel_rfl) (by kernel_rfl) (by kernel_rfl) rfl (fun _ _ _ h => h) (wanted_on (k := 7) (d := 156) (b := true) rfl rfl rfl) ?_ (by assumption) ?_
          rotate_left
          · intro w hSw; (try dsimp only at hSw); go_simp; (try with_reducible rfl)
          (try simp only [Act.put, List.setIfInBounds_toArray, List.set_cons_zero, List.set_cons_succ])
          refine take_on (i := 14) (v := ?_) (some 163) rfl (by kernel_rfl) (by kernel_rfl) (by kernel_rfl) rfl (fun _ _ _ h => h) (wanted_on (k := 7) (d := 156) (b := true) rfl rfl rfl) ?_ (by assumption) ?_
          rotate_left
          · intro w hSw; (try dsimp only at hSw); go_simp; (try with_reducible rfl)
          (try simp only [Act.put, List.setIfInBounds_toArray, List.set_cons_zero, List.set_cons_succ])
          refine take_on (i := 15) (v := ?_) (some 164) rfl (by kernel_rfl) (by kernel_rfl) (by kernel_rfl) rfl (fun _ _ _ h => h) (wanted_on (k := 7) (d := 156) (b := true) rfl rfl rfl) ?_ (by assumption) ?_
          rotate_left
          · intro w hSw; (try dsimp only at hSw); go_simp; (try with_reducible rfl)
          (try simp only [Act.put, List.setIfInBounds_toArray, List.set_cons_zero, List.set_cons_succ])
          refine take_on (i := 16) (v := ?_) (some 165) rfl (by kernel_rfl) (by kernel_rfl) (by kernel_rfl) rfl (fun _ _ _ h => h) (wanted_on (k := 7) (d := 156) (b := true) rfl rfl rfl) ?_ (by assumption) ?_
          rotate_left
          · intro w hSw; (try dsimp only at hSw); go_simp; (try with_reducible rfl)
          (try simp only [Act.put, List.setIfInBounds_toArray, List.set_cons_zero, List.set_cons_succ])
          refine take_on (i := 17) (v := ?_) (some 166) rfl (by kernel_rfl) (by kernel_rfl) (by kernel_rfl) rfl (fun _ _ _ h => h) (wanted_on (k := 7) (d := 156) (b := true) rfl rfl rfl) ?_ (by assumption) ?_
          rotate_left
          · intro w hSw; (try dsimp only at hSw); go_simp; (try with_reducible rfl)
          (try simp only [Act.put, List.setIfInBounds_toArray, List.set_cons_zero, List.set_cons_succ])
          refine take_on (i := 18) (v := ?_) (some 167) rfl (by kernel_rfl) (by kernel_rfl) (by kernel_rfl) rfl (fun _ _ _ h => h) (wanted_on (k := 7) (d := 156) (b := true) rfl rfl rfl) ?_ (by assumption) ?_
          rotate_left
          · intro w hSw; (try dsimp only at hSw); go_simp; (try with_reducible rfl)
          (try simp only [Act.put, List.setIfInBounds_toArray, List.set_cons_zero, List.set_cons_succ])
          refine take_on (i := 19) (v := ?_) (some 168) rfl (by kernel_rfl) (by kernel_rfl) (by kernel_rfl) rfl (fun _ _ _ h => h) (wanted_on (k := 7) (d := 156) (b := true) rfl rfl rfl) ?_ (by assumption) ?_
          rotate_left
          · intro w hSw; (try dsimp only at hSw); go_simp; (try with_reducible rfl)
          (try simp only [Act.put, List.setIfInBounds_toArray, List.set_cons_zero, List.set_cons_succ])
          refine take_on (i := 20) (v := ?_) (some 169) rfl (by kernel_rfl) (by kernel_rfl) (by kernel_rfl) rfl (fun _ _ _ h => h) (by rfl) ?_ (by assumption) ?_
          rotate_left
          · intro w hSw; (try dsimp only at hSw); go_simp; (try with_reducible rfl)
          (try simp only [Act.put, List.setIfInBounds_toArray, List.set_cons_zero, List.set_cons_succ])
          refine take_on (i := 21) (v := ?_) (some 170) rfl (by kernel_rfl) (by kernel_rfl) (by kernel_rfl) rfl (fun _ _ _ h => h) (by rfl) ?_ (by assumption) ?_
          rotate_left
          · intro w hSw; (try dsimp only at hSw); go_simp; (try with_reducible rfl)
          (try simp only [Act.put, List.setIfInBounds_toArray, List.set_cons_zero, List.set_cons_succ])
          refine take_off (i := 22) (some 171) rfl (by kernel_rfl) (by kernel_rfl) (by kernel_rfl) rfl (fun _ _ _ h => h) (wanted_off (k := 21) (d := 170) (b := true) (c := false) rfl rfl rfl rfl) (by assumption) ?_
          (try simp only [Act.put, List.setIfInBounds_toArray, List.set_cons_zero, List.set_cons_succ])
          refine take_off (i := 23) (some 172) rfl (by kernel_rfl) (by kernel_rfl) (by kernel_rfl) rfl (fun _ _ _ h => h) (wanted_off (k := 21) (d := 170) (b := true) (c := false) rfl rfl rfl rfl) (by assumption) ?_
          (try simp only [Act.put, List.setIfInBounds_toArray, List.set_cons_zero, List.set_cons_succ])
          refine take_off (i := 24) (some 173) rfl (by kernel_rfl) (by kernel_rfl) (by kernel_rfl) rfl (fun _ _ _ h => h) (wanted_off (k := 21) (d := 170) (b := true) (c := false) rfl rfl rfl rfl) (by assumption) ?_
          (try simp only [Act.put, List.setIfInBounds_toArray, List.set_cons_zero, List.set_cons_succ])
          refine take_off (i := 25) (some 174) rfl (by kernel_rfl) (by kernel_rfl) (by kernel_rfl) rfl (fun _ _ _ h => h) (wanted_off (k := 21) (d := 170) (b := true) (c := false) rfl rfl rfl rfl) (by assumption) ?_
          (try simp only [Act.put, List.setIfInBounds_toArray, List.set_cons_zero, List.set_cons_succ])
          refine take_off (i := 26) (some 175) rfl (by kernel_rfl) (by kernel_rfl) (by kernel_rfl) rfl (fun _ _ _ h => h) (wanted_off (k := 21) (d := 170) (b := true) (c := false) rfl rfl rfl rfl) (by assumption) ?_
          (try simp only [Act.put, List.setIfInBounds_toArray, List.set_cons_zero, List.set_cons_succ])
          refine take_off (i := 27) (some 176) rfl (by kernel_rfl) (by kernel_rfl) (by kernel_rfl) rfl (fun _ _ _ h => h) (wanted_off (k := 21) (d := 170) (b := true) (c := false) rfl rfl rfl rfl) (by assumption) ?_
          (try simp only [Act.put, List.setIfInBounds_toArray, List.set_cons_zero, List.set_cons_succ])
          refine take_off (i := 28) (some 177) rfl (by kernel_rfl) (by kernel_rfl) (by kernel_rfl) rfl (fun _ _ _ h => h) (wanted_off (k := 21) (d := 170) (b := true) (c := false) rfl rfl rfl rfl) (by assumption) ?_
          (try simp only [Act.put, List.setIfInBounds_toArray, List.set_cons_zero, List.set_cons_succ])
          refine take_off (i := 29) (some 178) rfl (by kernel_rfl) (by kernel_rfl) (by kernel_rfl) rfl (fun _ _ _ h => h) (wanted_off (k := 21) (d := 170) (b := true) (c := false) rfl rfl rfl rfl) (by assumption) ?_
          (try simp only [Act.put, List.setIfInBounds_toArray, List.set_cons_zero, List.set_cons_succ])
          refine take_on (i := 30) (v := ?_) (some 179) rfl (by kernel_rfl) (by kernel_rfl) (by kernel_rfl) rfl (fun _ _ _ h => h) (by rfl) ?_ (by assumption) ?_
          rotate_left
          · intro w hSw; (try dsimp only at hSw); go_simp; (try with_reducible rfl)
          (try simp only [Act.put, List.setIfInBounds_toArray, List.set_cons_zero, List.set_cons_succ])
          refine take_on (i := 31) (v := ?_) (some 2) rfl (by kernel_rfl) (by kernel_rfl) (by kernel_rfl) rfl (fun _ _ _ h => h) (by rfl) ?_ (by assumption) ?_
          rotate_left
          · intro w hSw; (try dsimp only at hSw); go_simp; (try with_reducible rfl)
          (try simp only [Act.put, List.setIfInBounds_toArray, List.set_cons_zero, List.set_cons_succ])
          refine wpAnyH_done (by kernel_rfl) ?_ _
          have HF := Lib.hid HF0.out
          go_wp2_with (fail)
          go_ret
          exact ⟨by rw [HTL.out, HF.out]; first | rfl | (simp; done) | (rw [HWT.out]; exact Bool.beq_eq_decide_eq _ _) | (simp [HWT.out]; exact Bool.beq_eq_decide_eq _ _), hbel.trans (bs_1.mono hqr)⟩
      · have z5 : decide (p.base.tick ≤ kn) = false := by simpa using e5
        have HF0 := Lib.hid (TK.out e5)
        clear e5
        go_upto_region 12 with (fail)
        have bs_0 : Below wr.heap.size wr wr.drew := belowDrew wr 1
        refine wp_region_held_drew (S := (fun w' => (∀ j, w'.cell? ⟨w.heap.size, j, none⟩ = #[Value.int .i64 (m : Int), .int .i64 p.delay, .int .i64 p.ahead, .int .i64 p.seed, (.slice (some ⟨bt, ot, none⟩) p.tracks.length c0), (.slice a1 p.base.rows.length c1), .int .i64 p.base.tick, .int .i64 p.base.seed, (.slice a2 p.base.scores.length c2), (.slice a3 p.base.bods.length c3), (.slice a4 p.now.rows.length c4), .int .i64 p.now.tick, .int .i64 p.now.seed, (.slice a5 p.now.scores.length c5), (.slice a6 p.now.bods.length c6), (.slice a7 p.used.length c7), (.slice a8 p.saves.length c8), (.slice a9 p.sums.length c9), .int .i64 p.fault.tick, .int .i64 p.fault.player, .int .i64 p.fault.add, .int .i64 p.rolls, .int .i64 p.again][j]?) ∧ w'.cell? ⟨bt, ot + m, none⟩ = some (.slice am nm xm))) (by kernel_rfl) ?_ (fun hHeld => ?_)
        · exact ⟨rowCells (keepHeap bs_0 hAr), (bs_0.cell (World.block_lt_of_cell? _ _ cm)).trans cm⟩
        refine take_on (i := 0) (v := ?_) (some 149) rfl (by kernel_rfl) (by kernel_rfl) (by kernel_rfl) rfl (fun _ _ _ h => h) (by rfl) ?_ (by assumption) ?_
        rotate_left
        · intro w hSw; (try dsimp only at hSw); go_simp; (try with_reducible rfl)
        (try simp only [Act.put, List.setIfInBounds_toArray, List.set_cons_zero, List.set_cons_succ])
        refine take_on (i := 1) (v := ?_) (some 150) rfl (by kernel_rfl) (by kernel_rfl) (by kernel_rfl) rfl (fun _ _ _ h => h) (by rfl) ?_ (by assumption) ?_
        rotate_left
        · intro w hSw; (try dsimp only at hSw); go_simp; (try with_reducible rfl)
        (try simp only [Act.put, List.setIfInBounds_toArray, List.set_cons_zero, List.set_cons_succ])
        refine take_on (i := 2) (v := ?_) (some 151) rfl (by kernel_rfl) (by kernel_rfl) (by kernel_rfl) rfl (fun _ _ _ h => h) (by rfl) ?_ (by assumption) ?_
        rotate_left
        · intro w hSw; (try dsimp only at hSw); go_simp; (try with_reducible rfl)
        (try simp only [Act.put, List.setIfInBounds_toArray, List.set_cons_zero, List.set_cons_succ])
        refine take_on (i := 3) (v := ?_) (some 152) rfl (by kernel_rfl) (by kernel_rfl) (by kernel_rfl) rfl (fun _ _ _ h => h) (by rfl) ?_ (by assumption) ?_
        rotate_left
        · intro w hSw; (try dsimp only at hSw); go_simp; (try with_reducible rfl)
        (try simp only [Act.put, List.setIfInBounds_toArray, List.set_cons_zero, List.set_cons_succ])
        refine take_on (i := 4) (v := ?_) (some 153) rfl (by kernel_rfl) (by kernel_rfl) (by kernel_rfl) rfl (fun _ _ _ h => h) (by rfl) ?_ (by assumption) ?_
        rotate_left
        · intro w hSw; (try dsimp only at hSw); go_simp; (try with_reducible rfl)
        (try simp only [Act.put, List.setIfInBounds_toArray, List.set_cons_zero, List.set_cons_succ])
        refine wpAnyH_ready (rs := [5]) (by kernel_rfl) (by simp) ?_
        refine AllReadyH.cons rfl (fun K hK => ?_) AllReadyH.nil
        go_simp
        refine (hkn bs_0).mono ?_
        rintro e w_1 ⟨rfl, hb_1⟩
        have bs_1 := bs_0.trans (hb_1.mono bs_0.size)
        (try go_wp2_with (fail))
        refine hK.out _ _ ?_ (fun hHeld => ?_)
        · exact ⟨rowCells (keepHeap bs_1 hAr), (bs_1.cell (World.block_lt_of_cell? _ _ cm)).trans cm⟩
        clear hK K
        (try simp only [Act.put, List.setIfInBounds_toArray, List.set_cons_zero, List.set_cons_succ])
        refine take_on (i := 6) (v := ?_) (some 155) rfl (by kernel_rfl) (by kernel_rfl) (by kernel_rfl) rfl (fun _ _ _ h => h) (by rfl) ?_ (by assumption) ?_
        rotate_left
        · intro w hSw; (try dsimp only at hSw); go_simp; (try with_reducible rfl)
        (try simp only [Act.put, List.setIfInBounds_toArray, List.set_cons_zero, List.set_cons_succ])
        refine take_on (i := 7) (v := ?_) (some 156) rfl (by kernel_rfl) (by kernel_rfl) (by kernel_rfl) rfl (fun _ _ _ h => h) (by rfl) ?_ (by assumption) ?_
        rotate_left
        · intro w hSw; (try dsimp only at hSw); go_simp; (try with_reducible rfl)
        (try simp only [Act.put, List.setIfInBounds_toArray, List.set_cons_zero, List.set_cons_succ])
        refine take_off (i := 8) (some 157) rfl (by kernel_rfl) (by kernel_rfl) (by kernel_rfl) rfl (fun _ _ _ h => h) (wanted_off (k := 7) (d := 156) (b := true) (c := false) rfl rfl rfl rfl) (by assumption) ?_
        (try simp only [Act.put, List.setIfInBounds_toArray, List.set_cons_zero, List.set_cons_succ])
        refine take_off (i := 9) (some 158) rfl (by kernel_rfl) (by kernel_rfl) (by kernel_rfl) rfl (fun _ _ _ h => h) (wanted_off (k := 7) (d := 156) (b := true) (c := false) rfl rfl rfl rfl) (by assumption) ?_
        (try simp only [Act.put, List.setIfInBounds_toArray, List.set_cons_zero, List.set_cons_succ])
        refine take_off (i := 10) (some 159) rfl (by kernel_rfl) (by kernel_rfl) (by kernel_rfl) rfl (fun _ _ _ h => h) (wanted_off (k := 7) (d := 156) (b := true) (c := false) rfl rfl rfl rfl) (by assumption) ?_
        (try simp only [Act.put, List.setIfInBounds_toArray, List.set_cons_zero, List.set_cons_succ])
        refine take_off (i := 11) (some 160) rfl (by kernel_rfl) (by kernel_rfl) (by kernel_rfl) rfl (fun _ _ _ h => h) (wanted_off (k := 7) (d := 156) (b := true) (c := false) rfl rfl rfl rfl) (by assumption) ?_
        (try simp only [Act.put, List.setIfInBounds_toArray, List.set_cons_zero, List.set_cons_succ])
        refine take_off (i := 12) (some 161) rfl (by kernel_rfl) (by kernel_rfl) (by kernel_rfl) rfl (fun _ _ _ h => h) (wanted_off (k := 7) (d := 156) (b := true) (c := false) rfl rfl rfl rfl) (by assumption) ?_
        (try simp only [Act.put, List.setIfInBounds_toArray, List.set_cons_zero, List.set_cons_succ])
        refine take_off (i := 13) (some 162) rfl (by kernel_rfl) (by kernel_rfl) (by kernel_rfl) rfl (fun _ _ _ h => h) (wanted_off (k := 7) (d := 156) (b := true) (c := false) rfl rfl rfl rfl) (by assumption) ?_
        (try simp only [Act.put, List.setIfInBounds_toArray, List.set_cons_zero, List.set_cons_succ])
        refine take_off (i := 14) (some 163) rfl (by kernel_rfl) (by kernel_rfl) (by kernel_rfl) rfl (fun _ _ _ h => h) (wanted_off (k := 7) (d := 156) (b := true) (c := false) rfl rfl rfl rfl) (by assumption) ?_
        (try simp only [Act.put, List.setIfInBounds_toArray, List.set_cons_zero, List.set_cons_succ])
        refine take_off (i := 15) (some 164) rfl (by kernel_rfl) (by kernel_rfl) (by kernel_rfl) rfl (fun _ _ _ h => h) (wanted_off (k := 7) (d := 156) (b := true) (c := false) rfl rfl rfl rfl) (by assumption) ?_
        (try simp only [Act.put, List.setIfInBounds_toArray, List.set_cons_zero, List.set_cons_succ])
        refine take_off (i := 16) (some 165) rfl (by kernel_rfl) (by kernel_rfl) (by kernel_rfl) rfl (fun _ _ _ h => h) (wanted_off (k := 7) (d := 156) (b := true) (c := false) rfl rfl rfl rfl) (by assumption) ?_
        (try simp only [Act.put, List.setIfInBounds_toArray, List.set_cons_zero, List.set_cons_succ])
        refine take_off (i := 17) (some 166) rfl (by kernel_rfl) (by kernel_rfl) (by kernel_rfl) rfl (fun _ _ _ h => h) (wanted_off (k := 7) (d := 156) (b := true) (c := false) rfl rfl rfl rfl) (by assumption) ?_
        (try simp only [Act.put, List.setIfInBounds_toArray, List.set_cons_zero, List.set_cons_succ])
        refine take_off (i := 18) (some 167) rfl (by kernel_rfl) (by kernel_rfl) (by kernel_rfl) rfl (fun _ _ _ h => h) (wanted_off (k := 7) (d := 156) (b := true) (c := false) rfl rfl rfl rfl) (by assumption) ?_
        (try simp only [Act.put, List.setIfInBounds_toArray, List.set_cons_zero, List.set_cons_succ])
        refine take_off (i := 19) (some 168) rfl (by kernel_rfl) (by kernel_rfl) (by kernel_rfl) rfl (fun _ _ _ h => h) (wanted_off (k := 7) (d := 156) (b := true) (c := false) rfl rfl rfl rfl) (by assumption) ?_
        (try simp only [Act.put, List.setIfInBounds_toArray, List.set_cons_zero, List.set_cons_succ])
        refine take_on (i := 20) (v := ?_) (some 169) rfl (by kernel_rfl) (by kernel_rfl) (by kernel_rfl) rfl (fun _ _ _ h => h) (by rfl) ?_ (by assumption) ?_
        rotate_left
        · intro w hSw; (try dsimp only at hSw); go_simp; (try with_reducible rfl)
        (try simp only [Act.put, List.setIfInBounds_toArray, List.set_cons_zero, List.set_cons_succ])
        refine take_on (i := 21) (v := ?_) (some 170) rfl (by kernel_rfl) (by kernel_rfl) (by kernel_rfl) rfl (fun _ _ _ h => h) (by rfl) ?_ (by assumption) ?_
        rotate_left
        · intro w hSw; (try dsimp only at hSw); go_simp; (try with_reducible rfl)
        (try simp only [Act.put, List.setIfInBounds_toArray, List.set_cons_zero, List.set_cons_succ])
        refine take_off (i := 22) (some 171) rfl (by kernel_rfl) (by kernel_rfl) (by kernel_rfl) rfl (fun _ _ _ h => h) (wanted_off (k := 21) (d := 170) (b := true) (c := false) rfl rfl rfl rfl) (by assumption) ?_
        (try simp only [Act.put, List.setIfInBounds_toArray, List.set_cons_zero, List.set_cons_succ])
        refine take_off (i := 23) (some 172) rfl (by kernel_rfl) (by kernel_rfl) (by kernel_rfl) rfl (fun _ _ _ h => h) (wanted_off (k := 21) (d := 170) (b := true) (c := false) rfl rfl rfl rfl) (by assumption) ?_
        (try simp only [Act.put, List.setIfInBounds_toArray, List.set_cons_zero, List.set_cons_succ])
        refine take_off (i := 24) (some 173) rfl (by kernel_rfl) (by kernel_rfl) (by kernel_rfl) rfl (fun _ _ _ h => h) (wanted_off (k := 21) (d := 170) (b := true) (c := false) rfl rfl rfl rfl) (by assumption) ?_
        (try simp only [Act.put, List.setIfInBounds_toArray, List.set_cons_zero, List.set_cons_succ])
        refine take_off (i := 25) (some 174) rfl (by kernel_rfl) (by kernel_rfl) (by kernel_rfl) rfl (fun _ _ _ h => h) (wanted_off (k := 21) (d := 170) (b := true) (c := false) rfl rfl rfl rfl) (by assumption) ?_
        (try simp only [Act.put, List.setIfInBounds_toArray, List.set_cons_zero, List.set_cons_succ])
        refine take_off (i := 26) (some 175) rfl (by kernel_rfl) (by kernel_rfl) (by kernel_rfl) rfl (fun _ _ _ h => h) (wanted_off (k := 21) (d := 170) (b := true) (c := false) rfl rfl rfl rfl) (by assumption) ?_
        (try simp only [Act.put, List.setIfInBounds_toArray, List.set_cons_zero, List.set_cons_succ])
        refine take_off (i := 27) (some 176) rfl (by kernel_rfl) (by kernel_rfl) (by kernel_rfl) rfl (fun _ _ _ h => h) (wanted_off (k := 21) (d := 170) (b := true) (c := false) rfl rfl rfl rfl) (by assumption) ?_
        (try simp only [Act.put, List.setIfInBounds_toArray, List.set_cons_zero, List.set_cons_succ])
        refine take_off (i := 28) (some 177) rfl (by kernel_rfl) (by kernel_rfl) (by kernel_rfl) rfl (fun _ _ _ h => h) (wanted_off (k := 21) (d := 170) (b := true) (c := false) rfl rfl rfl rfl) (by assumption) ?_
        (try simp only [Act.put, List.setIfInBounds_toArray, List.set_cons_zero, List.set_cons_succ])
        refine take_off (i := 29) (some 178) rfl (by kernel_rfl) (by kernel_rfl) (by kernel_rfl) rfl (fun _ _ _ h => h) (wanted_off (k := 21) (d := 170) (b := true) (c := false) rfl rfl rfl rfl) (by assumption) ?_
        (try simp only [Act.put, List.setIfInBounds_toArray, List.set_cons_zero, List.set_cons_succ])
        refine take_on (i := 30) (v := ?_) (some 179) rfl (by kernel_rfl) (by kernel_rfl) (by kernel_rfl) rfl (fun _ _ _ h => h) (by rfl) ?_ (by assumption) ?_
        rotate_left
        · intro w hSw; (try dsimp only at hSw); go_simp; (try with_reducible rfl)
        (try simp only [Act.put, List.setIfInBounds_toArray, List.set_cons_zero, List.set_cons_succ])
        refine take_on (i := 31) (v := ?_) (some 2) rfl (by kernel_rfl) (by kernel_rfl) (by kernel_rfl) rfl (fun _ _ _ h => h) (by rfl) ?_ (by assumption) ?_
        rotate_left
        · intro w hSw; (try dsimp only at hSw); go_simp; (try with_reducible rfl)
        (try simp only [Act.put, List.setIfInBounds_toArray, List.set_cons_zero, List.set_cons_succ])
        refine wpAnyH_done (by kernel_rfl) ?_ _
        have HF := Lib.hid HF0.out
        go_wp2_with (fail)
        go_ret
        exact ⟨by rw [HTL.out, HF.out]; first | rfl | (simp; done) | (rw [HWT.out]; exact Bool.beq_eq_decide_eq _ _) | (simp [HWT.out]; exact Bool.beq_eq_decide_eq _ _), hbel.trans (bs_1.mono hqr)⟩
end Go.Proofs.YtiidocjpeepheaaGreatDoor
