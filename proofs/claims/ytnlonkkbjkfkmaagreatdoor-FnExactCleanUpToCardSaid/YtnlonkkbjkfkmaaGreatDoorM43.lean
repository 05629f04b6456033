/-
  Texts of this proof: BodyI.
-/
import Derived.Test.YtnlonkkbjkfkmaaGreatDoorM23
import Derived.Test.YtnlonkkbjkfkmaaGreatDoorM42
namespace Go.Proofs.YtnlonkkbjkfkmaaGreatDoor
open Go.RowKit
set_option linter.all false
def rngB (n : Int) (b : Bd) : Bool := inR b.owner 0 (n - 1) && kindB b
theorem rng_o {n : Int} {b : Bd} (h : ¬ (0 ≤ b.owner ∧ b.owner < n)) : rngB n b = false := by
 have : inR b.owner 0 (n - 1) = false := by rw [Bool.eq_false_iff, Ne, inR_iff]; omega
 unfold rngB; rw [this]; rfl
theorem rng_k {n : Int} {b : Bd} (h : 0 ≤ b.owner ∧ b.owner < n) : rngB n b = kindB b := by
 have : inR b.owner 0 (n - 1) = true := by rw [inR_iff]; omega
 unfold rngB; rw [this]; rfl
theorem life_in {b : Bd} (h : ¬ b.life = 0) : inR b.life 0 3 = inR b.life 1 3 := by
 rw [Bool.eq_iff_iff, inR_iff, inR_iff]; omega
theorem fit_eq {L : Rowz} {n : Int} {b : Bd} (h : inR b.kind 0 2 = true) : fitB L n b = (rngB n b && (spdB b && !blockB L b.x b.y (sizeI b.kind))) := by
 unfold fitB rngB spdB; rw [h]
 cases inR b.owner 0 (n - 1) <;> cases blockB L b.x b.y (sizeI b.kind) <;> cases inR b.vx (-15) 15 <;> cases inR b.vy (-15) 15 <;> cases kindB b <;> rfl
set_option maxRecDepth 100000 in
set_option maxHeartbeats 2000000 in
theorem rng0 (b : Bd) (hk : b.kind = 0) (n : Int) (w : World) :
  Calls Tryz.prog 305 #[.agg #[.int .i64 b.kind, .int .i64 b.owner, .int .i64 b.x, .int .i64 b.y, .int .i64 b.vx, .int .i64 b.vy, .int .i64 b.aim, .int .i64 b.life, .int .i64 b.timer], .int .i64 n] w fun e w' => e = .returned (.bool (rngB n b)) ∧ Below w.heap.size w w' := by
 by_cases ho : 0 ≤ b.owner ∧ b.owner < n
 ·have z1 : decide (b.owner < 0) = false := by simp; omega
  have z2 : decide (n ≤ b.owner) = false := by simp; omega
  have HK := Lib.hid ((rng_k ho).trans (kind_0 hk))
  clear ho
  by_cases ha : b.aim = 1 ∨ b.aim = -1
  ·have haim : aimB b = true := by unfold aimB; rcases ha with h | h <;> rw [h] <;> rfl
   by_cases hl : b.life = 0
   ·have HF := Lib.hid (show rngB n b = inR b.timer 1 20 by rw [HK.out, haim, if_pos hl, hl]; rfl)
    clear HK haim
    rcases ha with ha | ha
    all_goals
     go_enter Tryz.func305, Tryz.ntmps305
     go_wp2_with (fail)
     refine (within_impl _ _ _ _).mono ?_
     rintro e w1 ⟨rfl, rfl⟩
     go_wp2_with (fail)
     go_ret
     exact ⟨by rw [HF.out]; rfl, below1 _ _⟩
   ·have z3 : (b.life == 0) = false := by simp [hl]
    have HF0 := Lib.hid (show rngB n b = (inR b.life 1 3 && inR b.timer 0 12) by rw [HK.out, haim, if_neg hl, life_in hl]; rfl)
    clear HK haim hl
    cases ql : inR b.life 1 3 with
    | false =>
     have QL := Lib.hid ql
     have HF := Lib.hid (HF0.out.trans (by rw [ql]))
     clear ql HF0
     rcases ha with ha | ha
     all_goals
      go_enter Tryz.func305, Tryz.ntmps305
      go_wp2_with (fail)
      refine (within_impl _ _ _ _).mono ?_
      rintro e w1 ⟨rfl, rfl⟩
      rw [QL.out]
      go_wp2_with (fail)
      go_ret
      exact ⟨by rw [HF.out]; rfl, below1 _ _⟩
    | true =>
     have QL := Lib.hid ql
     have HF := Lib.hid (HF0.out.trans (by rw [ql]))
     clear ql HF0
     rcases ha with ha | ha
     all_goals
      go_enter Tryz.func305, Tryz.ntmps305
      go_wp2_with (fail)
      refine (within_impl _ _ _ _).mono ?_
      rintro e w1 ⟨rfl, rfl⟩
      rw [QL.out]
      go_wp2_with (fail)
      refine (within_impl _ _ _ _).mono ?_
      rintro e w1 ⟨rfl, rfl⟩
      go_wp2_with (fail)
      go_ret
      exact ⟨by rw [HF.out]; rfl, below1 _ _⟩
  ·have h1 : ¬ b.aim = 1 := fun h => ha (.inl h)
   have h2 : ¬ b.aim = -1 := fun h => ha (.inr h)
   have haim : aimB b = false := by unfold aimB; simp [h1, h2]
   have z3 : (b.aim != 1) = true := by simp [h1]
   have z4 : (b.aim != -1) = true := by simp [h2]
   have HF := Lib.hid (show rngB n b = false by rw [HK.out, haim]; rfl)
   clear HK haim ha h1 h2
   go_enter Tryz.func305, Tryz.ntmps305
   go_wp2_with (fail)
   go_ret
   exact ⟨by rw [HF.out]; rfl, below1 _ _⟩
 ·have HF := Lib.hid (rng_o ho)
  by_cases h0 : b.owner < 0
  ·have z1 : decide (b.owner < 0) = true := by simpa using h0
   clear ho h0
   go_enter Tryz.func305, Tryz.ntmps305
   go_wp2_with (fail)
   go_ret
   exact ⟨by rw [HF.out]; rfl, below1 _ _⟩
  ·have z1 : decide (b.owner < 0) = false := by simpa using h0
   have z2 : decide (n ≤ b.owner) = true := by simp; omega
   clear ho h0
   go_enter Tryz.func305, Tryz.ntmps305
   go_wp2_with (fail)
   go_ret
   exact ⟨by rw [HF.out]; rfl, below1 _ _⟩
set_option maxRecDepth 100000 in
set_option maxHeartbeats 2000000 in
theorem rng1 (b : Bd) (hk : b.kind = 1) (n : Int) (w : World) :
  Calls Tryz.prog 306 #[.agg #[.int .i64 b.kind, .int .i64 b.owner, .int .i64 b.x, .int .i64 b.y, .int .i64 b.vx, .int .i64 b.vy, .int .i64 b.aim, .int .i64 b.life, .int .i64 b.timer], .int .i64 n] w fun e w' => e = .returned (.bool (rngB n b)) ∧ Below w.heap.size w w' := by
 by_cases ho : 0 ≤ b.owner ∧ b.owner < n
 ·have z1 : decide (0 ≤ b.owner) = true := by simp; omega
  have z2 : decide (b.owner < n) = true := by simp; omega
  have HK := Lib.hid ((rng_k ho).trans (kind_1 hk))
  clear ho
  by_cases h1 : b.aim = 0
  ·by_cases h2 : b.life = 0
   ·have HF := Lib.hid (show rngB n b = inR b.timer 1 25 by rw [HK.out, h1, h2]; rfl)
    clear HK
    go_enter Tryz.func306, Tryz.ntmps306
    go_wp2_with (fail)
    refine (within_impl _ _ _ _).mono ?_
    rintro e w1 ⟨rfl, rfl⟩
    go_wp2_with (fail)
    go_ret
    exact ⟨by rw [HF.out]; rfl, below1 _ _⟩
   ·have HF := Lib.hid (show rngB n b = false by rw [HK.out]; simp [h2])
    have z3 : (b.life == 0) = false := by simp [h2]
    clear HK h2
    go_enter Tryz.func306, Tryz.ntmps306
    go_wp2_with (fail)
    go_ret
    exact ⟨by rw [HF.out]; rfl, below1 _ _⟩
  ·have HF := Lib.hid (show rngB n b = false by rw [HK.out]; simp [h1])
   have z3 : (b.aim == 0) = false := by simp [h1]
   clear HK h1
   go_enter Tryz.func306, Tryz.ntmps306
   go_wp2_with (fail)
   go_ret
   exact ⟨by rw [HF.out]; rfl, below1 _ _⟩
 ·have HF := Lib.hid (rng_o ho)
  by_cases h0 : 0 ≤ b.owner
  ·have z1 : decide (0 ≤ b.owner) = true := by simpa using h0
   have z2 : decide (b.owner < n) = false := by simp; omega
   clear ho h0
   go_enter Tryz.func306, Tryz.ntmps306
   go_wp2_with (fail)
   go_ret
   exact ⟨by rw [HF.out]; rfl, below1 _ _⟩
  ·have z1 : decide (0 ≤ b.owner) = false := by simpa using h0
   clear ho h0
   go_enter Tryz.func306, Tryz.ntmps306
   go_wp2_with (fail)
   go_ret
   exact ⟨by rw [HF.out]; rfl, below1 _ _⟩
set_option maxRecDepth 100000 in
set_option maxHeartbeats 2000000 in
theorem rng2 (b : Bd) (hk : b.kind = 2) (n : Int) (w : World) :
  Calls Tryz.prog 307 #[.agg #[.int .i64 b.kind, .int .i64 b.owner, .int .i64 b.x, .int .i64 b.y, .int .i64 b.vx, .int .i64 b.vy, .int .i64 b.aim, .int .i64 b.life, .int .i64 b.timer], .int .i64 n] w fun e w' => e = .returned (.bool (rngB n b)) ∧ Below w.heap.size w w' := by
 by_cases h0 : b.owner = 0
 ·by_cases hn : 0 < n
  ·have z2 : decide (0 < n) = true := by simpa using hn
   have HK := Lib.hid ((rng_k (n := n) (b := b) ⟨by omega, by omega⟩).trans (kind_2 hk))
   by_cases h1 : b.aim = 0
   ·by_cases h2 : b.life = 0
    ·by_cases h3 : b.timer = 0
     ·have HF := Lib.hid (show rngB n b = true by rw [HK.out, h0, h1, h2, h3]; rfl)
      clear HK hn
      go_enter Tryz.func307, Tryz.ntmps307
      go_wp2_with (fail)
      go_ret
      exact ⟨by rw [HF.out]; rfl, below1 _ _⟩
     ·have HF := Lib.hid (show rngB n b = false by rw [HK.out]; simp [h3])
      have z3 : (b.timer == 0) = false := by simp [h3]
      clear HK h3 hn
      go_enter Tryz.func307, Tryz.ntmps307
      go_wp2_with (fail)
      go_ret
      exact ⟨by rw [HF.out]; rfl, below1 _ _⟩
    ·have HF := Lib.hid (show rngB n b = false by rw [HK.out]; simp [h2])
     have z3 : (b.life == 0) = false := by simp [h2]
     clear HK h2 hn
     go_enter Tryz.func307, Tryz.ntmps307
     go_wp2_with (fail)
     go_ret
     exact ⟨by rw [HF.out]; rfl, below1 _ _⟩
   ·have HF := Lib.hid (show rngB n b = false by rw [HK.out]; simp [h1])
    have z3 : (b.aim == 0) = false := by simp [h1]
    clear HK h1 hn
    go_enter Tryz.func307, Tryz.ntmps307
    go_wp2_with (fail)
    go_ret
    exact ⟨by rw [HF.out]; rfl, below1 _ _⟩
  ·have HF := Lib.hid (rng_o (n := n) (b := b) (by omega))
   have z2 : decide (0 < n) = false := by simpa using hn
   clear hn
   go_enter Tryz.func307, Tryz.ntmps307
   go_wp2_with (fail)
   go_ret
   exact ⟨by rw [HF.out]; rfl, below1 _ _⟩
 ·have HF := Lib.hid (show rngB n b = false by unfold rngB; rw [kind_2 hk]; simp [h0])
  have z1 : (b.owner == 0) = false := by simp [h0]
  clear h0
  go_enter Tryz.func307, Tryz.ntmps307
  go_wp2_with (fail)
  go_ret
  exact ⟨by rw [HF.out]; rfl, below1 _ _⟩
set_option maxRecDepth 100000 in
theorem figureOf_0 (b : Bd) (hk : b.kind = 0) (w : World) :
  Calls Tryz.prog 211 #[.agg #[.int .i64 b.kind, .int .i64 b.owner, .int .i64 b.x, .int .i64 b.y, .int .i64 b.vx, .int .i64 b.vy, .int .i64 b.aim, .int .i64 b.life, .int .i64 b.timer]] w fun e w' => e = .returned (.tuple #[.iface 239 (.agg #[.int .i64 b.kind, .int .i64 b.owner, .int .i64 b.x, .int .i64 b.y, .int .i64 b.vx, .int .i64 b.vy, .int .i64 b.aim, .int .i64 b.life, .int .i64 b.timer]), .bool true]) ∧ Below w.heap.size w w' := by
 go_enter Tryz.func211, Tryz.ntmps211
 go_wp2_with (fail)
 go_ret2
 exact ⟨by rw [hk]; rfl, below1 _ _⟩
set_option maxRecDepth 100000 in
theorem figureOf_1 (b : Bd) (hk : b.kind = 1) (w : World) :
  Calls Tryz.prog 211 #[.agg #[.int .i64 b.kind, .int .i64 b.owner, .int .i64 b.x, .int .i64 b.y, .int .i64 b.vx, .int .i64 b.vy, .int .i64 b.aim, .int .i64 b.life, .int .i64 b.timer]] w fun e w' => e = .returned (.tuple #[.iface 240 (.agg #[.int .i64 b.kind, .int .i64 b.owner, .int .i64 b.x, .int .i64 b.y, .int .i64 b.vx, .int .i64 b.vy, .int .i64 b.aim, .int .i64 b.life, .int .i64 b.timer]), .bool true]) ∧ Below w.heap.size w w' := by
 go_enter Tryz.func211, Tryz.ntmps211
 go_wp2_with (fail)
 go_ret2
 exact ⟨by rw [hk]; rfl, below1 _ _⟩
set_option maxRecDepth 100000 in
theorem figureOf_2 (b : Bd) (hk : b.kind = 2) (w : World) :
  Calls Tryz.prog 211 #[.agg #[.int .i64 b.kind, .int .i64 b.owner, .int .i64 b.x, .int .i64 b.y, .int .i64 b.vx, .int .i64 b.vy, .int .i64 b.aim, .int .i64 b.life, .int .i64 b.timer]] w fun e w' => e = .returned (.tuple #[.iface 242 (.agg #[.int .i64 b.kind, .int .i64 b.owner, .int .i64 b.x, .int .i64 b.y, .int .i64 b.vx, .int .i64 b.vy, .int .i64 b.aim, .int .i64 b.life, .int .i64 b.timer]), .bool true]) ∧ Below w.heap.size w w' := by
 go_enter Tryz.func211, Tryz.ntmps211
 go_wp2_with (fail)
 go_ret2
 exact ⟨by rw [hk]; rfl, below1 _ _⟩
set_option maxRecDepth 100000 in
theorem figureOf_no (b : Bd) (h0 : ¬ b.kind = 0) (h1 : ¬ b.kind = 1) (h2 : ¬ b.kind = 2) (w : World) :
  Calls Tryz.prog 211 #[.agg #[.int .i64 b.kind, .int .i64 b.owner, .int .i64 b.x, .int .i64 b.y, .int .i64 b.vx, .int .i64 b.vy, .int .i64 b.aim, .int .i64 b.life, .int .i64 b.timer]] w fun e w' => e = .returned (.tuple #[.nilIface, .bool false]) ∧ Below w.heap.size w w' := by
 have z0 : (b.kind == 0) = false := by simp [h0]
 have z1 : (b.kind == 1) = false := by simp [h1]
 have z2 : (b.kind == 2) = false := by simp [h2]
 clear h0 h1 h2
 go_enter Tryz.func211, Tryz.ntmps211
 go_wp2_with (fail)
 go_ret2
 exact ⟨rfl, below1 _ _⟩
theorem fits_r {L : Rowz} {n : Int} {b : Bd} (h : inR b.kind 0 2 = true) (hr : rngB n b = false) : fitB L n b = false := by rw [fit_eq h, hr]; rfl
theorem fits_v {L : Rowz} {n : Int} {b : Bd} (h : inR b.kind 0 2 = true) (hr : spdB b = false) : fitB L n b = false := by rw [fit_eq h, hr]; simp
theorem fits_b {L : Rowz} {n : Int} {b : Bd} (h : inR b.kind 0 2 = true) (h1 : rngB n b = true) (h2 : spdB b = true) : fitB L n b = !blockB L b.x b.y (sizeI b.kind) := by rw [fit_eq h, h1, h2]; rfl
set_option maxRecDepth 100000 in
set_option maxHeartbeats 8000000 in
theorem bodyFits_0 {w : World} {v : Value} {L : Rowz} (h : RdS w v L) (hg : Good L) (b : Bd) (hk : b.kind = 0) (hx : I64 b.x) (hy : I64 b.y) (n : Int) :
  Calls Tryz.prog 146 #[.agg #[v], .int .i64 n, .agg #[.int .i64 b.kind, .int .i64 b.owner, .int .i64 b.x, .int .i64 b.y, .int .i64 b.vx, .int .i64 b.vy, .int .i64 b.aim, .int .i64 b.life, .int .i64 b.timer]] w fun e w' => e = .returned (.bool (fitB L n b)) ∧ Below w.heap.size w w' := by
 obtain ⟨a, cap, rfl, -⟩ := id h
 obtain ⟨W0, hW, hA, hB, hB0, hS0⟩ := rows2 w #[.slice a L.length cap] #[.int .i64 b.kind, .int .i64 b.owner, .int .i64 b.x, .int .i64 b.y, .int .i64 b.vx, .int .i64 b.vy, .int .i64 b.aim, .int .i64 b.life, .int .i64 b.timer] 26 100
 have cB := rowCells hB
 have HIN := Lib.hid (show inR b.kind 0 2 = true by rw [hk]; rfl)
 have HSZ := Lib.hid (show sizeI b.kind = 12 by rw [hk]; rfl)
 have HKK := Lib.hid hk
 clear hk
 go_enter Tryz.func146, Tryz.ntmps146
 go_wp2_with (fail)
 try rw [hW]
 clear hW
 have hk := HKK.out
 refine (figureOf_0 b hk _).mono ?_
 clear hk
 rintro e w1 ⟨rfl, hb1⟩
 have hk := HKK
 have hA1 := keepHeap hb1 hA
 have hB1 := keepHeap hb1 hB
 have hb01 := hB0.trans (hb1.mono hB0.size)
 have h0 := h.keep hb01
 clear cB hk
 go_wp2_with (fail)
 have bs_0 : Below w1.heap.size w1 w1.drew := belowDrew w1 1
 refine wp_region_held_drew (S := (fun w' => (∀ j, w'.cell? ⟨w.heap.size, j, none⟩ = #[Value.slice a L.length cap][j]?) ∧ (∀ j, w'.cell? ⟨w.heap.size + 1, j, none⟩ = #[.int .i64 b.kind, .int .i64 b.owner, .int .i64 b.x, .int .i64 b.y, .int .i64 b.vx, .int .i64 b.vy, .int .i64 b.aim, .int .i64 b.life, .int .i64 b.timer][j]?))) (by kernel_rfl) ?_ (fun hHeld => ?_)
 ·exact ⟨rowCells (keepHeap bs_0 hA1), rowCells (keepHeap bs_0 hB1)⟩
 refine tk 0 14 ?_
 (try simp only [zP, zA, zB, zC])
 refine tk 1 15 ?_
 (try simp only [zP, zA, zB, zC])
 refine tw 2 16 1 15 true ?_
 (try simp only [zP, zA, zB, zC])
 refine tw 3 17 1 15 true ?_
 (try simp only [zP, zA, zB, zC])
 refine wpAnyH_ready (rs := [4]) (by kernel_rfl) (by simp) ?_
 refine AllReadyH.cons rfl (fun K hK => ?_) AllReadyH.nil
 go_simp
 refine (rng0 b HKK.out n _).mono ?_
 rintro e w_1 ⟨rfl, hb_1⟩
 have bs_1 := bs_0.trans (hb_1.mono bs_0.size)
 cases q1 : rngB n b with
 | false =>
  have Q1 := Lib.hid q1
  clear q1
  (try go_wp2_with (fail))
  refine hK.out _ _ ?_ (fun hHeld => ?_)
  ·exact ⟨rowCells (keepHeap bs_1 hA1), rowCells (keepHeap bs_1 hB1)⟩
  clear hK K
  (try simp only [zP, zA, zB, zC])
  refine tk 5 19 ?_
  (try simp only [zP, zA, zB, zC])
  refine tk 6 20 ?_
  (try simp only [zP, zA, zB, zC])
  refine tof 7 21 6 20 true false ?_
  (try simp only [zP, zA, zB, zC])
  refine tof 8 22 6 20 true false ?_
  (try simp only [zP, zA, zB, zC])
  refine tk 9 23 ?_
  (try simp only [zP, zA, zB, zC])
  refine tk 10 24 ?_
  (try simp only [zP, zA, zB, zC])
  refine tof 11 25 10 24 true false ?_
  (try simp only [zP, zA, zB, zC])
  refine tof 12 26 10 24 true false ?_
  (try simp only [zP, zA, zB, zC])
  refine tof 13 27 10 24 true false ?_
  (try simp only [zP, zA, zB, zC])
  refine tof 14 28 10 24 true false ?_
  (try simp only [zP, zA, zB, zC])
  refine tof 15 29 10 24 true false ?_
  (try simp only [zP, zA, zB, zC])
  refine tof 16 30 10 24 true false ?_
  (try simp only [zP, zA, zB, zC])
  refine tof 17 31 10 24 true false ?_
  (try simp only [zP, zA, zB, zC])
  refine tof 18 32 10 24 true false ?_
  (try simp only [zP, zA, zB, zC])
  refine tof 19 33 10 24 true false ?_
  (try simp only [zP, zA, zB, zC])
  refine tk 20 34 ?_
  (try simp only [zP, zA, zB, zC])
  refine tk 21 6 ?_
  (try simp only [zP, zA, zB, zC])
  refine wpAnyH_done (by kernel_rfl) ?_ _
  have HF := Lib.hid (fits_r (L := L) HIN.out Q1.out)
  go_wp2_with (fail)
  go_ret
  exact ⟨by rw [HF.out]; rfl, (hb01.trans (bs_1.mono hb01.size))⟩
 | true =>
  have Q1 := Lib.hid q1
  clear q1
  (try go_wp2_with (fail))
  refine hK.out _ _ ?_ (fun hHeld => ?_)
  ·exact ⟨rowCells (keepHeap bs_1 hA1), rowCells (keepHeap bs_1 hB1)⟩
  clear hK K
  (try simp only [zP, zA, zB, zC])
  refine tk 5 19 ?_
  (try simp only [zP, zA, zB, zC])
  refine tk 6 20 ?_
  (try simp only [zP, zA, zB, zC])
  refine tw 7 21 6 20 true ?_
  (try simp only [zP, zA, zB, zC])
  refine wpAnyH_ready (rs := [8]) (by kernel_rfl) (by simp) ?_
  refine AllReadyH.cons rfl (fun K hK => ?_) AllReadyH.nil
  go_simp
  refine (speedsOk_impl b _).mono ?_
  rintro e w_2 ⟨rfl, hb_2⟩
  have bs_2 := bs_1.trans (hb_2.mono bs_1.size)
  cases q2 : spdB b with
  | false =>
   have Q2 := Lib.hid q2
   clear q2
   (try go_wp2_with (fail))
   refine hK.out _ _ ?_ (fun hHeld => ?_)
   ·exact ⟨rowCells (keepHeap bs_2 hA1), rowCells (keepHeap bs_2 hB1)⟩
   clear hK K
   (try simp only [zP, zA, zB, zC])
   refine tk 9 23 ?_
   (try simp only [zP, zA, zB, zC])
   refine tk 10 24 ?_
   (try simp only [zP, zA, zB, zC])
   refine tof 11 25 10 24 true false ?_
   (try simp only [zP, zA, zB, zC])
   refine tof 12 26 10 24 true false ?_
   (try simp only [zP, zA, zB, zC])
   refine tof 13 27 10 24 true false ?_
   (try simp only [zP, zA, zB, zC])
   refine tof 14 28 10 24 true false ?_
   (try simp only [zP, zA, zB, zC])
   refine tof 15 29 10 24 true false ?_
   (try simp only [zP, zA, zB, zC])
   refine tof 16 30 10 24 true false ?_
   (try simp only [zP, zA, zB, zC])
   refine tof 17 31 10 24 true false ?_
   (try simp only [zP, zA, zB, zC])
   refine tof 18 32 10 24 true false ?_
   (try simp only [zP, zA, zB, zC])
   refine tof 19 33 10 24 true false ?_
   (try simp only [zP, zA, zB, zC])
   refine tk 20 34 ?_
   (try simp only [zP, zA, zB, zC])
   refine tk 21 6 ?_
   (try simp only [zP, zA, zB, zC])
   refine wpAnyH_done (by kernel_rfl) ?_ _
   have HF := Lib.hid (fits_v (L := L) (n := n) HIN.out Q2.out)
   go_wp2_with (fail)
   go_ret
   exact ⟨by rw [HF.out]; rfl, (hb01.trans (bs_2.mono hb01.size))⟩
  | true =>
   have Q2 := Lib.hid q2
   clear q2
   (try go_wp2_with (fail))
   refine hK.out _ _ ?_ (fun hHeld => ?_)
   ·exact ⟨rowCells (keepHeap bs_2 hA1), rowCells (keepHeap bs_2 hB1)⟩
   clear hK K
   (try simp only [zP, zA, zB, zC])
   refine tk 9 23 ?_
   (try simp only [zP, zA, zB, zC])
   refine tk 10 24 ?_
   (try simp only [zP, zA, zB, zC])
   refine tw 11 25 10 24 true ?_
   (try simp only [zP, zA, zB, zC])
   refine tw 12 26 10 24 true ?_
   (try simp only [zP, zA, zB, zC])
   refine tw 13 27 10 24 true ?_
   (try simp only [zP, zA, zB, zC])
   refine tw 14 28 10 24 true ?_
   (try simp only [zP, zA, zB, zC])
   refine tw 15 29 10 24 true ?_
   (try simp only [zP, zA, zB, zC])
   refine tw 16 30 10 24 true ?_
   (try simp only [zP, zA, zB, zC])
   refine wpAnyH_ready (rs := [17]) (by kernel_rfl) (by simp) ?_
   refine AllReadyH.cons rfl (fun K hK => ?_) AllReadyH.nil
   go_simp
   refine (playerSize _ _).mono ?_
   rintro e w_3 ⟨rfl, hb_3⟩
   have bs_3 := bs_2.trans (hb_3.mono bs_2.size)
   (try go_wp2_with (fail))
   refine hK.out _ _ ?_ (fun hHeld => ?_)
   ·exact ⟨rowCells (keepHeap bs_3 hA1), rowCells (keepHeap bs_3 hB1)⟩
   clear hK K
   (try simp only [zP, zA, zB, zC])
   refine wpAnyH_ready (rs := [18]) (by kernel_rfl) (by simp) ?_
   refine AllReadyH.cons rfl (fun K hK => ?_) AllReadyH.nil
   go_simp
   refine (blocked_impl (h0.keep bs_3) hg b.x b.y 12 (by omega) (by omega) hx.2 hy.2 hx.1 hy.1).mono ?_
   rintro e w_4 ⟨rfl, hb_4⟩
   have bs_4 := bs_3.trans (hb_4.mono bs_3.size)
   (try go_wp2_with (fail))
   refine hK.out _ _ ?_ (fun hHeld => ?_)
   ·exact ⟨rowCells (keepHeap bs_4 hA1), rowCells (keepHeap bs_4 hB1)⟩
   clear hK K
   (try simp only [zP, zA, zB, zC])
   refine tw 19 33 10 24 true ?_
   (try simp only [zP, zA, zB, zC])
   refine tk 20 34 ?_
   (try simp only [zP, zA, zB, zC])
   refine tk 21 6 ?_
   (try simp only [zP, zA, zB, zC])
   refine wpAnyH_done (by kernel_rfl) ?_ _
   have HF := Lib.hid ((fits_b (L := L) HIN.out Q1.out Q2.out).trans (by rw [HSZ.out]))
   go_wp2_with (fail)
   go_ret
   exact ⟨by rw [HF.out]; rfl, (hb01.trans (bs_4.mono hb01.size))⟩
set_option maxRecDepth 100000 in
set_option maxHeartbeats 8000000 in
theorem bodyFits_1 {w : World} {v : Value} {L : Rowz} (h : RdS w v L) (hg : Good L) (b : Bd) (hk : b.kind = 1) (hx : I64 b.x) (hy : I64 b.y) (n : Int) :
  Calls Tryz.prog 146 #[.agg #[v], .int .i64 n, .agg #[.int .i64 b.kind, .int .i64 b.owner, .int .i64 b.x, .int .i64 b.y, .int .i64 b.vx, .int .i64 b.vy, .int .i64 b.aim, .int .i64 b.life, .int .i64 b.timer]] w fun e w' => e = .returned (.bool (fitB L n b)) ∧ Below w.heap.size w w' := by
 obtain ⟨a, cap, rfl, -⟩ := id h
 obtain ⟨W0, hW, hA, hB, hB0, hS0⟩ := rows2 w #[.slice a L.length cap] #[.int .i64 b.kind, .int .i64 b.owner, .int .i64 b.x, .int .i64 b.y, .int .i64 b.vx, .int .i64 b.vy, .int .i64 b.aim, .int .i64 b.life, .int .i64 b.timer] 26 100
 have cB := rowCells hB
 have HIN := Lib.hid (show inR b.kind 0 2 = true by rw [hk]; rfl)
 have HSZ := Lib.hid (show sizeI b.kind = 4 by rw [hk]; rfl)
 have HKK := Lib.hid hk
 clear hk
 go_enter Tryz.func146, Tryz.ntmps146
 go_wp2_with (fail)
 try rw [hW]
 clear hW
 have hk := HKK.out
 refine (figureOf_1 b hk _).mono ?_
 clear hk
 rintro e w1 ⟨rfl, hb1⟩
 have hk := HKK
 have hA1 := keepHeap hb1 hA
 have hB1 := keepHeap hb1 hB
 have hb01 := hB0.trans (hb1.mono hB0.size)
 have h0 := h.keep hb01
 clear cB hk
 go_wp2_with (fail)
 have bs_0 : Below w1.heap.size w1 w1.drew := belowDrew w1 1
 refine wp_region_held_drew (S := (fun w' => (∀ j, w'.cell? ⟨w.heap.size, j, none⟩ = #[Value.slice a L.length cap][j]?) ∧ (∀ j, w'.cell? ⟨w.heap.size + 1, j, none⟩ = #[.int .i64 b.kind, .int .i64 b.owner, .int .i64 b.x, .int .i64 b.y, .int .i64 b.vx, .int .i64 b.vy, .int .i64 b.aim, .int .i64 b.life, .int .i64 b.timer][j]?))) (by kernel_rfl) ?_ (fun hHeld => ?_)
 ·exact ⟨rowCells (keepHeap bs_0 hA1), rowCells (keepHeap bs_0 hB1)⟩
 refine tk 0 14 ?_
 (try simp only [zP, zA, zB, zC])
 refine tk 1 15 ?_
 (try simp only [zP, zA, zB, zC])
 refine tw 2 16 1 15 true ?_
 (try simp only [zP, zA, zB, zC])
 refine tw 3 17 1 15 true ?_
 (try simp only [zP, zA, zB, zC])
 refine wpAnyH_ready (rs := [4]) (by kernel_rfl) (by simp) ?_
 refine AllReadyH.cons rfl (fun K hK => ?_) AllReadyH.nil
 go_simp
 refine (rng1 b HKK.out n _).mono ?_
 rintro e w_1 ⟨rfl, hb_1⟩
 have bs_1 := bs_0.trans (hb_1.mono bs_0.size)
 cases q1 : rngB n b with
 | false =>
  have Q1 := Lib.hid q1
  clear q1
  (try go_wp2_with (fail))
  refine hK.out _ _ ?_ (fun hHeld => ?_)
  ·exact ⟨rowCells (keepHeap bs_1 hA1), rowCells (keepHeap bs_1 hB1)⟩
  clear hK K
  (try simp only [zP, zA, zB, zC])
  refine tk 5 19 ?_
  (try simp only [zP, zA, zB, zC])
  refine tk 6 20 ?_
  (try simp only [zP, zA, zB, zC])
  refine tof 7 21 6 20 true false ?_
  (try simp only [zP, zA, zB, zC])
  refine tof 8 22 6 20 true false ?_
  (try simp only [zP, zA, zB, zC])
  refine tk 9 23 ?_
  (try simp only [zP, zA, zB, zC])
  refine tk 10 24 ?_
  (try simp only [zP, zA, zB, zC])
  refine tof 11 25 10 24 true false ?_
  (try simp only [zP, zA, zB, zC])
  refine tof 12 26 10 24 true false ?_
  (try simp only [zP, zA, zB, zC])
  refine tof 13 27 10 24 true false ?_
  (try simp only [zP, zA, zB, zC])
  refine tof 14 28 10 24 true false ?_
  (try simp only [zP, zA, zB, zC])
  refine tof 15 29 10 24 true false ?_
  (try simp only [zP, zA, zB, zC])
  refine tof 16 30 10 24 true false ?_
  (try simp only [zP, zA, zB, zC])
  refine tof 17 31 10 24 true false ?_
  (try simp only [zP, zA, zB, zC])
  refine tof 18 32 10 24 true false ?_
  (try simp only [zP, zA, zB, zC])
  refine tof 19 33 10 24 true false ?_
  (try simp only [zP, zA, zB, zC])
  refine tk 20 34 ?_
  (try simp only [zP, zA, zB, zC])
  refine tk 21 6 ?_
  (try simp only [zP, zA, zB, zC])
  refine wpAnyH_done (by kernel_rfl) ?_ _
  have HF := Lib.hid (fits_r (L := L) HIN.out Q1.out)
  go_wp2_with (fail)
  go_ret
  exact ⟨by rw [HF.out]; rfl, (hb01.trans (bs_1.mono hb01.size))⟩
 | true =>
  have Q1 := Lib.hid q1
  clear q1
  (try go_wp2_with (fail))
  refine hK.out _ _ ?_ (fun hHeld => ?_)
  ·exact ⟨rowCells (keepHeap bs_1 hA1), rowCells (keepHeap bs_1 hB1)⟩
  clear hK K
  (try simp only [zP, zA, zB, zC])
  refine tk 5 19 ?_
  (try simp only [zP, zA, zB, zC])
  refine tk 6 20 ?_
  (try simp only [zP, zA, zB, zC])
  refine tw 7 21 6 20 true ?_
  (try simp only [zP, zA, zB, zC])
  refine wpAnyH_ready (rs := [8]) (by kernel_rfl) (by simp) ?_
  refine AllReadyH.cons rfl (fun K hK => ?_) AllReadyH.nil
  go_simp
  refine (speedsOk_impl b _).mono ?_
  rintro e w_2 ⟨rfl, hb_2⟩
  have bs_2 := bs_1.trans (hb_2.mono bs_1.size)
  cases q2 : spdB b with
  | false =>
   have Q2 := Lib.hid q2
   clear q2
   (try go_wp2_with (fail))
   refine hK.out _ _ ?_ (fun hHeld => ?_)
   ·exact ⟨rowCells (keepHeap bs_2 hA1), rowCells (keepHeap bs_2 hB1)⟩
   clear hK K
   (try simp only [zP, zA, zB, zC])
   refine tk 9 23 ?_
   (try simp only [zP, zA, zB, zC])
   refine tk 10 24 ?_
   (try simp only [zP, zA, zB, zC])
   refine tof 11 25 10 24 true false ?_
   (try simp only [zP, zA, zB, zC])
   refine tof 12 26 10 24 true false ?_
   (try simp only [zP, zA, zB, zC])
   refine tof 13 27 10 24 true false ?_
   (try simp only [zP, zA, zB, zC])
   refine tof 14 28 10 24 true false ?_
   (try simp only [zP, zA, zB, zC])
   refine tof 15 29 10 24 true false ?_
   (try simp only [zP, zA, zB, zC])
   refine tof 16 30 10 24 true false ?_
   (try simp only [zP, zA, zB, zC])
   refine tof 17 31 10 24 true false ?_
   (try simp only [zP, zA, zB, zC])
   refine tof 18 32 10 24 true false ?_
   (try simp only [zP, zA, zB, zC])
   refine tof 19 33 10 24 true false ?_
   (try simp only [zP, zA, zB, zC])
   refine tk 20 34 ?_
   (try simp only [zP, zA, zB, zC])
   refine tk 21 6 ?_
   (try simp only [zP, zA, zB, zC])
   refine wpAnyH_done (by kernel_rfl) ?_ _
   have HF := Lib.hid (fits_v (L := L) (n := n) HIN.out Q2.out)
   go_wp2_with (fail)
   go_ret
   exact ⟨by rw [HF.out]; rfl, (hb01.trans (bs_2.mono hb01.size))⟩
  | true =>
   have Q2 := Lib.hid q2
   clear q2
   (try go_wp2_with (fail))
   refine hK.out _ _ ?_ (fun hHeld => ?_)
   ·exact ⟨rowCells (keepHeap bs_2 hA1), rowCells (keepHeap bs_2 hB1)⟩
   clear hK K
   (try simp only [zP, zA, zB, zC])
   refine tk 9 23 ?_
   (try simp only [zP, zA, zB, zC])
   refine tk 10 24 ?_
   (try simp only [zP, zA, zB, zC])
   refine tw 11 25 10 24 true ?_
   (try simp only [zP, zA, zB, zC])
   refine tw 12 26 10 24 true ?_
   (try simp only [zP, zA, zB, zC])
   refine tw 13 27 10 24 true ?_
   (try simp only [zP, zA, zB, zC])
   refine tw 14 28 10 24 true ?_
   (try simp only [zP, zA, zB, zC])
   refine tw 15 29 10 24 true ?_
   (try simp only [zP, zA, zB, zC])
   refine tw 16 30 10 24 true ?_
   (try simp only [zP, zA, zB, zC])
   refine wpAnyH_ready (rs := [17]) (by kernel_rfl) (by simp) ?_
   refine AllReadyH.cons rfl (fun K hK => ?_) AllReadyH.nil
   go_simp
   refine (shotSize _ _).mono ?_
   rintro e w_3 ⟨rfl, hb_3⟩
   have bs_3 := bs_2.trans (hb_3.mono bs_2.size)
   (try go_wp2_with (fail))
   refine hK.out _ _ ?_ (fun hHeld => ?_)
   ·exact ⟨rowCells (keepHeap bs_3 hA1), rowCells (keepHeap bs_3 hB1)⟩
   clear hK K
   (try simp only [zP, zA, zB, zC])
   refine wpAnyH_ready (rs := [18]) (by kernel_rfl) (by simp) ?_
   refine AllReadyH.cons rfl (fun K hK => ?_) AllReadyH.nil
   go_simp
   refine (blocked_impl (h0.keep bs_3) hg b.x b.y 4 (by omega) (by omega) hx.2 hy.2 hx.1 hy.1).mono ?_
   rintro e w_4 ⟨rfl, hb_4⟩
   have bs_4 := bs_3.trans (hb_4.mono bs_3.size)
   (try go_wp2_with (fail))
   refine hK.out _ _ ?_ (fun hHeld => ?_)
   ·exact ⟨rowCells (keepHeap bs_4 hA1), rowCells (keepHeap bs_4 hB1)⟩
   clear hK K
   (try simp only [zP, zA, zB, zC])
   refine tw 19 33 10 24 true ?_
   (try simp only [zP, zA, zB, zC])
   refine tk 20 34 ?_
   (try simp only [zP, zA, zB, zC])
   refine tk 21 6 ?_
   (try simp only [zP, zA, zB, zC])
   refine wpAnyH_done (by kernel_rfl) ?_ _
   have HF := Lib.hid ((fits_b (L := L) HIN.out Q1.out Q2.out).trans (by rw [HSZ.out]))
   go_wp2_with (fail)
   go_ret
   exact ⟨by rw [HF.out]; rfl, (hb01.trans (bs_4.mono hb01.size))⟩
set_option maxRecDepth 100000 in
set_option maxHeartbeats 8000000 in
theorem bodyFits_2 {w : World} {v : Value} {L : Rowz} (h : RdS w v L) (hg : Good L) (b : Bd) (hk : b.kind = 2) (hx : I64 b.x) (hy : I64 b.y) (n : Int) :
  Calls Tryz.prog 146 #[.agg #[v], .int .i64 n, .agg #[.int .i64 b.kind, .int .i64 b.owner, .int .i64 b.x, .int .i64 b.y, .int .i64 b.vx, .int .i64 b.vy, .int .i64 b.aim, .int .i64 b.life, .int .i64 b.timer]] w fun e w' => e = .returned (.bool (fitB L n b)) ∧ Below w.heap.size w w' := by
 obtain ⟨a, cap, rfl, -⟩ := id h
 obtain ⟨W0, hW, hA, hB, hB0, hS0⟩ := rows2 w #[.slice a L.length cap] #[.int .i64 b.kind, .int .i64 b.owner, .int .i64 b.x, .int .i64 b.y, .int .i64 b.vx, .int .i64 b.vy, .int .i64 b.aim, .int .i64 b.life, .int .i64 b.timer] 26 100
 have cB := rowCells hB
 have HIN := Lib.hid (show inR b.kind 0 2 = true by rw [hk]; rfl)
 have HSZ := Lib.hid (show sizeI b.kind = 8 by rw [hk]; rfl)
 have HKK := Lib.hid hk
 clear hk
 go_enter Tryz.func146, Tryz.ntmps146
 go_wp2_with (fail)
 try rw [hW]
 clear hW
 have hk := HKK.out
 refine (figureOf_2 b hk _).mono ?_
 clear hk
 rintro e w1 ⟨rfl, hb1⟩
 have hk := HKK
 have hA1 := keepHeap hb1 hA
 have hB1 := keepHeap hb1 hB
 have hb01 := hB0.trans (hb1.mono hB0.size)
 have h0 := h.keep hb01
 clear cB hk
 go_wp2_with (fail)
 have bs_0 : Below w1.heap.size w1 w1.drew := belowDrew w1 1
 refine wp_region_held_drew (S := (fun w' => (∀ j, w'.cell? ⟨w.heap.size, j, none⟩ = #[Value.slice a L.length cap][j]?) ∧ (∀ j, w'.cell? ⟨w.heap.size + 1, j, none⟩ = #[.int .i64 b.kind, .int .i64 b.owner, .int .i64 b.x, .int .i64 b.y, .int .i64 b.vx, .int .i64 b.vy, .int .i64 b.aim, .int .i64 b.life, .int .i64 b.timer][j]?))) (by kernel_rfl) ?_ (fun hHeld => ?_)
 ·exact ⟨rowCells (keepHeap bs_0 hA1), rowCells (keepHeap bs_0 hB1)⟩
 refine tk 0 14 ?_
 (try simp only [zP, zA, zB, zC])
 refine tk 1 15 ?_
 (try simp only [zP, zA, zB, zC])
 refine tw 2 16 1 15 true ?_
 (try simp only [zP, zA, zB, zC])
 refine tw 3 17 1 15 true ?_
 (try simp only [zP, zA, zB, zC])
 refine wpAnyH_ready (rs := [4]) (by kernel_rfl) (by simp) ?_
 refine AllReadyH.cons rfl (fun K hK => ?_) AllReadyH.nil
 go_simp
 refine (rng2 b HKK.out n _).mono ?_
 rintro e w_1 ⟨rfl, hb_1⟩
 have bs_1 := bs_0.trans (hb_1.mono bs_0.size)
 cases q1 : rngB n b with
 | false =>
  have Q1 := Lib.hid q1
  clear q1
  (try go_wp2_with (fail))
  refine hK.out _ _ ?_ (fun hHeld => ?_)
  ·exact ⟨rowCells (keepHeap bs_1 hA1), rowCells (keepHeap bs_1 hB1)⟩
  clear hK K
  (try simp only [zP, zA, zB, zC])
  refine tk 5 19 ?_
  (try simp only [zP, zA, zB, zC])
  refine tk 6 20 ?_
  (try simp only [zP, zA, zB, zC])
  refine tof 7 21 6 20 true false ?_
  (try simp only [zP, zA, zB, zC])
  refine tof 8 22 6 20 true false ?_
  (try simp only [zP, zA, zB, zC])
  refine tk 9 23 ?_
  (try simp only [zP, zA, zB, zC])
  refine tk 10 24 ?_
  (try simp only [zP, zA, zB, zC])
  refine tof 11 25 10 24 true false ?_
  (try simp only [zP, zA, zB, zC])
  refine tof 12 26 10 24 true false ?_
  (try simp only [zP, zA, zB, zC])
  refine tof 13 27 10 24 true false ?_
  (try simp only [zP, zA, zB, zC])
  refine tof 14 28 10 24 true false ?_
  (try simp only [zP, zA, zB, zC])
  refine tof 15 29 10 24 true false ?_
  (try simp only [zP, zA, zB, zC])
  refine tof 16 30 10 24 true false ?_
  (try simp only [zP, zA, zB, zC])
  refine tof 17 31 10 24 true false ?_
  (try simp only [zP, zA, zB, zC])
  refine tof 18 32 10 24 true false ?_
  (try simp only [zP, zA, zB, zC])
  refine tof 19 33 10 24 true false ?_
  (try simp only [zP, zA, zB, zC])
  refine tk 20 34 ?_
  (try simp only [zP, zA, zB, zC])
  refine tk 21 6 ?_
  (try simp only [zP, zA, zB, zC])
  refine wpAnyH_done (by kernel_rfl) ?_ _
  have HF := Lib.hid (fits_r (L := L) HIN.out Q1.out)
  go_wp2_with (fail)
  go_ret
  exact ⟨by rw [HF.out]; rfl, (hb01.trans (bs_1.mono hb01.size))⟩
 | true =>
  have Q1 := Lib.hid q1
  clear q1
  (try go_wp2_with (fail))
  refine hK.out _ _ ?_ (fun hHeld => ?_)
  ·exact ⟨rowCells (keepHeap bs_1 hA1), rowCells (keepHeap bs_1 hB1)⟩
  clear hK K
  (try simp only [zP, zA, zB, zC])
  refine tk 5 19 ?_
  (try simp only [zP, zA, zB, zC])
  refine tk 6 20 ?_
  (try simp only [zP, zA, zB, zC])
  refine tw 7 21 6 20 true ?_
  (try simp only [zP, zA, zB, zC])
  refine wpAnyH_ready (rs := [8]) (by kernel_rfl) (by simp) ?_
  refine AllReadyH.cons rfl (fun K hK => ?_) AllReadyH.nil
  go_simp
  refine (speedsOk_impl b _).mono ?_
  rintro e w_2 ⟨rfl, hb_2⟩
  have bs_2 := bs_1.trans (hb_2.mono bs_1.size)
  cases q2 : spdB b with
  | false =>
   have Q2 := Lib.hid q2
   clear q2
   (try go_wp2_with (fail))
   refine hK.out _ _ ?_ (fun hHeld => ?_)
   ·exact ⟨rowCells (keepHeap bs_2 hA1), rowCells (keepHeap bs_2 hB1)⟩
   clear hK K
   (try simp only [zP, zA, zB, zC])
   refine tk 9 23 ?_
   (try simp only [zP, zA, zB, zC])
   refine tk 10 24 ?_
   (try simp only [zP, zA, zB, zC])
   refine tof 11 25 10 24 true false ?_
   (try simp only [zP, zA, zB, zC])
   refine tof 12 26 10 24 true false ?_
   (try simp only [zP, zA, zB, zC])
   refine tof 13 27 10 24 true false ?_
   (try simp only [zP, zA, zB, zC])
   refine tof 14 28 10 24 true false ?_
   (try simp only [zP, zA, zB, zC])
   refine tof 15 29 10 24 true false ?_
   (try simp only [zP, zA, zB, zC])
   refine tof 16 30 10 24 true false ?_
   (try simp only [zP, zA, zB, zC])
   refine tof 17 31 10 24 true false ?_
   (try simp only [zP, zA, zB, zC])
   refine tof 18 32 10 24 true false ?_
   (try simp only [zP, zA, zB, zC])
   refine tof 19 33 10 24 true false ?_
   (try simp only [zP, zA, zB, zC])
   refine tk 20 34 ?_
   (try simp only [zP, zA, zB, zC])
   refine tk 21 6 ?_
   (try simp only [zP, zA, zB, zC])
   refine wpAnyH_done (by kernel_rfl) ?_ _
   have HF := Lib.hid (fits_v (L := L) (n := n) HIN.out Q2.out)
   go_wp2_with (fail)
   go_ret
   exact ⟨by rw [HF.out]; rfl, (hb01.trans (bs_2.mono hb01.size))⟩
  | true =>
   have Q2 := Lib.hid q2
   clear q2
   (try go_wp2_with (fail))
   refine hK.out _ _ ?_ (fun hHeld => ?_)
   ·exact ⟨rowCells (keepHeap bs_2 hA1), rowCells (keepHeap bs_2 hB1)⟩
   clear hK K
   (try simp only [zP, zA, zB, zC])
   refine tk 9 23 ?_
   (try simp only [zP, zA, zB, zC])
   refine tk 10 24 ?_
   (try simp only [zP, zA, zB, zC])
   refine tw 11 25 10 24 true ?_
   (try simp only [zP, zA, zB, zC])
   refine tw 12 26 10 24 true ?_
   (try simp only [zP, zA, zB, zC])
   refine tw 13 27 10 24 true ?_
   (try simp only [zP, zA, zB, zC])
   refine tw 14 28 10 24 true ?_
   (try simp only [zP, zA, zB, zC])
   refine tw 15 29 10 24 true ?_
   (try simp only [zP, zA, zB, zC])
   refine tw 16 30 10 24 true ?_
   (try simp only [zP, zA, zB, zC])
   refine wpAnyH_ready (rs := [17]) (by kernel_rfl) (by simp) ?_
   refine AllReadyH.cons rfl (fun K hK => ?_) AllReadyH.nil
   go_simp
   refine (itemSize _ _).mono ?_
   rintro e w_3 ⟨rfl, hb_3⟩
   have bs_3 := bs_2.trans (hb_3.mono bs_2.size)
   (try go_wp2_with (fail))
   refine hK.out _ _ ?_ (fun hHeld => ?_)
   ·exact ⟨rowCells (keepHeap bs_3 hA1), rowCells (keepHeap bs_3 hB1)⟩
   clear hK K
   (try simp only [zP, zA, zB, zC])
   refine wpAnyH_ready (rs := [18]) (by kernel_rfl) (by simp) ?_
   refine AllReadyH.cons rfl (fun K hK => ?_) AllReadyH.nil
   go_simp
   refine (blocked_impl (h0.keep bs_3) hg b.x b.y 8 (by omega) (by omega) hx.2 hy.2 hx.1 hy.1).mono ?_
   rintro e w_4 ⟨rfl, hb_4⟩
   have bs_4 := bs_3.trans (hb_4.mono bs_3.size)
   (try go_wp2_with (fail))
   refine hK.out _ _ ?_ (fun hHeld => ?_)
   ·exact ⟨rowCells (keepHeap bs_4 hA1), rowCells (keepHeap bs_4 hB1)⟩
   clear hK K
   (try simp only [zP, zA, zB, zC])
   refine tw 19 33 10 24 true ?_
   (try simp only [zP, zA, zB, zC])
   refine tk 20 34 ?_
   (try simp only [zP, zA, zB, zC])
   refine tk 21 6 ?_
   (try simp only [zP, zA, zB, zC])
   refine wpAnyH_done (by kernel_rfl) ?_ _
   have HF := Lib.hid ((fits_b (L := L) HIN.out Q1.out Q2.out).trans (by rw [HSZ.out]))
   go_wp2_with (fail)
   go_ret
   exact ⟨by rw [HF.out]; rfl, (hb01.trans (bs_4.mono hb01.size))⟩
set_option maxRecDepth 100000 in
set_option maxHeartbeats 8000000 in
theorem bodyFits_impl {w : World} {v : Value} {L : Rowz} (h : RdS w v L) (hg : Good L) (b : Bd) (hx : I64 b.x) (hy : I64 b.y) (n : Int) :
  Calls Tryz.prog 146 #[.agg #[v], .int .i64 n, .agg #[.int .i64 b.kind, .int .i64 b.owner, .int .i64 b.x, .int .i64 b.y, .int .i64 b.vx, .int .i64 b.vy, .int .i64 b.aim, .int .i64 b.life, .int .i64 b.timer]] w fun e w' => e = .returned (.bool (fitB L n b)) ∧ Below w.heap.size w w' := by
 by_cases k0 : b.kind = 0
 ·exact bodyFits_0 h hg b k0 hx hy n
 by_cases k1 : b.kind = 1
 ·exact bodyFits_1 h hg b k1 hx hy n
 by_cases k2 : b.kind = 2
 ·exact bodyFits_2 h hg b k2 hx hy n
 have HF := Lib.hid (fit_k (L := L) (n := n) (b := b) (by rw [Bool.eq_false_iff, Ne, inR_iff]; omega))
 obtain ⟨a, cap, rfl, -⟩ := id h
 obtain ⟨W0, hW, hA, hB, hB0, hS0⟩ := rows2 w #[.slice a L.length cap] #[.int .i64 b.kind, .int .i64 b.owner, .int .i64 b.x, .int .i64 b.y, .int .i64 b.vx, .int .i64 b.vy, .int .i64 b.aim, .int .i64 b.life, .int .i64 b.timer] 26 100
 have cB := rowCells hB
 have hFig := fun W => figureOf_no b k0 k1 k2 W
 clear k0 k1 k2
 go_enter Tryz.func146, Tryz.ntmps146
 go_wp2_with (fail)
 try rw [hW]
 clear hW
 refine (hFig _).mono ?_
 rintro e w1 ⟨rfl, hb1⟩
 have hA1 := keepHeap hb1 hA
 have hB1 := keepHeap hb1 hB
 have hb01 := hB0.trans (hb1.mono hB0.size)
 clear cB hFig
 go_wp2_with (fail)
 have bs_0 : Below w1.heap.size w1 w1.drew := belowDrew w1 1
 refine wp_region_held_drew (S := (fun w' => (∀ j, w'.cell? ⟨w.heap.size, j, none⟩ = #[Value.slice a L.length cap][j]?) ∧ (∀ j, w'.cell? ⟨w.heap.size + 1, j, none⟩ = #[.int .i64 b.kind, .int .i64 b.owner, .int .i64 b.x, .int .i64 b.y, .int .i64 b.vx, .int .i64 b.vy, .int .i64 b.aim, .int .i64 b.life, .int .i64 b.timer][j]?))) (by kernel_rfl) ?_ (fun hHeld => ?_)
 ·exact ⟨rowCells (keepHeap bs_0 hA1), rowCells (keepHeap bs_0 hB1)⟩
 refine tk 0 14 ?_
 (try simp only [zP, zA, zB, zC])
 refine tk 1 15 ?_
 (try simp only [zP, zA, zB, zC])
 refine tof 2 16 1 15 true false ?_
 (try simp only [zP, zA, zB, zC])
 refine tof 3 17 1 15 true false ?_
 (try simp only [zP, zA, zB, zC])
 refine tof 4 18 1 15 true false ?_
 (try simp only [zP, zA, zB, zC])
 refine tk 5 19 ?_
 (try simp only [zP, zA, zB, zC])
 refine tk 6 20 ?_
 (try simp only [zP, zA, zB, zC])
 refine tof 7 21 6 20 true false ?_
 (try simp only [zP, zA, zB, zC])
 refine tof 8 22 6 20 true false ?_
 (try simp only [zP, zA, zB, zC])
 refine tk 9 23 ?_
 (try simp only [zP, zA, zB, zC])
 refine tk 10 24 ?_
 (try simp only [zP, zA, zB, zC])
 refine tof 11 25 10 24 true false ?_
 (try simp only [zP, zA, zB, zC])
 refine tof 12 26 10 24 true false ?_
 (try simp only [zP, zA, zB, zC])
 refine tof 13 27 10 24 true false ?_
 (try simp only [zP, zA, zB, zC])
 refine tof 14 28 10 24 true false ?_
 (try simp only [zP, zA, zB, zC])
 refine tof 15 29 10 24 true false ?_
 (try simp only [zP, zA, zB, zC])
 refine tof 16 30 10 24 true false ?_
 (try simp only [zP, zA, zB, zC])
 refine tof 17 31 10 24 true false ?_
 (try simp only [zP, zA, zB, zC])
 refine tof 18 32 10 24 true false ?_
 (try simp only [zP, zA, zB, zC])
 refine tof 19 33 10 24 true false ?_
 (try simp only [zP, zA, zB, zC])
 refine tk 20 34 ?_
 (try simp only [zP, zA, zB, zC])
 refine tk 21 6 ?_
 (try simp only [zP, zA, zB, zC])
 refine wpAnyH_done (by kernel_rfl) ?_ _
 go_wp2_with (fail)
 go_ret
 exact ⟨by rw [HF.out]; rfl, hb01.trans (bs_0.mono hb01.size)⟩
end Go.Proofs.YtnlonkkbjkfkmaaGreatDoor
