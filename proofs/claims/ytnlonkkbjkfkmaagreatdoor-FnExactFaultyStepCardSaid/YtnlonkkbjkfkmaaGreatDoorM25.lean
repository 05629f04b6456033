/-
  Texts of this proof: ColI, Ints.
-/
import Derived.Test.YtnlonkkbjkfkmaaGreatDoorM16
import Derived.Test.YtnlonkkbjkfkmaaGreatDoorM13
import Derived.Test.YtnlonkkbjkfkmaaGreatDoorM00
namespace Go.Proofs.YtnlonkkbjkfkmaaGreatDoor
open Go.RowKit
set_option linter.all false
def rokB (n : Int) (x : List Int) : Bool := decide ((x.length : Int) = n) && allW 0 15 x
theorem rokB_len {n : Int} {x : List Int} (h : ¬ (x.length : Int) = n) : rokB n x = false := by unfold rokB; rw [decide_eq_false h]; rfl
theorem rokB_w {n : Int} {x : List Int} (h : (x.length : Int) = n) : rokB n x = allW 0 15 x := by unfold rokB; rw [decide_eq_true h]; rfl
theorem rokB_bad {n : Int} {x : List Int} (h : allW 0 15 x = false) : rokB n x = false := by unfold rokB; rw [h]; simp
theorem rokB_ok {n : Int} {x : List Int} (h : allW 0 15 x = true) : rokB n x = decide ((x.length : Int) = n) := by unfold rokB; rw [h]; simp
theorem rokB_facts {n : Int} {x : List Int} (h : rokB n x = true) : (x.length : Int) = n ∧ allW 0 15 x = true := by
 unfold rokB at h
 rw [Bool.and_eq_true, decide_eq_true_eq] at h
 exact h
theorem rowOk_impl {w : World} {v : Value} {xs : List Int} (h : RdI w v xs) (hs : xs.length ≤ 9223372036854775807) (n : Int) :
  Calls Tryz.prog 140 #[v, .int .i64 n] w fun e w' => e = .returned (.bool (rokB n xs)) ∧ w = w' := by
 have hI := inputsOk_any h hs
 obtain ⟨a, cap, rfl, -⟩ := h
 have hlc : (xs.length : Int) ≤ 9223372036854775807 := by omega
 by_cases hl : (xs.length : Int) = n
 ·have HF := Lib.hid (rokB_w hl)
  have z1 : ((xs.length : Int) == n) = true := by simpa using hl
  clear hl
  go_enter Tryz.func140, Tryz.ntmps140
  go_wp2_with (fail)
  refine hI.mono ?_
  rintro e w1 ⟨rfl, rfl⟩
  go_wp2_with (fail)
  go_ret
  exact ⟨by rw [HF.out]; rfl, rfl⟩
 ·have HF := Lib.hid (rokB_len hl)
  have z1 : ((xs.length : Int) == n) = false := by simpa using hl
  clear hl hI
  go_enter Tryz.func140, Tryz.ntmps140
  go_wp2_with (fail)
  go_ret
  exact ⟨by rw [HF.out]; rfl, rfl⟩
set_option maxHeartbeats 1000000 in
theorem l02RowOk_any {w : World} {v : Value} {xs : List Int} (h : RdI w v xs) (hs : xs.length ≤ 9223372036854775807) (n : Int) :
  Calls Tryz.prog 160 #[v, .int .i64 n] w fun e w' => e = .returned (.bool (rokB n xs)) ∧ w = w' := by
 obtain ⟨a, cap, rfl, h⟩ := h
 have hlc : (xs.length : Int) ≤ 9223372036854775807 := by omega
 go_enter Tryz.func160, Tryz.ntmps160
 go_wp2_with (fail)
 go_loop [5] (fun i => ∃ k : Nat, k ≤ xs.length ∧ i = .int .i64 (k : Int) ∧ ∀ j (hj : j < xs.length), j < k → inR xs[j] 0 15 = true) (fun i => xs.length - (intOf i).toNat)
 case atStart => exact ⟨0, Nat.zero_le _, rfl, fun _ _ h => by omega⟩
 case round =>
  obtain ⟨k, hk, rfl, hat⟩ := hrel
  have HA := Lib.hid hat
  clear hat
  by_cases hkl : k < xs.length
  ·obtain ⟨b, off, rfl, hc⟩ := h.resolve_left (by intro e; rw [e] at hkl; simp at hkl)
   obtain ⟨x, hx⟩ : ∃ x, x = xs[k] := ⟨_, rfl⟩
   have c1 : w.cell? ⟨b, off + k, none⟩ = some (.int .i64 x) := by rw [hx]; exact hc k hkl
   have hl1 : (k : Int) < (xs.length : Int) := by omega
   cases hq : inR x 0 15 with
   | true =>
    have HQ : Hid (inR xs[k] 0 15 = true) := Lib.hid (by rw [← hx]; exact hq)
    have Q := Lib.hid hq
    clear hx hc h hq
    go_wp2_with (go_at_call 88; refine (in_spec _ _ _ _).mono ?_; rintro e w1 ⟨rfl, rfl⟩; rw [Q.out])
    go_round
    case rel =>
     refine ⟨k + 1, by omega, by go_num, fun j hj hjk => ?_⟩
     by_cases e : j = k
     ·subst e; exact HQ.out
     ·exact HA.out j hj (by omega)
    case measure => simp [intOf]; omega
   | false =>
    have HF := Lib.hid (rokB_bad (n := n) (allW_bad (lo := 0) (hi := 15) hkl (by rw [← hx]; exact hq)))
    have Q := Lib.hid hq
    clear hx hc h hq
    go_wp2_with (go_at_call 88; refine (in_spec _ _ _ _).mono ?_; rintro e w1 ⟨rfl, rfl⟩; rw [Q.out])
    go_ret
    exact ⟨by rw [HF.out]; rfl, rfl⟩
  ·have HF := Lib.hid (rokB_ok (n := n) (allW_ok (lo := 0) (hi := 15) (xs := xs) (fun j hj => HA.out j hj (by omega))))
   go_wp2_with (fail)
   go_ret
   exact ⟨by rw [HF.out]; rfl, rfl⟩
end Go.Proofs.YtnlonkkbjkfkmaaGreatDoor
namespace Go.Proofs.YtnlonkkbjkfkmaaGreatDoor
open Go.RowKit
set_option linter.all false

def nextR (n : Int) : Int := if n < 0 ∨ 65535 < n then 0 else (n * 25173 + 13849) % 65536
def belowR (s n : Int) : Int × Int := if s < 0 ∨ 65535 < s ∨ n < 1 ∨ 4096 < n then (0, 0) else (nextR s, nextR s / 16 % n)
theorem nextR_bd (s : Int) : 0 ≤ nextR s ∧ nextR s ≤ 65535 := by unfold nextR; split <;> omega
def inB (x lo hi : Int) : Bool := decide (lo ≤ x ∧ x ≤ hi)
theorem l01In_any (x lo hi : Int) (w : World) :
  Calls Tryz.prog 88 #[.int .i64 x, .int .i64 lo, .int .i64 hi] w fun e w' => e = .returned (.bool (inB x lo hi)) ∧ w = w' := by
 by_cases h1 : lo ≤ x
 ·have g1 : decide (lo ≤ x) = true := by simpa using h1
  go_enter Tryz.func88, Tryz.ntmps88
  go_wp2
  go_ret
  exact ⟨by simp [inB, h1], rfl⟩
 ·have g1 : decide (lo ≤ x) = false := by simpa using h1
  go_enter Tryz.func88, Tryz.ntmps88
  go_wp2
  go_ret
  exact ⟨by simp [inB]; omega, rfl⟩
theorem inB_true {x lo hi : Int} (h1 : lo ≤ x) (h2 : x ≤ hi) : inB x lo hi = true := by simp [inB, h1, h2]
theorem inB_false {x lo hi : Int} (h : x < lo ∨ hi < x) : inB x lo hi = false := by simp [inB]; omega
theorem next_impl (n : Int) (w : World) :
  Calls Tryz.prog 208 #[.int .i64 n] w fun e w' => e = .returned (.int .i64 (nextR n)) ∧ w = w' := by
 by_cases h1 : n < 0
 ·have g1 : decide (n < 0) = true := by simpa using h1
  go_enter Tryz.func208, Tryz.ntmps208
  go_wp2
  go_ret
  exact ⟨ret_int (by unfold nextR; repeat' split <;> omega), rfl⟩
 ·have g1 : decide (n < 0) = false := by simpa using h1
  by_cases h2 : 65535 < n
  ·have g2 : decide (65535 < n) = true := by simpa using h2
   go_enter Tryz.func208, Tryz.ntmps208
   go_wp2
   go_ret
   exact ⟨ret_int (by unfold nextR; repeat' split <;> omega), rfl⟩
  ·have g2 : decide (65535 < n) = false := by simpa using h2
   go_enter Tryz.func208, Tryz.ntmps208
   go_wp2
   go_ret
   exact ⟨ret_int (by unfold nextR; repeat' split <;> omega), rfl⟩
theorem next_spec (n : Int) (w : World) :
  Calls Tryz.prog 222 #[.int .i64 n] w fun e w' => e = .returned (.int .i64 (nextR n)) ∧ w = w' := by
 by_cases h1 : n < 0 ∨ 65535 < n
 ·have g1 := inB_false h1
  go_enter Tryz.func222, Tryz.ntmps222
  go_wp2_with (go_at_call 88; refine (l01In_any _ _ _ _).mono ?_; rintro e w' ⟨rfl, rfl⟩)
  go_ret
  exact ⟨ret_int (by unfold nextR; rw [if_pos h1]), rfl⟩
 ·have g1 : inB n 0 65535 = true := inB_true (by omega) (by omega)
  have h1a : 0 ≤ n := by omega
  have h1b : n ≤ 65535 := by omega
  have H := Lib.hid h1; clear h1
  go_enter Tryz.func222, Tryz.ntmps222
  go_wp2_with (go_at_call 88; refine (l01In_any _ _ _ _).mono ?_; rintro e w' ⟨rfl, rfl⟩)
  go_ret
  exact ⟨ret_int (by rw [i64_and65535 _ (by omega) (by omega)]; unfold nextR; rw [if_neg H.out]), rfl⟩
theorem below_impl (s n : Int) (w : World) :
  Calls Tryz.prog 249 #[.int .i64 s, .int .i64 n] w fun e w' => e = .returned (.tuple #[.int .i64 (belowR s n).1, .int .i64 (belowR s n).2]) ∧ ∃ k, w' = w.drewN k := by
 by_cases h1 : s < 0
 ·have g1 : decide (s < 0) = true := by simpa using h1
  have hf : belowR s n = (0, 0) := by unfold belowR; rw [if_pos (by omega)]
  have HF := Lib.hid hf; clear hf
  go_enter Tryz.func249, Tryz.ntmps249
  go_wp2
  go_ret2
  exact ⟨by rw [HF.out]; rfl, 0, rfl⟩
 ·have g1 : decide (s < 0) = false := by simpa using h1
  by_cases h2 : 65535 < s
  ·have g2 : decide (65535 < s) = true := by simpa using h2
   have hf : belowR s n = (0, 0) := by unfold belowR; rw [if_pos (by omega)]
   have HF := Lib.hid hf; clear hf
   go_enter Tryz.func249, Tryz.ntmps249
   go_wp2
   go_ret2
   exact ⟨by rw [HF.out]; rfl, 0, rfl⟩
  ·have g2 : decide (65535 < s) = false := by simpa using h2
   by_cases h3 : n < 1
   ·have g3 : decide (n < 1) = true := by simpa using h3
    have hf : belowR s n = (0, 0) := by unfold belowR; rw [if_pos (by omega)]
    have HF := Lib.hid hf; clear hf
    go_enter Tryz.func249, Tryz.ntmps249
    go_wp2
    go_ret2
    exact ⟨by rw [HF.out]; rfl, 0, rfl⟩
   ·have g3 : decide (n < 1) = false := by simpa using h3
    by_cases h4 : 4096 < n
    ·have g4 : decide (4096 < n) = true := by simpa using h4
     have hf : belowR s n = (0, 0) := by unfold belowR; rw [if_pos (by omega)]
     have HF := Lib.hid hf; clear hf
     go_enter Tryz.func249, Tryz.ntmps249
     go_wp2
     go_ret2
     exact ⟨by rw [HF.out]; rfl, 0, rfl⟩
    ·have g4 : decide (4096 < n) = false := by simpa using h4
     have hf : belowR s n = (nextR s, nextR s / 16 % n) := by unfold belowR; rw [if_neg (by omega)]
     have HF := Lib.hid hf; clear hf
     have hb := (nextR_bd s).1
     have hb2 := (nextR_bd s).2
     have hz : (n == 0) = false := by simp; omega
     go_enter Tryz.func249, Tryz.ntmps249
     go_wp2_with (go_at_call 208; refine (next_impl _ _).mono ?_; rintro e w' ⟨rfl, rfl⟩)
     go_quiet (fail)
     go_wp2
     go_ret2
     exact ⟨by rw [HF.out]; rfl, _, rfl⟩
theorem below_spec (s n : Int) (w : World) :
  Calls Tryz.prog 224 #[.int .i64 s, .int .i64 n] w fun e w' => e = .returned (.tuple #[.int .i64 (belowR s n).1, .int .i64 (belowR s n).2]) ∧ ∃ k, w' = w.drewN k := by
 by_cases h1 : s < 0 ∨ 65535 < s
 ·have g1 := inB_false h1
  have g1' : (!inB s 0 65535) = true := by rw [g1]; rfl
  have hf : belowR s n = (0, 0) := by unfold belowR; rw [if_pos (by omega)]
  have HF := Lib.hid hf; clear hf
  go_enter Tryz.func224, Tryz.ntmps224
  go_wp2_with (go_at_call 88; refine (l01In_any _ _ _ _).mono ?_; rintro e w' ⟨rfl, rfl⟩)
  go_ret2
  exact ⟨by rw [HF.out]; rfl, 0, rfl⟩
 ·have g1 : inB s 0 65535 = true := inB_true (by omega) (by omega)
  by_cases h2 : n < 1 ∨ 4096 < n
  ·have g2 := inB_false h2
   have hf : belowR s n = (0, 0) := by unfold belowR; rw [if_pos (by omega)]
   have HF := Lib.hid hf; clear hf h1 h2
   go_enter Tryz.func224, Tryz.ntmps224
   go_wp2_with (go_at_call 88; refine (l01In_any _ _ _ _).mono ?_; rintro e w' ⟨rfl, rfl⟩)
   go_ret2
   exact ⟨by rw [HF.out]; rfl, 0, rfl⟩
  ·have g2 : inB n 1 4096 = true := inB_true (by omega) (by omega)
   have hf : belowR s n = (nextR s, nextR s / 16 % n) := by unfold belowR; rw [if_neg (by omega)]
   have HF := Lib.hid hf; clear hf
   have hb := (nextR_bd s).1
   have hb2 := (nextR_bd s).2
   have hn1 : 1 ≤ n := by omega
   have hn2 : n ≤ 4096 := by omega
   have hz : (n == 0) = false := by simp; omega
   clear h1 h2
   go_enter Tryz.func224, Tryz.ntmps224
   go_wp2_with (first
    | (go_at_call 88; refine (l01In_any _ _ _ _).mono ?_; rintro e w' ⟨rfl, rfl⟩)
    | (go_at_call 222; refine (next_spec _ _).mono ?_; rintro e w' ⟨rfl, rfl⟩))
   go_quiet (fail)
   go_wp2
   go_ret2
   exact ⟨by rw [HF.out]; rfl, _, rfl⟩
end Go.Proofs.YtnlonkkbjkfkmaaGreatDoor
