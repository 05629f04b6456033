/-
  Texts of this proof: ColI.
-/
import Derived.Test.YtnlonkkbjkfkmaaGreatDoorM29
import Derived.Test.YtnlonkkbjkfkmaaGreatDoorM24
import Derived.Test.YtnlonkkbjkfkmaaGreatDoorM30
namespace Go.Proofs.YtnlonkkbjkfkmaaGreatDoor
open Go.RowKit
set_option linter.all false
def rokB (n : Int) (x : List Int) : Bool := decide ((x.length : Int) = n) && allW 0 15 x
theorem rokB_len {n : Int} {x : List Int} (h : ¬ (x.length : Int) = n) : rokB n x = false := by unfold rokB; rw [decide_eq_false h]; rfl
theorem rokB_w {n : Int} {x : List Int} (h : (x.length : Int) = n) : rokB n x = allW 0 15 x := by unfold rokB; rw [decide_eq_true h]; rfl
theorem rokB_bad {n : Int} {x : List Int} (h : allW 0 15 x = false) : rokB n x = false := by unfold rokB; rw [h]; simp
theorem rokB_ok {n : Int} {x : List Int} (h : allW 0 15 x = true) : rokB n x = decide ((x.length : Int) = n) := by unfold rokB; rw [h]; simp
theorem rowOk_impl {w : World} {v : Value} {xs : List Int} (h : RdI w v xs) (hs : xs.length ≤ 9223372036854775807) (n : Int) :
  Calls Tryz.prog 140 #[v, .int .i64 n] w fun e w' => e = .returned (.bool (rokB n xs)) ∧ w = w' := by
 have hI := inputsOk_any h hs
 obtain ⟨a, cap, rfl, -⟩ := h
 have hlc : (xs.length : Int) ≤ 9223372036854775807 := by omega
 by_cases hl : (xs.length : Int) = n
 ·have HF := Lib.hid (rokB_w hl)
  have z1 : ((xs.length : Int) == n) = true := by simpa using hl
  clear hl
  go_enter Tryz.func140, Tryz.ntmps140
  go_wp2_with (fail)
  refine hI.mono ?_
  rintro e w1 ⟨rfl, rfl⟩
  go_wp2_with (fail)
  go_ret
  exact ⟨by rw [HF.out]; rfl, rfl⟩
 ·have HF := Lib.hid (rokB_len hl)
  have z1 : ((xs.length : Int) == n) = false := by simpa using hl
  clear hl hI
  go_enter Tryz.func140, Tryz.ntmps140
  go_wp2_with (fail)
  go_ret
  exact ⟨by rw [HF.out]; rfl, rfl⟩
set_option maxHeartbeats 1000000 in
theorem l02RowOk_any {w : World} {v : Value} {xs : List Int} (h : RdI w v xs) (hs : xs.length ≤ 9223372036854775807) (n : Int) :
  Calls Tryz.prog 160 #[v, .int .i64 n] w fun e w' => e = .returned (.bool (rokB n xs)) ∧ w = w' := by
 obtain ⟨a, cap, rfl, h⟩ := h
 have hlc : (xs.length : Int) ≤ 9223372036854775807 := by omega
 go_enter Tryz.func160, Tryz.ntmps160
 go_wp2_with (fail)
 go_loop [5] (fun i => ∃ k : Nat, k ≤ xs.length ∧ i = .int .i64 (k : Int) ∧ ∀ j (hj : j < xs.length), j < k → inR xs[j] 0 15 = true) (fun i => xs.length - (intOf i).toNat)
 case atStart => exact ⟨0, Nat.zero_le _, rfl, fun _ _ h => by omega⟩
 case round =>
  obtain ⟨k, hk, rfl, hat⟩ := hrel
  have HA := Lib.hid hat
  clear hat
  by_cases hkl : k < xs.length
  ·obtain ⟨b, off, rfl, hc⟩ := h.resolve_left (by intro e; rw [e] at hkl; simp at hkl)
   obtain ⟨x, hx⟩ : ∃ x, x = xs[k] := ⟨_, rfl⟩
   have c1 : w.cell? ⟨b, off + k, none⟩ = some (.int .i64 x) := by rw [hx]; exact hc k hkl
   have hl1 : (k : Int) < (xs.length : Int) := by omega
   cases hq : inR x 0 15 with
   | true =>
    have HQ : Hid (inR xs[k] 0 15 = true) := Lib.hid (by rw [← hx]; exact hq)
    have Q := Lib.hid hq
    clear hx hc h hq
    go_wp2_with (go_at_call 88; refine (in_spec _ _ _ _).mono ?_; rintro e w1 ⟨rfl, rfl⟩; rw [Q.out])
    go_round
    case rel =>
     refine ⟨k + 1, by omega, by go_num, fun j hj hjk => ?_⟩
     by_cases e : j = k
     ·subst e; exact HQ.out
     ·exact HA.out j hj (by omega)
    case measure => simp [intOf]; omega
   | false =>
    have HF := Lib.hid (rokB_bad (n := n) (allW_bad (lo := 0) (hi := 15) hkl (by rw [← hx]; exact hq)))
    have Q := Lib.hid hq
    clear hx hc h hq
    go_wp2_with (go_at_call 88; refine (in_spec _ _ _ _).mono ?_; rintro e w1 ⟨rfl, rfl⟩; rw [Q.out])
    go_ret
    exact ⟨by rw [HF.out]; rfl, rfl⟩
  ·have HF := Lib.hid (rokB_ok (n := n) (allW_ok (lo := 0) (hi := 15) (xs := xs) (fun j hj => HA.out j hj (by omega))))
   go_wp2_with (fail)
   go_ret
   exact ⟨by rw [HF.out]; rfl, rfl⟩
end Go.Proofs.YtnlonkkbjkfkmaaGreatDoor
