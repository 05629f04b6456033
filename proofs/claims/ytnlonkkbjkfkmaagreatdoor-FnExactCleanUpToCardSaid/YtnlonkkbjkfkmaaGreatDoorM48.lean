/-
  Texts of this proof: SumF.
-/
import Derived.Test.YtnlonkkbjkfkmaaGreatDoorM07
import Derived.Deep.Cut
import Derived.Deep.CutBlock
import Derived.Lib.SmallJoins
import Derived.Deep.RegionHeld3
import Derived.Lib.Hide
import Derived.Test.YtnlonkkbjkfkmaaGreatDoorM01
import Derived.Test.YtnlonkkbjkfkmaaGreatDoorM02
namespace Go.Proofs.YtnlonkkbjkfkmaaGreatDoor
open Go.RowKit Go.Joins Go.ChangeShapes Go.WideShapes Go.Deep
set_option linter.all false
def lastI (xs ys : List Int) : Int := if xs.length ≤ ys.length then (xs.length : Int) - 1 else (ys.length : Int) - 1
def firstD (xs ys : List Int) : Int := match (List.range (min xs.length ys.length)).find? (fun k => !(xs.getD k 0 == ys.getD k 0)) with | some k => k | none => -1
theorem firstD_yes {xs ys : List Int} {k : Nat} (h1 : k < xs.length) (h2 : k < ys.length) (hd : (xs[k] == ys[k]) = false) (hall : ∀ j (hj1 : j < xs.length) (hj2 : j < ys.length), j < k → (xs[j] == ys[j]) = true) : firstD xs ys = k := by
 unfold firstD
 have : (List.range (min xs.length ys.length)).find? (fun k => !(xs.getD k 0 == ys.getD k 0)) = some k := by
  rw [List.find?_range_eq_some]
  refine ⟨by simpa [h1, h2] using hd, by simp [List.mem_range]; omega, fun j hj => ?_⟩
  have := hall j (by omega) (by omega) hj
  simpa [show j < xs.length by omega, show j < ys.length by omega] using this
 rw [this]
theorem firstD_no {xs ys : List Int} (hall : ∀ j (hj1 : j < xs.length) (hj2 : j < ys.length), (xs[j] == ys[j]) = true) : firstD xs ys = -1 := by
 unfold firstD
 have : (List.range (min xs.length ys.length)).find? (fun k => !(xs.getD k 0 == ys.getD k 0)) = none := by
  rw [List.find?_range_eq_none]
  intro j hj
  have := hall j (by omega) (by omega)
  simpa [show j < xs.length by omega, show j < ys.length by omega] using this
 rw [this]
theorem last_impl {w : World} {v v' : Value} {xs ys : List Int} (h : RdI w v xs) (h' : RdI w v' ys) (hx : xs.length ≤ 1048576) (hy : ys.length ≤ 1048576) :
  Calls Tryz.prog 130 #[v, v'] w fun e w' => e = .returned (.int .i64 (lastI xs ys)) ∧ w = w' := by
 obtain ⟨a, cap, rfl, -⟩ := h
 obtain ⟨a', cap', rfl, -⟩ := h'
 have h1 : (xs.length : Int) ≤ 1048576 := by omega
 have h2 : (ys.length : Int) ≤ 1048576 := by omega
 by_cases hle : xs.length ≤ ys.length
 ·have HF : Hid (lastI xs ys = (xs.length : Int) - 1) := Lib.hid (by unfold lastI; rw [if_pos hle])
  have hm : min (xs.length : Int) (ys.length : Int) = (xs.length : Int) := by omega
  have hm2 : min xs.length ys.length = xs.length := by omega
  have hnl : ¬ ys.length < xs.length := by omega
  go_enter Tryz.func130, Tryz.ntmps130
  go_wp2_with (fail)
  go_ret
  exact ⟨by rw [HF.out]; rfl, rfl⟩
 ·have HF : Hid (lastI xs ys = (ys.length : Int) - 1) := Lib.hid (by unfold lastI; rw [if_neg hle])
  have hm : min (xs.length : Int) (ys.length : Int) = (ys.length : Int) := by omega
  have hm2 : min xs.length ys.length = ys.length := by omega
  have hnl : ys.length < xs.length := by omega
  go_enter Tryz.func130, Tryz.ntmps130
  go_wp2_with (fail)
  go_ret
  exact ⟨by rw [HF.out]; rfl, rfl⟩
set_option maxHeartbeats 2000000 in
theorem first_impl {w : World} {v v' : Value} {xs ys : List Int} (h : RdI w v xs) (h' : RdI w v' ys) (hx : xs.length ≤ 1048576) (hy : ys.length ≤ 1048576) :
  Calls Tryz.prog 129 #[v, v'] w fun e w' => e = .returned (.int .i64 (firstD xs ys)) ∧ ∃ n, w' = w.drewN n := by
 obtain ⟨a, cap, rfl, h⟩ := h
 obtain ⟨a', cap', rfl, h'⟩ := h'
 have hx1 : (xs.length : Int) ≤ 1048576 := by omega
 have hy1 : (ys.length : Int) ≤ 1048576 := by omega
 by_cases hle : xs.length ≤ ys.length
 case pos =>
  have hm : min (xs.length : Int) (ys.length : Int) = (xs.length : Int) := by omega
  have hm2 : min xs.length ys.length = xs.length := by omega
  have hnl : ¬ ys.length < xs.length := by omega
  go_enter Tryz.func129, Tryz.ntmps129
  go_wp2_with (fail)
  go_loopw [11] (fun i wr => ∃ k n : Nat, k ≤ xs.length ∧ k ≤ ys.length ∧ i = .int .i64 (k : Int) ∧ wr = w.drewN n ∧ Hid (∀ j (hj1 : j < xs.length) (hj2 : j < ys.length), j < k → (xs[j] == ys[j]) = true)) (fun i _ => xs.length - (intOf i).toNat)
  case atStart => exact ⟨0, 0, Nat.zero_le _, Nat.zero_le _, rfl, rfl, Lib.hid (fun j _ _ hl => by omega)⟩
  case round =>
   obtain ⟨k, n, hk, hk', rfl, rfl, HA⟩ := hrel
   by_cases h1 : k < xs.length
   case neg =>
    have HF : Hid (firstD xs ys = -1) := Lib.hid (firstD_no (fun j hj1 hj2 => HA.out j hj1 hj2 (by omega)))
    have z1 : decide ((k : Int) < (xs.length : Int)) = false := by simp; omega
    go_wp2_with (fail)
    go_ret
    exact ⟨by rw [HF.out]; rfl, by first | exact ⟨_, rfl⟩ | exact ⟨_, World.drewN_drewN _ _ _⟩⟩
   have z1 : decide ((k : Int) < (xs.length : Int)) = true := by simp; omega
   by_cases h2 : k < ys.length
   case neg =>
    have HF : Hid (firstD xs ys = -1) := Lib.hid (firstD_no (fun j hj1 hj2 => HA.out j hj1 hj2 (by omega)))
    have z2 : decide ((k : Int) < (ys.length : Int)) = false := by simp; omega
    exfalso; omega
   have z2 : decide ((k : Int) < (ys.length : Int)) = true := by simp; omega
   obtain ⟨b, off, rfl, hc⟩ := h.resolve_left (by intro e; rw [e] at h1; simp at h1)
   obtain ⟨b', off', rfl, hc'⟩ := h'.resolve_left (by intro e; rw [e] at h2; simp at h2)
   have c1 := hc k h1
   have c2 := hc' k h2
   have h1i : (k : Int) < (xs.length : Int) := by omega
   have h2i : (k : Int) < (ys.length : Int) := by omega
   cases hg : xs[k] == ys[k] with
   | false =>
    have HF : Hid (firstD xs ys = (k : Int)) := Lib.hid (firstD_yes h1 h2 hg HA.out)
    clear HA h h' hc hc'
    generalize xs[k] = x at *
    generalize ys[k] = y at *
    have hne : (x != y) = true := by simp [bne, hg]
    go_wp2_with (fail)
    go_quiet (fail)
    go_wp2_with (fail)
    go_ret
    exact ⟨by rw [HF.out]; rfl, by first | exact ⟨_, rfl⟩ | exact ⟨_, World.drewN_drewN _ _ _⟩⟩
   | true =>
    have HA2 : Hid (∀ j (hj1 : j < xs.length) (hj2 : j < ys.length), j < k + 1 → (xs[j] == ys[j]) = true) := Lib.hid (fun j hj1 hj2 hl => by
     by_cases e : j = k
     ·subst e; exact hg
     ·exact HA.out j hj1 hj2 (by omega))
    clear HA h h' hc hc'
    generalize xs[k] = x at *
    generalize ys[k] = y at *
    have hne : (x != y) = false := by simp [bne, hg]
    go_wp2_with (fail)
    go_quiet (fail)
    go_wp2_with (fail)
    go_roundw
    case rel => exact ⟨k + 1, _, by omega, by omega, by go_num, by first | rfl | exact World.drewN_drewN _ _ _, HA2⟩
    case measure => simp [intOf]; omega
 case neg =>
  have hm : min (xs.length : Int) (ys.length : Int) = (ys.length : Int) := by omega
  have hm2 : min xs.length ys.length = ys.length := by omega
  have hnl : ys.length < xs.length := by omega
  go_enter Tryz.func129, Tryz.ntmps129
  go_wp2_with (fail)
  go_loopw [11] (fun i wr => ∃ k n : Nat, k ≤ xs.length ∧ k ≤ ys.length ∧ i = .int .i64 (k : Int) ∧ wr = w.drewN n ∧ Hid (∀ j (hj1 : j < xs.length) (hj2 : j < ys.length), j < k → (xs[j] == ys[j]) = true)) (fun i _ => xs.length - (intOf i).toNat)
  case atStart => exact ⟨0, 0, Nat.zero_le _, Nat.zero_le _, rfl, rfl, Lib.hid (fun j _ _ hl => by omega)⟩
  case round =>
   obtain ⟨k, n, hk, hk', rfl, rfl, HA⟩ := hrel
   by_cases h1 : k < xs.length
   case neg =>
    have HF : Hid (firstD xs ys = -1) := Lib.hid (firstD_no (fun j hj1 hj2 => HA.out j hj1 hj2 (by omega)))
    have z1 : decide ((k : Int) < (xs.length : Int)) = false := by simp; omega
    exfalso; omega
   have z1 : decide ((k : Int) < (xs.length : Int)) = true := by simp; omega
   by_cases h2 : k < ys.length
   case neg =>
    have HF : Hid (firstD xs ys = -1) := Lib.hid (firstD_no (fun j hj1 hj2 => HA.out j hj1 hj2 (by omega)))
    have z2 : decide ((k : Int) < (ys.length : Int)) = false := by simp; omega
    go_wp2_with (fail)
    go_ret
    exact ⟨by rw [HF.out]; rfl, by first | exact ⟨_, rfl⟩ | exact ⟨_, World.drewN_drewN _ _ _⟩⟩
   have z2 : decide ((k : Int) < (ys.length : Int)) = true := by simp; omega
   obtain ⟨b, off, rfl, hc⟩ := h.resolve_left (by intro e; rw [e] at h1; simp at h1)
   obtain ⟨b', off', rfl, hc'⟩ := h'.resolve_left (by intro e; rw [e] at h2; simp at h2)
   have c1 := hc k h1
   have c2 := hc' k h2
   have h1i : (k : Int) < (xs.length : Int) := by omega
   have h2i : (k : Int) < (ys.length : Int) := by omega
   cases hg : xs[k] == ys[k] with
   | false =>
    have HF : Hid (firstD xs ys = (k : Int)) := Lib.hid (firstD_yes h1 h2 hg HA.out)
    clear HA h h' hc hc'
    generalize xs[k] = x at *
    generalize ys[k] = y at *
    have hne : (x != y) = true := by simp [bne, hg]
    go_wp2_with (fail)
    go_quiet (fail)
    go_wp2_with (fail)
    go_ret
    exact ⟨by rw [HF.out]; rfl, by first | exact ⟨_, rfl⟩ | exact ⟨_, World.drewN_drewN _ _ _⟩⟩
   | true =>
    have HA2 : Hid (∀ j (hj1 : j < xs.length) (hj2 : j < ys.length), j < k + 1 → (xs[j] == ys[j]) = true) := Lib.hid (fun j hj1 hj2 hl => by
     by_cases e : j = k
     ·subst e; exact hg
     ·exact HA.out j hj1 hj2 (by omega))
    clear HA h h' hc hc'
    generalize xs[k] = x at *
    generalize ys[k] = y at *
    have hne : (x != y) = false := by simp [bne, hg]
    go_wp2_with (fail)
    go_quiet (fail)
    go_wp2_with (fail)
    go_roundw
    case rel => exact ⟨k + 1, _, by omega, by omega, by go_num, by first | rfl | exact World.drewN_drewN _ _ _, HA2⟩
    case measure => simp [intOf]; omega
set_option maxHeartbeats 2000000 in
theorem first_spec {w : World} {v v' : Value} {xs ys : List Int} (h : RdI w v xs) (h' : RdI w v' ys) (hx : xs.length ≤ 1048576) (hy : ys.length ≤ 1048576) :
  Calls Tryz.prog 128 #[v, v'] w fun e w' => e = .returned (.int .i64 (firstD xs ys)) ∧ ∃ n, w' = w.drewN n := by
 obtain ⟨a, cap, rfl, h⟩ := h
 obtain ⟨a', cap', rfl, h'⟩ := h'
 have hx1 : (xs.length : Int) ≤ 1048576 := by omega
 have hy1 : (ys.length : Int) ≤ 1048576 := by omega
 go_enter Tryz.func128, Tryz.ntmps128
 go_wp2_with (fail)
 go_loopw [5] (fun i wr => ∃ k n : Nat, k ≤ xs.length ∧ k ≤ ys.length ∧ i = .int .i64 (k : Int) ∧ wr = w.drewN n ∧ Hid (∀ j (hj1 : j < xs.length) (hj2 : j < ys.length), j < k → (xs[j] == ys[j]) = true)) (fun i _ => xs.length - (intOf i).toNat)
 case atStart => exact ⟨0, 0, Nat.zero_le _, Nat.zero_le _, rfl, rfl, Lib.hid (fun j _ _ hl => by omega)⟩
 case round =>
  obtain ⟨k, n, hk, hk', rfl, rfl, HA⟩ := hrel
  by_cases h1 : k < xs.length
  case neg =>
   have HF : Hid (firstD xs ys = -1) := Lib.hid (firstD_no (fun j hj1 hj2 => HA.out j hj1 hj2 (by omega)))
   have z1 : decide ((k : Int) < (xs.length : Int)) = false := by simp; omega
   go_wp2_with (fail)
   go_ret
   exact ⟨by rw [HF.out]; rfl, by first | exact ⟨_, rfl⟩ | exact ⟨_, World.drewN_drewN _ _ _⟩⟩
  have z1 : decide ((k : Int) < (xs.length : Int)) = true := by simp; omega
  by_cases h2 : k < ys.length
  case neg =>
   have HF : Hid (firstD xs ys = -1) := Lib.hid (firstD_no (fun j hj1 hj2 => HA.out j hj1 hj2 (by omega)))
   have z2 : decide ((k : Int) < (ys.length : Int)) = false := by simp; omega
   go_wp2_with (fail)
   go_ret
   exact ⟨by rw [HF.out]; rfl, by first | exact ⟨_, rfl⟩ | exact ⟨_, World.drewN_drewN _ _ _⟩⟩
  have z2 : decide ((k : Int) < (ys.length : Int)) = true := by simp; omega
  obtain ⟨b, off, rfl, hc⟩ := h.resolve_left (by intro e; rw [e] at h1; simp at h1)
  obtain ⟨b', off', rfl, hc'⟩ := h'.resolve_left (by intro e; rw [e] at h2; simp at h2)
  have c1 := hc k h1
  have c2 := hc' k h2
  have h1i : (k : Int) < (xs.length : Int) := by omega
  have h2i : (k : Int) < (ys.length : Int) := by omega
  cases hg : xs[k] == ys[k] with
  | false =>
   have HF : Hid (firstD xs ys = (k : Int)) := Lib.hid (firstD_yes h1 h2 hg HA.out)
   clear HA h h' hc hc'
   generalize xs[k] = x at *
   generalize ys[k] = y at *
   have hne : (x != y) = true := by simp [bne, hg]
   go_wp2_with (fail)
   go_quiet (fail)
   go_wp2_with (fail)
   go_ret
   exact ⟨by rw [HF.out]; rfl, by first | exact ⟨_, rfl⟩ | exact ⟨_, World.drewN_drewN _ _ _⟩⟩
  | true =>
   have HA2 : Hid (∀ j (hj1 : j < xs.length) (hj2 : j < ys.length), j < k + 1 → (xs[j] == ys[j]) = true) := Lib.hid (fun j hj1 hj2 hl => by
    by_cases e : j = k
    ·subst e; exact hg
    ·exact HA.out j hj1 hj2 (by omega))
   clear HA h h' hc hc'
   generalize xs[k] = x at *
   generalize ys[k] = y at *
   have hne : (x != y) = false := by simp [bne, hg]
   go_wp2_with (fail)
   go_quiet (fail)
   go_wp2_with (fail)
   go_roundw
   case rel => exact ⟨k + 1, _, by omega, by omega, by go_num, by first | rfl | exact World.drewN_drewN _ _ _, HA2⟩
   case measure => simp [intOf]; omega
theorem first_implB {w : World} {v v' : Value} {xs ys : List Int} (h : RdI w v xs) (h' : RdI w v' ys) (hx : xs.length ≤ 1048576) (hy : ys.length ≤ 1048576) :
  Calls Tryz.prog 129 #[v, v'] w fun e w' => e = .returned (.int .i64 (firstD xs ys)) ∧ Below w.heap.size w w' := (first_impl h h' hx hy).mono fun _ _ ⟨he, n, hw⟩ => ⟨he, hw ▸ belowDrew w n⟩
theorem first_specB {w : World} {v v' : Value} {xs ys : List Int} (h : RdI w v xs) (h' : RdI w v' ys) (hx : xs.length ≤ 1048576) (hy : ys.length ≤ 1048576) :
  Calls Tryz.prog 128 #[v, v'] w fun e w' => e = .returned (.int .i64 (firstD xs ys)) ∧ Below w.heap.size w w' := (first_spec h h' hx hy).mono fun _ _ ⟨he, n, hw⟩ => ⟨he, hw ▸ belowDrew w n⟩
end Go.Proofs.YtnlonkkbjkfkmaaGreatDoor
