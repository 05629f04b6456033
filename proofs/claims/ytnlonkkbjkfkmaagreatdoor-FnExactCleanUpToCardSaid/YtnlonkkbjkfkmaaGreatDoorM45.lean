/-
  Texts of this proof: SmG.
-/
import Derived.Test.YtnlonkkbjkfkmaaGreatDoorM16
namespace Go.Proofs.YtnlonkkbjkfkmaaGreatDoor
open Go.RowKit
set_option linter.all false
def sg {α : Type} [DecidableEq α] (xs ys : List α) : Bool := decide (xs = ys)
theorem sg_len {α : Type} [DecidableEq α] {xs ys : List α} (h : ¬ xs.length = ys.length) : sg xs ys = false := by unfold sg; rw [decide_eq_false_iff_not]; intro e; exact h (by rw [e])
theorem sg_bad {α : Type} [DecidableEq α] {xs ys : List α} {k : Nat} (h1 : k < xs.length) (h2 : k < ys.length) (h : ¬ xs[k] = ys[k]) : sg xs ys = false := by unfold sg; rw [decide_eq_false_iff_not]; intro e; subst e; exact h rfl
theorem sg_ok {α : Type} [DecidableEq α] {xs ys : List α} (hl : xs.length = ys.length) (h : ∀ k (h1 : k < xs.length) (h2 : k < ys.length), xs[k] = ys[k]) : sg xs ys = true := by unfold sg; rw [decide_eq_true_eq]; exact List.ext_getElem hl h
set_option maxHeartbeats 1000000 in
theorem equalS_any {w : World} {v v' : Value} {xs ys : List (List UInt8)} (h : RdS w v xs) (h' : RdS w v' ys) (hs : xs.length ≤ 9223372036854775807) (hs' : ys.length ≤ 9223372036854775807) :
  Calls Tryz.prog 72 #[v, v'] w fun e w' => e = .returned (.bool (sg xs ys)) ∧ Below w.heap.size w w' := by
 obtain ⟨a, cap, rfl, h⟩ := h
 obtain ⟨a', cap', rfl, h'⟩ := h'
 have hlc : (xs.length : Int) ≤ 9223372036854775807 := by omega
 have hlc' : (ys.length : Int) ≤ 9223372036854775807 := by omega
 by_cases hl : xs.length = ys.length
 ·have hl' : (xs.length : Int) = (ys.length : Int) := by omega
  have HL := Lib.hid hl
  have z1 : ((xs.length : Int) != (ys.length : Int)) = false := by simp [hl']
  clear hl hl'
  go_enter Tryz.func72, Tryz.ntmps72
  go_wp2_with (fail)
  go_loopw [13] (fun i wr => ∃ k n : Nat, k ≤ xs.length ∧ i = .int .i64 (k : Int) ∧ wr = w.drewN n ∧ ∀ j (h1 : j < xs.length) (h2 : j < ys.length), j < k → xs[j] = ys[j]) (fun i _ => xs.length - (intOf i).toNat)
  case atStart => exact ⟨0, 0, Nat.zero_le _, rfl, rfl, fun _ _ _ h => by omega⟩
  case round =>
   obtain ⟨k, n, hk, rfl, rfl, hat⟩ := hrel
   have HA := Lib.hid hat
   clear hat
   by_cases hkl : k < xs.length
   ·have hkl2 : k < ys.length := by rw [← HL.out]; exact hkl
    obtain ⟨b, off, rfl, hc⟩ := h.resolve_left (by intro e; rw [e] at hkl; simp at hkl)
    obtain ⟨b', off', rfl, hc'⟩ := h'.resolve_left (by intro e; rw [e] at hkl2; simp at hkl2)
    obtain ⟨x, hx⟩ : ∃ x, x = xs[k] := ⟨_, rfl⟩
    obtain ⟨y, hy⟩ : ∃ y, y = ys[k] := ⟨_, rfl⟩
    have c1 := hc k hkl
    have c2 := hc' k hkl2
    rw [← hx] at c1
    rw [← hy] at c2
    have hl1 : (k : Int) < (xs.length : Int) := by omega
    have hl2 : (k : Int) < (ys.length : Int) := by omega
    by_cases he : x = y
    ·have HE : Hid (xs[k] = ys[k]) := Lib.hid (by rw [← hx, ← hy]; exact he)
     subst he
     clear h h' hc hc' hx hy
     go_wp2
     go_quiet (fail)
     go_wp2
     go_roundw
     case rel =>
      refine ⟨k + 1, _, by omega, by go_num, rfl, fun j h1 h2 hjk => ?_⟩
      by_cases e : j = k
      ·subst e; exact HE.out
      ·exact HA.out j h1 h2 (by omega)
     case measure => simp [intOf]; omega
    ·have HF := Lib.hid (sg_bad hkl hkl2 (by rw [← hx, ← hy]; exact he))
     have z2 : ((⟨x.toArray⟩ : ByteArray).toList == (⟨y.toArray⟩ : ByteArray).toList) = false := by simpa [ByteArray.toList_eq] using he
     have z3 : (x == y) = false := by simpa using he
     have z4 : (x != y) = true := by simpa using he
     clear h h' hc hc' hx hy
     go_wp2
     go_quiet (fail)
     go_wp2
     go_ret
     exact ⟨by rw [HF.out]; rfl, ⟨rfl, rfl, rfl, Nat.le_refl _, fun _ _ => rfl⟩⟩
   ·have HF := Lib.hid (sg_ok HL.out (fun j h1 h2 => HA.out j h1 h2 (by omega)))
    go_wp2
    go_ret
    exact ⟨by rw [HF.out]; rfl, belowDrew _ _⟩
 ·have hl' : ¬ (xs.length : Int) = (ys.length : Int) := by omega
  have HF := Lib.hid (sg_len hl)
  have z1 : ((xs.length : Int) != (ys.length : Int)) = true := by simp; omega
  go_enter Tryz.func72, Tryz.ntmps72
  go_wp2_with (fail)
  go_ret
  exact ⟨by rw [HF.out]; rfl, Below.refl _ _⟩
set_option maxHeartbeats 1000000 in
theorem sameLevel_spec {w : World} {v v' : Value} {xs ys : List (List UInt8)} (h : RdS w v xs) (h' : RdS w v' ys) (hs : xs.length ≤ 9223372036854775807) (hs' : ys.length ≤ 9223372036854775807) :
  Calls Tryz.prog 166 #[.agg #[v], .agg #[v']] w fun e w' => e = .returned (.bool (sg xs ys)) ∧ Below w.heap.size w w' := by
 have h0 := h
 have h0' := h'
 obtain ⟨a, cap, rfl, h⟩ := h
 obtain ⟨a', cap', rfl, h'⟩ := h'
 have hlc : (xs.length : Int) ≤ 9223372036854775807 := by omega
 have hlc' : (ys.length : Int) ≤ 9223372036854775807 := by omega
 obtain ⟨W0, hW, hA, hB, hB0, hS0⟩ := rows2 w #[.slice a xs.length cap] #[.slice a' ys.length cap'] 26 26
 have cA := rowCells hA
 have cB := rowCells hB
 by_cases hl : xs.length = ys.length
 ·have hl' : (xs.length : Int) = (ys.length : Int) := by omega
  have HL := Lib.hid hl
  have z1 : ((xs.length : Int) != (ys.length : Int)) = false := by simp [hl']
  clear hl hl'
  go_enter Tryz.func166, Tryz.ntmps166
  go_wp2_with (fail)
  try rw [hW]
  clear hW
  go_loopw [5] (fun i wr => ∃ k n : Nat, k ≤ xs.length ∧ i = .int .i64 (k : Int) ∧ wr = W0.drewN n ∧ ∀ j (h1 : j < xs.length) (h2 : j < ys.length), j < k → xs[j] = ys[j]) (fun i _ => xs.length - (intOf i).toNat)
  case atStart => exact ⟨0, 0, Nat.zero_le _, rfl, rfl, fun _ _ _ h => by omega⟩
  case round =>
   obtain ⟨k, n, hk, rfl, rfl, hat⟩ := hrel
   have HA := Lib.hid hat
   clear hat
   by_cases hkl : k < xs.length
   ·have hkl2 : k < ys.length := by rw [← HL.out]; exact hkl
    obtain ⟨b, off, rfl, hc⟩ := h.resolve_left (by intro e; rw [e] at hkl; simp at hkl)
    obtain ⟨b', off', rfl, hc'⟩ := h'.resolve_left (by intro e; rw [e] at hkl2; simp at hkl2)
    obtain ⟨x, hx⟩ : ∃ x, x = xs[k] := ⟨_, rfl⟩
    obtain ⟨y, hy⟩ : ∃ y, y = ys[k] := ⟨_, rfl⟩
    have d1 := hc k hkl
    have d2 := hc' k hkl2
    have c1 := (hB0.cell (World.block_lt_of_cell? w _ d1)).trans d1
    have c2 := (hB0.cell (World.block_lt_of_cell? w _ d2)).trans d2
    rw [← hx] at c1
    rw [← hy] at c2
    have hl1 : (k : Int) < (xs.length : Int) := by omega
    have hl2 : (k : Int) < (ys.length : Int) := by omega
    by_cases he : x = y
    ·have HE : Hid (xs[k] = ys[k]) := Lib.hid (by rw [← hx, ← hy]; exact he)
     subst he
     clear h h' hc hc' hx hy d1 d2 h0 h0'
     go_wp2_with (fail)
     go_quiet (fail)
     go_wp2_with (fail)
     go_roundw
     case rel =>
      refine ⟨k + 1, _, by omega, by go_num, rfl, fun j h1 h2 hjk => ?_⟩
      by_cases e : j = k
      ·subst e; exact HE.out
      ·exact HA.out j h1 h2 (by omega)
     case measure => simp [intOf]; omega
    ·have HF := Lib.hid (sg_bad hkl hkl2 (by rw [← hx, ← hy]; exact he))
     have z2 : ((⟨x.toArray⟩ : ByteArray).toList == (⟨y.toArray⟩ : ByteArray).toList) = false := by simpa [ByteArray.toList_eq] using he
     have z3 : (x == y) = false := by simpa using he
     have z4 : (x != y) = true := by simpa using he
     clear h h' hc hc' hx hy d1 d2 h0 h0'
     go_wp2_with (fail)
     go_quiet (fail)
     go_wp2_with (fail)
     go_ret
     exact ⟨by rw [HF.out]; rfl, hB0.trans ⟨rfl, rfl, rfl, Nat.le_refl _, fun _ _ => rfl⟩⟩
   ·have HF := Lib.hid (sg_ok HL.out (fun j h1 h2 => HA.out j h1 h2 (by omega)))
    go_wp2_with (fail)
    go_ret
    exact ⟨by rw [HF.out]; rfl, hB0.trans ⟨rfl, rfl, rfl, Nat.le_refl _, fun _ _ => rfl⟩⟩
 ·have hl' : ¬ (xs.length : Int) = (ys.length : Int) := by omega
  have HF := Lib.hid (sg_len hl)
  have z1 : ((xs.length : Int) != (ys.length : Int)) = true := by simp; omega
  go_enter Tryz.func166, Tryz.ntmps166
  go_wp2_with (fail)
  go_ret
  exact ⟨by rw [HF.out]; rfl, hB0⟩
end Go.Proofs.YtnlonkkbjkfkmaaGreatDoor
