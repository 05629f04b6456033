/-
  Texts of this proof: Level.
-/
import Derived.Test.YtnlonkkbjkfkmaaGreatDoorM15
import Derived.Test.YtnlonkkbjkfkmaaGreatDoorM02
import Derived.Lib.SmallJoins
import Derived.Deep.Strs
namespace Go.Proofs.YtnlonkkbjkfkmaaGreatDoor
open Go.RowKit Go.Joins Go.ChangeShapes Go.WideShapes Go.Deep
set_option linter.all false
def totalS (ls : List (List UInt8)) : Nat := (ls.map List.length).sum
theorem totalS_snoc (ls : List (List UInt8)) (k : Nat) (hk : k < ls.length) : totalS (ls.take (k + 1)) = totalS (ls.take k) + ls[k].length := by
 unfold totalS; rw [List.take_succ_eq_append_getElem hk, List.map_append, List.sum_append]; simp
def Sane (ls : List (List UInt8)) : Prop := ls.length ≤ 9223372036854775807 ∧ ∀ s ∈ ls, s.length ≤ 9223372036854775807
def SzPost (left : Int) (n t : Nat) (w : World) (e : Ending) (w' : World) : Prop := ∃ r : Int, e = .returned (.int .i64 r) ∧ (r = -1 ∨ (0 ≤ r ∧ r = left - n - t)) ∧ w = w'
set_option maxHeartbeats 1000000 in
theorem szStringS_any {w : World} {v : Value} {ls : List (List UInt8)} (h : RdS w v ls) (hs : Sane ls) (left : Int) (hl0 : 0 ≤ left) (hl1 : left ≤ 1048576) :
  Calls Tryz.prog 86 #[v, .int .i64 left] w (SzPost left ls.length (totalS ls) w) := by
 obtain ⟨a, cap, rfl, h⟩ := h
 obtain ⟨hs1, hs2⟩ := hs
 have hlc : (ls.length : Int) ≤ 9223372036854775807 := by omega
 by_cases hneg : left - (ls.length : Int) < 0
 ·have z1 : decide (left - (ls.length : Int) < 0) = true := by simpa using hneg
  go_enter Tryz.func86, Tryz.ntmps86
  go_wp2_with (fail)
  go_ret
  exact ⟨-1, rfl, .inl rfl, rfl⟩
 ·have z1 : decide (left - (ls.length : Int) < 0) = false := by simpa using hneg
  have hn20 : ls.length ≤ 1048576 := by omega
  go_enter Tryz.func86, Tryz.ntmps86
  go_wp2_with (fail)
  go_loop [1, 5] (fun x i => ∃ (k : Nat) (r : Int), k ≤ ls.length ∧ i = .int .i64 (k : Int) ∧ x = .int .i64 r ∧ 0 ≤ r ∧ r = left - (ls.length : Int) - (totalS (ls.take k) : Int)) (fun _ i => ls.length - (intOf i).toNat)
  case atStart => exact ⟨0, left - (ls.length : Int), Nat.zero_le _, rfl, rfl, by omega, by simp [totalS]⟩
  case round =>
   obtain ⟨k, r, hk, rfl, rfl, hr0, hr⟩ := hrel
   have hr1 : r ≤ 1048576 := by omega
   by_cases hkl : k < ls.length
   ·obtain ⟨b, off, rfl, hc⟩ := h.resolve_left (by intro e; rw [e] at hkl; simp at hkl)
    have hsn := totalS_snoc ls k hkl
    have c1 := hc k hkl
    have hx3 := hs2 ls[k] (List.getElem_mem _)
    obtain ⟨x, hx⟩ : ∃ x, x = ls[k] := ⟨_, rfl⟩
    rw [← hx] at c1 hx3 hsn
    have hxc : (x.length : Int) ≤ 9223372036854775807 := by omega
    have hkk : (k : Int) < (ls.length : Int) := by omega
    have HR := Lib.hid hr
    have HN := Lib.hid hsn
    clear hc h hx hr hsn hneg
    by_cases hm : r - (x.length : Int) < 0
    ·have z2 : decide (r - (x.length : Int) < 0) = true := by simpa using hm
     go_wp2_with (fail)
     go_ret
     exact ⟨-1, rfl, .inl rfl, rfl⟩
    ·have z2 : decide (r - (x.length : Int) < 0) = false := by simpa using hm
     go_wp2_with (fail)
     go_round
     case rel => exact ⟨k + 1, r - (x.length : Int), by omega, by go_num, rfl, by omega, by have := HR.out; have := HN.out; omega⟩
     case measure => simp [intOf]; omega
   ·have e : k = ls.length := by omega
    subst e
    rw [List.take_of_length_le (Nat.le_refl _)] at hr
    have HR := Lib.hid hr
    clear hr
    go_wp2_with (fail)
    go_ret
    exact ⟨r, rfl, .inr ⟨hr0, HR.out⟩, rfl⟩
def SzBelow (left : Int) (n t : Nat) (w : World) (e : Ending) (w' : World) : Prop := ∃ r : Int, e = .returned (.int .i64 r) ∧ (r = -1 ∨ (0 ≤ r ∧ r = left - n - t)) ∧ Below w.heap.size w w'
set_option maxHeartbeats 1000000 in
theorem szLevel_any {w : World} {v : Value} {ls : List (List UInt8)} (h : RdS w v ls) (hs : Sane ls) (left : Int) (hl0 : 0 ≤ left) (hl1 : left ≤ 1048576) :
  Calls Tryz.prog 32 #[.agg #[v], .int .i64 left] w (SzBelow left ls.length (totalS ls) w) := by
 have hk := h.keep ((Below.refl _ _).alloc (Nat.le_refl _) (.cells #[v] 43))
 have hS := szStringS_any hk hs left hl0 hl1
 obtain ⟨a, cap, rfl, _⟩ := h
 go_enter Tryz.func32, Tryz.ntmps32
 go_wp2_with (fail)
 refine hS.mono ?_
 rintro e w1 ⟨r, rfl, hr, rfl⟩
 rcases hr with rfl | ⟨hr0, hr1⟩
 ·go_wp2_with (fail)
  go_ret
  exact ⟨-1, rfl, .inl rfl, (Below.refl _ _).alloc (Nat.le_refl _) _⟩
 ·have z1 : decide (r < 0) = false := by simpa using hr0
  have HR := Lib.hid hr1
  clear hr1
  go_wp2_with (fail)
  go_ret
  exact ⟨r, rfl, .inr ⟨hr0, HR.out⟩, (Below.refl _ _).alloc (Nat.le_refl _) _⟩
set_option maxHeartbeats 1000000 in
theorem eqLevel_same {w : World} {v v' : Value} {xs : List (List UInt8)} (h : RdS w v xs) (h' : RdS w v' xs) (hn : xs.length ≤ 1099511627776) :
  Calls Tryz.prog 37 #[.agg #[v], .agg #[v']] w fun e w' => e = .returned (.bool true) ∧ Below w.heap.size w w' := by
 obtain ⟨a, cap, rfl, h0⟩ := id h
 obtain ⟨a', cap', rfl, h0'⟩ := id h'
 have hb : Below w.heap.size w ((w.alloc (.cells #[.slice a xs.length cap] 26)).alloc (.cells #[.slice a' xs.length cap'] 26)) := ((Below.refl _ _).alloc (Nat.le_refl _) _).alloc (by simp) _
 go_enter Tryz.func37, Tryz.ntmps37
 go_wp2_with (fail)
 refine (eqStringS_same (h.keep hb) (h'.keep hb) hn).mono ?_
 rintro e w1 ⟨rfl, n, rfl⟩
 go_wp2_with (fail)
 go_ret
 exact ⟨rfl, hb.trans ⟨rfl, rfl, rfl, Nat.le_refl _, fun _ _ => rfl⟩⟩
end Go.Proofs.YtnlonkkbjkfkmaaGreatDoor
