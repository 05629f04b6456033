/-
  Texts of this proof: Size.
-/
import Derived.Test.YtnlonkkbjkfkmaaGreatDoorM00
namespace Go.Proofs.YtnlonkkbjkfkmaaGreatDoor
open Go.RowKit
set_option linter.all false

def sizeI (k : Int) : Int := if k = 0 then 12 else if k = 1 then 4 else if k = 2 then 8 else 0
theorem sizeI_no {k : Int} (h0 : k ≠ 0) (h1 : k ≠ 1) (h2 : k ≠ 2) : sizeI k = 0 := by unfold sizeI; rw [if_neg h0, if_neg h1, if_neg h2]
theorem sizeI_range (k : Int) : 0 ≤ sizeI k ∧ sizeI k ≤ 12 := by unfold sizeI; repeat' split <;> omega
theorem playerSize (cs : Array Value) (w : World) : Calls Tryz.prog 261 #[.agg cs] w fun e w' => e = .returned (.int .i64 12) ∧ Below w.heap.size w w' := by
 go_enter Tryz.func261, Tryz.ntmps261
 go_wp2
 go_ret
 exact ⟨rfl, (Below.refl _ _).alloc (Nat.le_refl _) _⟩
theorem shotSize (cs : Array Value) (w : World) : Calls Tryz.prog 262 #[.agg cs] w fun e w' => e = .returned (.int .i64 4) ∧ Below w.heap.size w w' := by
 go_enter Tryz.func262, Tryz.ntmps262
 go_wp2
 go_ret
 exact ⟨rfl, (Below.refl _ _).alloc (Nat.le_refl _) _⟩
theorem itemSize (cs : Array Value) (w : World) : Calls Tryz.prog 263 #[.agg cs] w fun e w' => e = .returned (.int .i64 8) ∧ Below w.heap.size w w' := by
 go_enter Tryz.func263, Tryz.ntmps263
 go_wp2
 go_ret
 exact ⟨rfl, (Below.refl _ _).alloc (Nat.le_refl _) _⟩
theorem sizeOf_spec (k : Int) (w : World) : Calls Tryz.prog 242 #[.int .i64 k] w fun e w' => e = .returned (.int .i64 (sizeI k)) ∧ w = w' := by
 by_cases h0 : k = 0
 ·subst h0
  go_enter Tryz.func242, Tryz.ntmps242
  go_wp2_with (fail)
  go_ret
  exact ⟨rfl, rfl⟩
 ·have z0 : (k == 0) = false := by simpa using h0
  by_cases h1 : k = 1
  ·subst h1
   go_enter Tryz.func242, Tryz.ntmps242
   go_wp2_with (fail)
   go_ret
   exact ⟨rfl, rfl⟩
  ·have z1 : (k == 1) = false := by simpa using h1
   by_cases h2 : k = 2
   ·subst h2
    go_enter Tryz.func242, Tryz.ntmps242
    go_wp2_with (fail)
    go_ret
    exact ⟨rfl, rfl⟩
   ·have z2 : (k == 2) = false := by simpa using h2
    have HF := Lib.hid (sizeI_no h0 h1 h2)
    clear h0 h1 h2
    go_enter Tryz.func242, Tryz.ntmps242
    go_wp2_with (fail)
    go_ret
    exact ⟨by rw [HF.out]; rfl, rfl⟩
def inR (n lo hi : Int) : Bool := decide (lo ≤ n) && decide (n ≤ hi)
theorem inR_iff (n lo hi : Int) : inR n lo hi = true ↔ lo ≤ n ∧ n ≤ hi := by unfold inR; simp
theorem within_impl (n lo hi : Int) (w : World) : Calls Tryz.prog 69 #[.int .i64 n, .int .i64 lo, .int .i64 hi] w fun e w' => e = .returned (.bool (inR n lo hi)) ∧ w = w' := by
 by_cases h0 : lo ≤ n
 ·have z0 : decide (lo ≤ n) = true := by simpa using h0
  have HF0 : inR n lo hi = decide (n ≤ hi) := by unfold inR; rw [z0]; rfl
  have HF := Lib.hid HF0
  clear HF0
  go_enter Tryz.func69, Tryz.ntmps69
  go_wp2_with (fail)
  go_ret
  exact ⟨by rw [HF.out]; rfl, rfl⟩
 ·have z0 : decide (lo ≤ n) = false := by simpa using h0
  have HF0 : inR n lo hi = false := by unfold inR; rw [z0]; rfl
  have HF := Lib.hid HF0
  clear HF0
  go_enter Tryz.func69, Tryz.ntmps69
  go_wp2_with (fail)
  go_ret
  exact ⟨by rw [HF.out]; rfl, rfl⟩
theorem in_spec (n lo hi : Int) (w : World) : Calls Tryz.prog 88 #[.int .i64 n, .int .i64 lo, .int .i64 hi] w fun e w' => e = .returned (.bool (inR n lo hi)) ∧ w = w' := by
 by_cases h0 : lo ≤ n
 ·have z0 : decide (lo ≤ n) = true := by simpa using h0
  have HF0 : inR n lo hi = decide (n ≤ hi) := by unfold inR; rw [z0]; rfl
  have HF := Lib.hid HF0
  clear HF0
  go_enter Tryz.func88, Tryz.ntmps88
  go_wp2_with (fail)
  go_ret
  exact ⟨by rw [HF.out]; rfl, rfl⟩
 ·have z0 : decide (lo ≤ n) = false := by simpa using h0
  have HF0 : inR n lo hi = false := by unfold inR; rw [z0]; rfl
  have HF := Lib.hid HF0
  clear HF0
  go_enter Tryz.func88, Tryz.ntmps88
  go_wp2_with (fail)
  go_ret
  exact ⟨by rw [HF.out]; rfl, rfl⟩
end Go.Proofs.YtnlonkkbjkfkmaaGreatDoor
