/-
  Contracts of SizeOf and of the test of a range. No condition.
-/
import Derived.Test.YtgbdpmaajihfdaaBase
namespace Go.Proofs.Ytgbdpmaajihfdaa
open Go.RowKit
set_option linter.all false

def sizeI (k : Int) : Int := if k = 0 then 12 else if k = 1 then 4 else if k = 2 then 8 else 0
theorem sizeI_0 : sizeI 0 = 12 := rfl
theorem sizeI_1 : sizeI 1 = 4 := rfl
theorem sizeI_2 : sizeI 2 = 8 := rfl
theorem sizeI_no {k : Int} (h0 : k ≠ 0) (h1 : k ≠ 1) (h2 : k ≠ 2) : sizeI k = 0 := by unfold sizeI; rw [if_neg h0, if_neg h1, if_neg h2]
theorem sizeI_range (k : Int) : 0 ≤ sizeI k ∧ sizeI k ≤ 12 := by unfold sizeI; repeat' split <;> omega
/-- Whether a number lies in a range. -/
def inR (n lo hi : Int) : Bool := decide (lo ≤ n) && decide (n ≤ hi)
theorem inR_iff (n lo hi : Int) : inR n lo hi = true ↔ lo ≤ n ∧ n ≤ hi := by unfold inR; simp
theorem within_impl (n lo hi : Int) (w : World) : Calls Try.prog 13 #[.int .i64 n, .int .i64 lo, .int .i64 hi] w fun e w' => e = .returned (.bool (inR n lo hi)) ∧ w = w' := by
  by_cases h0 : lo ≤ n
  · have z0 : decide (lo ≤ n) = true := by simpa using h0
    have HF0 : inR n lo hi = decide (n ≤ hi) := by unfold inR; rw [z0]; rfl
    have HF := Lib.hid HF0
    clear HF0
    go_enter Try.func13, Try.ntmps13
    go_wp2_with (fail)
    go_ret
    exact ⟨by rw [HF.out]; rfl, rfl⟩
  · have z0 : decide (lo ≤ n) = false := by simpa using h0
    have HF0 : inR n lo hi = false := by unfold inR; rw [z0]; rfl
    have HF := Lib.hid HF0
    clear HF0
    go_enter Try.func13, Try.ntmps13
    go_wp2_with (fail)
    go_ret
    exact ⟨by rw [HF.out]; rfl, rfl⟩
end Go.Proofs.Ytgbdpmaajihfdaa
