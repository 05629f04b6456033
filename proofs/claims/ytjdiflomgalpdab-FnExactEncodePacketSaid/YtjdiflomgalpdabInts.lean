/-
  Contracts of the functions over plain integers, and their laws' walks. No condition.
-/
import Derived.Test.YtjdiflomgalpdabBase
namespace Go.Proofs.Ytjdiflomgalpdab
open Go.RowKit
set_option linter.all false

def inB (x lo hi : Int) : Bool := decide (lo ≤ x ∧ x ≤ hi)
theorem l01In_any (x lo hi : Int) (w : World) :
    Calls Try.prog 37 #[.int .i64 x, .int .i64 lo, .int .i64 hi] w fun e w' => e = .returned (.bool (inB x lo hi)) ∧ w = w' := by
  by_cases h1 : lo ≤ x
  · have g1 : decide (lo ≤ x) = true := by simpa using h1
    go_enter Try.func37, Try.ntmps37
    go_wp2
    go_ret
    exact ⟨by simp [inB, h1], rfl⟩
  · have g1 : decide (lo ≤ x) = false := by simpa using h1
    go_enter Try.func37, Try.ntmps37
    go_wp2
    go_ret
    exact ⟨by simp [inB]; omega, rfl⟩
theorem inB_true {x lo hi : Int} (h1 : lo ≤ x) (h2 : x ≤ hi) : inB x lo hi = true := by simp [inB, h1, h2]
theorem inB_false {x lo hi : Int} (h : x < lo ∨ hi < x) : inB x lo hi = false := by simp [inB]; omega
def signlessI (n : Int) : Int := if n < -549755813888 ∨ 549755813887 < n then -1 else if n < 0 then -2 * n - 1 else 2 * n
theorem signless_impl (n : Int) (w : World) :
    Calls Try.prog 68 #[.int .i64 n] w fun e w' => e = .returned (.int .i64 (signlessI n)) ∧ w = w' := by
  by_cases h1 : n < -549755813888
  · have g1 : decide (n < -549755813888) = true := by simpa using h1
    go_enter Try.func68, Try.ntmps68
    go_wp2
    go_ret
    exact ⟨ret_int (by unfold signlessI; repeat' split <;> omega), rfl⟩
  · have g1 : decide (n < -549755813888) = false := by simpa using h1
    by_cases h2 : 549755813887 < n
    · have g2 : decide (549755813887 < n) = true := by simpa using h2
      go_enter Try.func68, Try.ntmps68
      go_wp2
      go_ret
      exact ⟨ret_int (by unfold signlessI; repeat' split <;> omega), rfl⟩
    · have g2 : decide (549755813887 < n) = false := by simpa using h2
      by_cases h3 : n < 0
      · go_enter Try.func68, Try.ntmps68
        go_wp2
        go_ret
        exact ⟨ret_int (by unfold signlessI; repeat' split <;> omega), rfl⟩
      · go_enter Try.func68, Try.ntmps68
        go_wp2
        go_ret
        exact ⟨ret_int (by unfold signlessI; repeat' split <;> omega), rfl⟩
theorem signless_spec (n : Int) (w : World) :
    Calls Try.prog 52 #[.int .i64 n] w fun e w' => e = .returned (.int .i64 (signlessI n)) ∧ w = w' := by
  by_cases h1 : n < -549755813888 ∨ 549755813887 < n
  · have g1 := inB_false h1
    go_enter Try.func52, Try.ntmps52
    go_wp2_with (go_at_call 37; refine (l01In_any _ _ _ _).mono ?_; rintro e w' ⟨rfl, rfl⟩)
    go_ret
    exact ⟨ret_int (by unfold signlessI; repeat' split <;> omega), rfl⟩
  · have g1 : inB n (-549755813888) 549755813887 = true := inB_true (by omega) (by omega)
    have h1a : -549755813888 ≤ n := by omega
    have h1b : n ≤ 549755813887 := by omega
    clear h1
    by_cases h3 : 0 ≤ n
    · go_enter Try.func52, Try.ntmps52
      go_wp2_with (go_at_call 37; refine (l01In_any _ _ _ _).mono ?_; rintro e w' ⟨rfl, rfl⟩)
      go_ret
      exact ⟨ret_int (by unfold signlessI; repeat' split <;> omega), rfl⟩
    · go_enter Try.func52, Try.ntmps52
      go_wp2_with (go_at_call 37; refine (l01In_any _ _ _ _).mono ?_; rintro e w' ⟨rfl, rfl⟩)
      go_ret
      exact ⟨ret_int (by unfold signlessI; repeat' split <;> omega), rfl⟩
end Go.Proofs.Ytjdiflomgalpdab
