/-
  Contracts of the functions over plain integers, and their laws' walks. No condition.
-/
import Derived.Test.YtecimgennncjkaaDoorBase
namespace Go.Proofs.YtecimgennncjkaaDoor
open Go.RowKit
set_option linter.all false

def inB (x lo hi : Int) : Bool := decide (lo ≤ x ∧ x ≤ hi)
theorem l01In_any (x lo hi : Int) (w : World) :
    Calls Tryd.prog 46 #[.int .i64 x, .int .i64 lo, .int .i64 hi] w fun e w' => e = .returned (.bool (inB x lo hi)) ∧ w = w' := by
  by_cases h1 : lo ≤ x
  · have g1 : decide (lo ≤ x) = true := by simpa using h1
    go_enter Tryd.func46, Tryd.ntmps46
    go_wp2
    go_ret
    exact ⟨by simp [inB, h1], rfl⟩
  · have g1 : decide (lo ≤ x) = false := by simpa using h1
    go_enter Tryd.func46, Tryd.ntmps46
    go_wp2
    go_ret
    exact ⟨by simp [inB]; omega, rfl⟩
theorem inB_true {x lo hi : Int} (h1 : lo ≤ x) (h2 : x ≤ hi) : inB x lo hi = true := by simp [inB, h1, h2]
theorem inB_false {x lo hi : Int} (h : x < lo ∨ hi < x) : inB x lo hi = false := by simp [inB]; omega
def signlessI (n : Int) : Int := if n < -549755813888 ∨ 549755813887 < n then -1 else if n < 0 then -2 * n - 1 else 2 * n
theorem signless_impl (n : Int) (w : World) :
    Calls Tryd.prog 109 #[.int .i64 n] w fun e w' => e = .returned (.int .i64 (signlessI n)) ∧ w = w' := by
  by_cases h1 : n < -549755813888
  · have g1 : decide (n < -549755813888) = true := by simpa using h1
    go_enter Tryd.func109, Tryd.ntmps109
    go_wp2
    go_ret
    exact ⟨ret_int (by unfold signlessI; repeat' split <;> omega), rfl⟩
  · have g1 : decide (n < -549755813888) = false := by simpa using h1
    by_cases h2 : 549755813887 < n
    · have g2 : decide (549755813887 < n) = true := by simpa using h2
      go_enter Tryd.func109, Tryd.ntmps109
      go_wp2
      go_ret
      exact ⟨ret_int (by unfold signlessI; repeat' split <;> omega), rfl⟩
    · have g2 : decide (549755813887 < n) = false := by simpa using h2
      by_cases h3 : n < 0
      · go_enter Tryd.func109, Tryd.ntmps109
        go_wp2
        go_ret
        exact ⟨ret_int (by unfold signlessI; repeat' split <;> omega), rfl⟩
      · go_enter Tryd.func109, Tryd.ntmps109
        go_wp2
        go_ret
        exact ⟨ret_int (by unfold signlessI; repeat' split <;> omega), rfl⟩
theorem signless_spec (n : Int) (w : World) :
    Calls Tryd.prog 101 #[.int .i64 n] w fun e w' => e = .returned (.int .i64 (signlessI n)) ∧ w = w' := by
  by_cases h1 : n < -549755813888 ∨ 549755813887 < n
  · have g1 := inB_false h1
    go_enter Tryd.func101, Tryd.ntmps101
    go_wp2_with (go_at_call 46; refine (l01In_any _ _ _ _).mono ?_; rintro e w' ⟨rfl, rfl⟩)
    go_ret
    exact ⟨ret_int (by unfold signlessI; repeat' split <;> omega), rfl⟩
  · have g1 : inB n (-549755813888) 549755813887 = true := inB_true (by omega) (by omega)
    have h1a : -549755813888 ≤ n := by omega
    have h1b : n ≤ 549755813887 := by omega
    clear h1
    by_cases h3 : 0 ≤ n
    · go_enter Tryd.func101, Tryd.ntmps101
      go_wp2_with (go_at_call 46; refine (l01In_any _ _ _ _).mono ?_; rintro e w' ⟨rfl, rfl⟩)
      go_ret
      exact ⟨ret_int (by unfold signlessI; repeat' split <;> omega), rfl⟩
    · go_enter Tryd.func101, Tryd.ntmps101
      go_wp2_with (go_at_call 46; refine (l01In_any _ _ _ _).mono ?_; rintro e w' ⟨rfl, rfl⟩)
      go_ret
      exact ⟨ret_int (by unfold signlessI; repeat' split <;> omega), rfl⟩
def signedI (n : Int) : Int := if n < 0 ∨ 1099511627775 < n then 0 else if n % 2 = 1 then -((n + 1) / 2) else n / 2
theorem signed_impl (n : Int) (w : World) :
    Calls Tryd.prog 112 #[.int .i64 n] w fun e w' => e = .returned (.int .i64 (signedI n)) ∧ w = w' := by
  by_cases h1 : n < 0
  · have g1 : decide (n < 0) = true := by simpa using h1
    go_enter Tryd.func112, Tryd.ntmps112
    go_wp2
    go_ret
    exact ⟨ret_int (by unfold signedI; repeat' split <;> omega), rfl⟩
  · have g1 : decide (n < 0) = false := by simpa using h1
    by_cases h2 : 1099511627775 < n
    · have g2 : decide (1099511627775 < n) = true := by simpa using h2
      go_enter Tryd.func112, Tryd.ntmps112
      go_wp2
      go_ret
      exact ⟨ret_int (by unfold signedI; repeat' split <;> omega), rfl⟩
    · have g2 : decide (1099511627775 < n) = false := by simpa using h2
      go_enter Tryd.func112, Tryd.ntmps112
      go_wp2
      · have h3 : (n % 2 != 0) = true := by assumption
        have h4 : ¬ n % 2 = 0 := by simpa using h3
        go_ret
        refine ⟨ret_int ?_, rfl⟩
        have e : wrap64 (-(n + 1).tdiv 2) = -(n + 1) / 2 := by
          have : (n + 1).tdiv 2 = (n + 1) / 2 := Int.tdiv_eq_ediv_of_nonneg (by omega)
          rw [IntWalk.wrap64_in] <;> omega
        rw [e]; unfold signedI; rw [if_neg (by omega), if_pos (by omega)]; omega
      · have h3 : (n % 2 != 0) = false := by assumption
        have h4 : n % 2 = 0 := by simpa using h3
        go_ret
        exact ⟨ret_int (by unfold signedI; rw [if_neg (by omega), if_neg (by omega)]), rfl⟩
end Go.Proofs.YtecimgennncjkaaDoor
