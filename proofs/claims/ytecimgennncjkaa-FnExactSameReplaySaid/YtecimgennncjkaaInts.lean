/-
  Contracts of the functions over plain integers, and their laws' walks. No condition.
-/
import Derived.Test.YtecimgennncjkaaBase
namespace Go.Proofs.Ytecimgennncjkaa
open Go.RowKit
set_option linter.all false

def inB (x lo hi : Int) : Bool := decide (lo ≤ x ∧ x ≤ hi)
theorem l01In_any (x lo hi : Int) (w : World) :
    Calls Try.prog 21 #[.int .i64 x, .int .i64 lo, .int .i64 hi] w fun e w' => e = .returned (.bool (inB x lo hi)) ∧ w = w' := by
  by_cases h1 : lo ≤ x
  · have g1 : decide (lo ≤ x) = true := by simpa using h1
    go_enter Try.func21, Try.ntmps21
    go_wp2
    go_ret
    exact ⟨by simp [inB, h1], rfl⟩
  · have g1 : decide (lo ≤ x) = false := by simpa using h1
    go_enter Try.func21, Try.ntmps21
    go_wp2
    go_ret
    exact ⟨by simp [inB]; omega, rfl⟩
theorem inB_true {x lo hi : Int} (h1 : lo ≤ x) (h2 : x ≤ hi) : inB x lo hi = true := by simp [inB, h1, h2]
theorem inB_false {x lo hi : Int} (h : x < lo ∨ hi < x) : inB x lo hi = false := by simp [inB]; omega
def signlessI (n : Int) : Int := if n < -549755813888 ∨ 549755813887 < n then -1 else if n < 0 then -2 * n - 1 else 2 * n
theorem signless_impl (n : Int) (w : World) :
    Calls Try.prog 76 #[.int .i64 n] w fun e w' => e = .returned (.int .i64 (signlessI n)) ∧ w = w' := by
  by_cases h1 : n < -549755813888
  · have g1 : decide (n < -549755813888) = true := by simpa using h1
    go_enter Try.func76, Try.ntmps76
    go_wp2
    go_ret
    exact ⟨ret_int (by unfold signlessI; repeat' split <;> omega), rfl⟩
  · have g1 : decide (n < -549755813888) = false := by simpa using h1
    by_cases h2 : 549755813887 < n
    · have g2 : decide (549755813887 < n) = true := by simpa using h2
      go_enter Try.func76, Try.ntmps76
      go_wp2
      go_ret
      exact ⟨ret_int (by unfold signlessI; repeat' split <;> omega), rfl⟩
    · have g2 : decide (549755813887 < n) = false := by simpa using h2
      by_cases h3 : n < 0
      · go_enter Try.func76, Try.ntmps76
        go_wp2
        go_ret
        exact ⟨ret_int (by unfold signlessI; repeat' split <;> omega), rfl⟩
      · go_enter Try.func76, Try.ntmps76
        go_wp2
        go_ret
        exact ⟨ret_int (by unfold signlessI; repeat' split <;> omega), rfl⟩
theorem signless_spec (n : Int) (w : World) :
    Calls Try.prog 55 #[.int .i64 n] w fun e w' => e = .returned (.int .i64 (signlessI n)) ∧ w = w' := by
  by_cases h1 : n < -549755813888 ∨ 549755813887 < n
  · have g1 := inB_false h1
    go_enter Try.func55, Try.ntmps55
    go_wp2_with (go_at_call 21; refine (l01In_any _ _ _ _).mono ?_; rintro e w' ⟨rfl, rfl⟩)
    go_ret
    exact ⟨ret_int (by unfold signlessI; repeat' split <;> omega), rfl⟩
  · have g1 : inB n (-549755813888) 549755813887 = true := inB_true (by omega) (by omega)
    have h1a : -549755813888 ≤ n := by omega
    have h1b : n ≤ 549755813887 := by omega
    clear h1
    by_cases h3 : 0 ≤ n
    · go_enter Try.func55, Try.ntmps55
      go_wp2_with (go_at_call 21; refine (l01In_any _ _ _ _).mono ?_; rintro e w' ⟨rfl, rfl⟩)
      go_ret
      exact ⟨ret_int (by unfold signlessI; repeat' split <;> omega), rfl⟩
    · go_enter Try.func55, Try.ntmps55
      go_wp2_with (go_at_call 21; refine (l01In_any _ _ _ _).mono ?_; rintro e w' ⟨rfl, rfl⟩)
      go_ret
      exact ⟨ret_int (by unfold signlessI; repeat' split <;> omega), rfl⟩
def signedI (n : Int) : Int := if n < 0 ∨ 1099511627775 < n then 0 else if n % 2 = 1 then -((n + 1) / 2) else n / 2
theorem signed_impl (n : Int) (w : World) :
    Calls Try.prog 81 #[.int .i64 n] w fun e w' => e = .returned (.int .i64 (signedI n)) ∧ w = w' := by
  by_cases h1 : n < 0
  · have g1 : decide (n < 0) = true := by simpa using h1
    go_enter Try.func81, Try.ntmps81
    go_wp2
    go_ret
    exact ⟨ret_int (by unfold signedI; repeat' split <;> omega), rfl⟩
  · have g1 : decide (n < 0) = false := by simpa using h1
    by_cases h2 : 1099511627775 < n
    · have g2 : decide (1099511627775 < n) = true := by simpa using h2
      go_enter Try.func81, Try.ntmps81
      go_wp2
      go_ret
      exact ⟨ret_int (by unfold signedI; repeat' split <;> omega), rfl⟩
    · have g2 : decide (1099511627775 < n) = false := by simpa using h2
      go_enter Try.func81, Try.ntmps81
      go_wp2
      · have h3 : (n % 2 != 0) = true := by assumption
        have h4 : ¬ n % 2 = 0 := by simpa using h3
        go_ret
        refine ⟨ret_int ?_, rfl⟩
        have e : wrap64 (-(n + 1).tdiv 2) = -(n + 1) / 2 := by
          have : (n + 1).tdiv 2 = (n + 1) / 2 := Int.tdiv_eq_ediv_of_nonneg (by omega)
          rw [IntWalk.wrap64_in] <;> omega
        rw [e]; unfold signedI; rw [if_neg (by omega), if_pos (by omega)]; omega
      · have h3 : (n % 2 != 0) = false := by assumption
        have h4 : n % 2 = 0 := by simpa using h3
        go_ret
        exact ⟨ret_int (by unfold signedI; rw [if_neg (by omega), if_neg (by omega)]), rfl⟩
theorem signed_spec (n : Int) (w : World) :
    Calls Try.prog 66 #[.int .i64 n] w fun e w' => e = .returned (.int .i64 (signedI n)) ∧ w = w' := by
  by_cases h1 : n < 0 ∨ 1099511627775 < n
  · have g1 := inB_false h1
    go_enter Try.func66, Try.ntmps66
    go_wp2_with (go_at_call 21; refine (l01In_any _ _ _ _).mono ?_; rintro e w' ⟨rfl, rfl⟩)
    go_ret
    exact ⟨ret_int (by unfold signedI; repeat' split <;> omega), rfl⟩
  · have g1 : inB n 0 1099511627775 = true := inB_true (by omega) (by omega)
    have h1a : 0 ≤ n := by omega
    have h1b : n ≤ 1099511627775 := by omega
    clear h1
    go_enter Try.func66, Try.ntmps66
    go_wp2_with (go_at_call 21; refine (l01In_any _ _ _ _).mono ?_; rintro e w' ⟨rfl, rfl⟩)
    · have h3 : (bits BinOp.and IntKind.i64 n 1 == 1) = true := by assumption
      have h4 : n % 2 = 1 := by rw [i64_and1 n (by omega) (by omega)] at h3; simpa using h3
      go_ret
      refine ⟨ret_int ?_, rfl⟩
      have e : wrap64 (-(n + 1).tdiv 2) = -(n + 1) / 2 := by
        have : (n + 1).tdiv 2 = (n + 1) / 2 := Int.tdiv_eq_ediv_of_nonneg (by omega)
        rw [IntWalk.wrap64_in] <;> omega
      rw [e]; unfold signedI; rw [if_neg (by omega), if_pos (by omega)]; omega
    · have h3 : (bits BinOp.and IntKind.i64 n 1 == 1) = false := by assumption
      have h4 : ¬ n % 2 = 1 := by rw [i64_and1 n (by omega) (by omega)] at h3; simpa using h3
      go_ret
      exact ⟨ret_int (by unfold signedI; rw [if_neg (by omega), if_neg (by omega)]), rfl⟩
end Go.Proofs.Ytecimgennncjkaa
