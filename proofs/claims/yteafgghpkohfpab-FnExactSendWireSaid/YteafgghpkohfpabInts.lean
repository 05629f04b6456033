/-
  Contracts of the functions over plain integers, and their laws' walks. No condition.
-/
import Derived.Test.YteafgghpkohfpabBase
namespace Go.Proofs.Yteafgghpkohfpab
open Go.RowKit
set_option linter.all false

def inB (x lo hi : Int) : Bool := decide (lo ≤ x ∧ x ≤ hi)
theorem l01In_any (x lo hi : Int) (w : World) :
    Calls Try.prog 57 #[.int .i64 x, .int .i64 lo, .int .i64 hi] w fun e w' => e = .returned (.bool (inB x lo hi)) ∧ w = w' := by
  by_cases h1 : lo ≤ x
  · have g1 : decide (lo ≤ x) = true := by simpa using h1
    go_enter Try.func57, Try.ntmps57
    go_wp2
    go_ret
    exact ⟨by simp [inB, h1], rfl⟩
  · have g1 : decide (lo ≤ x) = false := by simpa using h1
    go_enter Try.func57, Try.ntmps57
    go_wp2
    go_ret
    exact ⟨by simp [inB]; omega, rfl⟩
theorem inB_true {x lo hi : Int} (h1 : lo ≤ x) (h2 : x ≤ hi) : inB x lo hi = true := by simp [inB, h1, h2]
theorem inB_false {x lo hi : Int} (h : x < lo ∨ hi < x) : inB x lo hi = false := by simp [inB]; omega
def nextR (n : Int) : Int := if n < 0 ∨ 65535 < n then 0 else (n * 25173 + 13849) % 65536
theorem next_impl (n : Int) (w : World) :
    Calls Try.prog 98 #[.int .i64 n] w fun e w' => e = .returned (.int .i64 (nextR n)) ∧ w = w' := by
  by_cases h1 : n < 0
  · have g1 : decide (n < 0) = true := by simpa using h1
    go_enter Try.func98, Try.ntmps98
    go_wp2
    go_ret
    exact ⟨ret_int (by unfold nextR; repeat' split <;> omega), rfl⟩
  · have g1 : decide (n < 0) = false := by simpa using h1
    by_cases h2 : 65535 < n
    · have g2 : decide (65535 < n) = true := by simpa using h2
      go_enter Try.func98, Try.ntmps98
      go_wp2
      go_ret
      exact ⟨ret_int (by unfold nextR; repeat' split <;> omega), rfl⟩
    · have g2 : decide (65535 < n) = false := by simpa using h2
      go_enter Try.func98, Try.ntmps98
      go_wp2
      go_ret
      exact ⟨ret_int (by unfold nextR; repeat' split <;> omega), rfl⟩
theorem next_spec (n : Int) (w : World) :
    Calls Try.prog 83 #[.int .i64 n] w fun e w' => e = .returned (.int .i64 (nextR n)) ∧ w = w' := by
  by_cases h1 : n < 0 ∨ 65535 < n
  · have g1 := inB_false h1
    go_enter Try.func83, Try.ntmps83
    go_wp2_with (go_at_call 57; refine (l01In_any _ _ _ _).mono ?_; rintro e w' ⟨rfl, rfl⟩)
    go_ret
    exact ⟨ret_int (by unfold nextR; rw [if_pos h1]), rfl⟩
  · have g1 : inB n 0 65535 = true := inB_true (by omega) (by omega)
    have h1a : 0 ≤ n := by omega
    have h1b : n ≤ 65535 := by omega
    have H := Lib.hid h1; clear h1
    go_enter Try.func83, Try.ntmps83
    go_wp2_with (go_at_call 57; refine (l01In_any _ _ _ _).mono ?_; rintro e w' ⟨rfl, rfl⟩)
    go_ret
    exact ⟨ret_int (by rw [i64_and65535 _ (by omega) (by omega)]; unfold nextR; rw [if_neg H.out]), rfl⟩
def belowR (s n : Int) : Int × Int := if s < 0 ∨ 65535 < s ∨ n < 1 ∨ 4096 < n then (0, 0) else (nextR s, nextR s / 16 % n)
theorem nextR_bd (s : Int) : 0 ≤ nextR s ∧ nextR s ≤ 65535 := by unfold nextR; split <;> omega
theorem below_impl (s n : Int) (w : World) :
    Calls Try.prog 89 #[.int .i64 s, .int .i64 n] w fun e w' => e = .returned (.tuple #[.int .i64 (belowR s n).1, .int .i64 (belowR s n).2]) ∧ ∃ k, w' = w.drewN k := by
  by_cases h1 : s < 0
  · have g1 : decide (s < 0) = true := by simpa using h1
    have hf : belowR s n = (0, 0) := by unfold belowR; rw [if_pos (by omega)]
    have HF := Lib.hid hf; clear hf
    go_enter Try.func89, Try.ntmps89
    go_wp2
    go_ret2
    exact ⟨by rw [HF.out]; rfl, 0, rfl⟩
  · have g1 : decide (s < 0) = false := by simpa using h1
    by_cases h2 : 65535 < s
    · have g2 : decide (65535 < s) = true := by simpa using h2
      have hf : belowR s n = (0, 0) := by unfold belowR; rw [if_pos (by omega)]
      have HF := Lib.hid hf; clear hf
      go_enter Try.func89, Try.ntmps89
      go_wp2
      go_ret2
      exact ⟨by rw [HF.out]; rfl, 0, rfl⟩
    · have g2 : decide (65535 < s) = false := by simpa using h2
      by_cases h3 : n < 1
      · have g3 : decide (n < 1) = true := by simpa using h3
        have hf : belowR s n = (0, 0) := by unfold belowR; rw [if_pos (by omega)]
        have HF := Lib.hid hf; clear hf
        go_enter Try.func89, Try.ntmps89
        go_wp2
        go_ret2
        exact ⟨by rw [HF.out]; rfl, 0, rfl⟩
      · have g3 : decide (n < 1) = false := by simpa using h3
        by_cases h4 : 4096 < n
        · have g4 : decide (4096 < n) = true := by simpa using h4
          have hf : belowR s n = (0, 0) := by unfold belowR; rw [if_pos (by omega)]
          have HF := Lib.hid hf; clear hf
          go_enter Try.func89, Try.ntmps89
          go_wp2
          go_ret2
          exact ⟨by rw [HF.out]; rfl, 0, rfl⟩
        · have g4 : decide (4096 < n) = false := by simpa using h4
          have hf : belowR s n = (nextR s, nextR s / 16 % n) := by unfold belowR; rw [if_neg (by omega)]
          have HF := Lib.hid hf; clear hf
          have hb := (nextR_bd s).1
          have hb2 := (nextR_bd s).2
          have hz : (n == 0) = false := by simp; omega
          go_enter Try.func89, Try.ntmps89
          go_wp2_with (go_at_call 98; refine (next_impl _ _).mono ?_; rintro e w' ⟨rfl, rfl⟩)
          go_quiet (fail)
          go_wp2
          go_ret2
          exact ⟨by rw [HF.out]; rfl, _, rfl⟩
theorem below_spec (s n : Int) (w : World) :
    Calls Try.prog 59 #[.int .i64 s, .int .i64 n] w fun e w' => e = .returned (.tuple #[.int .i64 (belowR s n).1, .int .i64 (belowR s n).2]) ∧ ∃ k, w' = w.drewN k := by
  by_cases h1 : s < 0 ∨ 65535 < s
  · have g1 := inB_false h1
    have g1' : (!inB s 0 65535) = true := by rw [g1]; rfl
    have hf : belowR s n = (0, 0) := by unfold belowR; rw [if_pos (by omega)]
    have HF := Lib.hid hf; clear hf
    go_enter Try.func59, Try.ntmps59
    go_wp2_with (go_at_call 57; refine (l01In_any _ _ _ _).mono ?_; rintro e w' ⟨rfl, rfl⟩)
    go_ret2
    exact ⟨by rw [HF.out]; rfl, 0, rfl⟩
  · have g1 : inB s 0 65535 = true := inB_true (by omega) (by omega)
    by_cases h2 : n < 1 ∨ 4096 < n
    · have g2 := inB_false h2
      have hf : belowR s n = (0, 0) := by unfold belowR; rw [if_pos (by omega)]
      have HF := Lib.hid hf; clear hf h1 h2
      go_enter Try.func59, Try.ntmps59
      go_wp2_with (go_at_call 57; refine (l01In_any _ _ _ _).mono ?_; rintro e w' ⟨rfl, rfl⟩)
      go_ret2
      exact ⟨by rw [HF.out]; rfl, 0, rfl⟩
    · have g2 : inB n 1 4096 = true := inB_true (by omega) (by omega)
      have hf : belowR s n = (nextR s, nextR s / 16 % n) := by unfold belowR; rw [if_neg (by omega)]
      have HF := Lib.hid hf; clear hf
      have hb := (nextR_bd s).1
      have hb2 := (nextR_bd s).2
      have hn1 : 1 ≤ n := by omega
      have hn2 : n ≤ 4096 := by omega
      have hz : (n == 0) = false := by simp; omega
      clear h1 h2
      go_enter Try.func59, Try.ntmps59
      go_wp2_with (first
        | (go_at_call 57; refine (l01In_any _ _ _ _).mono ?_; rintro e w' ⟨rfl, rfl⟩)
        | (go_at_call 83; refine (next_spec _ _).mono ?_; rintro e w' ⟨rfl, rfl⟩))
      go_quiet (fail)
      go_wp2
      go_ret2
      exact ⟨by rw [HF.out]; rfl, _, rfl⟩
end Go.Proofs.Yteafgghpkohfpab
