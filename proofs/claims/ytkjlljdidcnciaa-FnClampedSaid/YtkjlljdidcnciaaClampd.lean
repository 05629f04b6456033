/-
  The law FnClamped: its draw, and its walk. At most maxLen drawn bytes, as every slice has.
-/
import Derived.Test.YtkjlljdidcnciaaDraw
namespace Go.Proofs.Ytkjlljdidcnciaa
open Go.RowKit
set_option linter.all false

def ThreeInts (w : World) (e : Ending) (w' : World) : Prop := ∃ n a b : Int, (-9223372036854775808 ≤ n ∧ n ≤ 9223372036854775807) ∧ (-9223372036854775808 ≤ a ∧ a ≤ 9223372036854775807) ∧ (-9223372036854775808 ≤ b ∧ b ≤ 9223372036854775807) ∧ e = .returned (.tuple #[.int .i64 n, .int .i64 a, .int .i64 b]) ∧ Below w.heap.size w w'
theorem grown_below {B : Nat} {w w' : World} {c : Nat} (hg : w.grownBy w' (some c)) (hB : B ≤ c) (hs : B ≤ w.heap.size) : Below B w w' := (Below.refl B w).grown hg hs fun k hk => by injection hk with hk; omega
set_option maxHeartbeats 1000000 in
theorem drawClamp_any {w : World} {v : Value} {len : Nat} (hrd : RdC w v len) (hl : len ≤ 1048576) :
    Calls Try.prog 22 #[v] w (ThreeInts w) := by
  have hrd' := hrd
  obtain ⟨a, cap, rfl, _⟩ := hrd
  go_enter Try.func22, Try.ntmps22
  go_wp2_with (fail)
  refine (new_any hrd' hl).mono ?_
  intro e w1 hm
  have cur1 := hm.cur hrd'
  obtain ⟨h, rfl, rfl⟩ := hm
  generalize hW : w.alloc (.cells #[.slice a len cap, .int .i64 0, .int .i64 h] 79) = w1 at *
  have hb1 : Below w.heap.size w w1 := by rw [← hW]; exact (Below.refl _ _).alloc (Nat.le_refl _) _
  clear hW
  have hs1 := hb1.size
  go_wp2_with (fail)
  refine (once_any cur1 hl _ (by omega)).mono ?_
  rintro e w2 ⟨c, rfl, cur2, g2⟩
  have hb2 := hb1.trans (grown_below g2 (Nat.le_refl _) hs1)
  have hs2 := hb2.size
  cases c with
  | true =>
    go_wp2_with (fail)
    refine (number_any cur2 hl).mono ?_
    rintro e w3 ⟨x, hx0, hx1, rfl, cur3, b3⟩
    go_wp2_with (fail)
    refine (number_any cur3 hl).mono ?_
    rintro e w4 ⟨y, hy0, hy1, rfl, cur4, b4⟩
    go_wp2_with (fail)
    refine (number_any cur4 hl).mono ?_
    rintro e w5 ⟨z, hz0, hz1, rfl, cur5, b5⟩
    go_wp2_with (fail)
    go_ret3
    exact ⟨x, y, z, ⟨hx0, hx1⟩, ⟨hy0, hy1⟩, ⟨hz0, hz1⟩, rfl, ((hb2.trans b3).trans b4).trans b5⟩
  | false =>
    go_wp2_with (fail)
    refine (below_any cur2 hl _ (by omega)).mono ?_
    rintro e w3 ⟨x, ⟨hx0, _, hx1⟩, rfl, cur3, g3⟩
    have hb3 := hb2.trans (grown_below g3 (Nat.le_refl _) hs2)
    have hs3 := hb3.size
    go_wp2_with (fail)
    refine (below_any cur3 hl _ (by omega)).mono ?_
    rintro e w4 ⟨y, ⟨hy0, _, hy1⟩, rfl, cur4, g4⟩
    have hb4 := hb3.trans (grown_below g4 (Nat.le_refl _) hs3)
    have hs4 := hb4.size
    go_wp2_with (fail)
    refine (below_any cur4 hl _ (by omega)).mono ?_
    rintro e w5 ⟨z, ⟨hz0, _, hz1⟩, rfl, cur5, g5⟩
    have hb5 := hb4.trans (grown_below g5 (Nat.le_refl _) hs4)
    go_wp2_with (fail)
    go_ret3
    exact ⟨_, _, _, ⟨by omega, by omega⟩, ⟨by omega, by omega⟩, ⟨by omega, by omega⟩, rfl, hb5⟩
theorem clamp735 : clampI 7 3 5 = 5 := by decide
set_option maxRecDepth 100000 in
set_option maxHeartbeats 1000000 in
theorem lawClamped (a : Option Addr) (len cap : Nat) (zs : List Int) (w : World) (hr : IsRow .u8 w a len cap zs) :
    Calls Try.prog 4 #[.slice a len cap] w fun e w' => e = .returned (.bool true) ∧ Below w.heap.size w w' := by
  obtain ⟨hrd, hl⟩ := RdC.of_row hr
  clear hr
  by_cases h : 1048576 < (len : Int)
  · have b1 : decide (1048576 < (len : Int)) = true := by simpa using h
    go_enter Try.func4, Try.ntmps4
    go_wp2_with (go_at_call 11; refine (big_any hrd hl).mono ?_; rintro e w' ⟨rfl, rfl⟩)
    go_ret
    exact ⟨rfl, Below.refl _ _⟩
  · have b1 : decide (1048576 < (len : Int)) = false := by simpa using h
    have C5 := Lib.hid clamp735
    go_enter Try.func4, Try.ntmps4
    go_wp2_with (go_at_call 11; refine (big_any hrd hl).mono ?_; rintro e w' ⟨rfl, rfl⟩)
    refine (drawClamp_any hrd (by omega)).mono ?_
    rintro e w1 ⟨n, lo, hi, hn, hlo, hhi, rfl, hb⟩
    by_cases h1 : hi < lo
    · have HC := Lib.hid (show clampI n lo hi = lo by unfold clampI; rw [if_pos (by omega)])
      have e1 : (lo == lo) = true := by simp
      go_wp2_with (first
        | (go_at_call_of 23 (Value.int .i64 n); refine (clamp_impl _ _ _ _).mono ?_; rintro e w' ⟨rfl, rfl⟩; rw [HC.out])
        | (go_at_call_of 23 (Value.int .i64 7); refine (clamp_impl _ _ _ _).mono ?_; rintro e w' ⟨rfl, rfl⟩; rw [C5.out]))
      go_ret
      exact ⟨rfl, hb⟩
    · have k1 : lo ≤ clampI n lo hi := by unfold clampI; repeat' split <;> omega
      have k2 : clampI n lo hi ≤ hi := by unfold clampI; repeat' split <;> omega
      have k3 : clampI (clampI n lo hi) lo hi = clampI n lo hi := by
        generalize clampI n lo hi = x at *
        unfold clampI; repeat' split <;> omega
      have k4 : lo ≤ n → n ≤ hi → clampI n lo hi = n := by intro p q; unfold clampI; repeat' split <;> omega
      by_cases h2 : n < lo
      · generalize hx : clampI n lo hi = x at *
        have HX := Lib.hid hx
        have K3 := Lib.hid k3
        clear hx k3 k4
        have d1 : decide (lo ≤ x) = true := by simpa using k1
        have d2 : decide (x ≤ hi) = true := by simpa using k2
        have d3 : decide (n < lo) = true := by simpa using h2
        go_wp2_with (first
          | (go_at_call_of 23 (Value.int .i64 n); refine (clamp_impl _ _ _ _).mono ?_; rintro e w' ⟨rfl, rfl⟩; rw [HX.out])
          | (go_at_call_of 23 (Value.int .i64 x); refine (clamp_impl _ _ _ _).mono ?_; rintro e w' ⟨rfl, rfl⟩; rw [K3.out])
          | (go_at_call_of 23 (Value.int .i64 7); refine (clamp_impl _ _ _ _).mono ?_; rintro e w' ⟨rfl, rfl⟩; rw [C5.out]))
        go_ret
        exact ⟨rfl, hb⟩
      · by_cases h3 : hi < n
        · generalize hx : clampI n lo hi = x at *
          have HX := Lib.hid hx
          have K3 := Lib.hid k3
          clear hx k3 k4
          have d1 : decide (lo ≤ x) = true := by simpa using k1
          have d2 : decide (x ≤ hi) = true := by simpa using k2
          have d3 : decide (n < lo) = false := by simpa using h2
          have d4 : decide (hi < n) = true := by simpa using h3
          go_wp2_with (first
            | (go_at_call_of 23 (Value.int .i64 n); refine (clamp_impl _ _ _ _).mono ?_; rintro e w' ⟨rfl, rfl⟩; rw [HX.out])
            | (go_at_call_of 23 (Value.int .i64 x); refine (clamp_impl _ _ _ _).mono ?_; rintro e w' ⟨rfl, rfl⟩; rw [K3.out])
            | (go_at_call_of 23 (Value.int .i64 7); refine (clamp_impl _ _ _ _).mono ?_; rintro e w' ⟨rfl, rfl⟩; rw [C5.out]))
          go_ret
          exact ⟨rfl, hb⟩
        · have HX := Lib.hid (k4 (by omega) (by omega))
          clear k1 k2 k3 k4
          have d1 : decide (lo ≤ n) = true := by simp; omega
          have d2 : decide (n ≤ hi) = true := by simp; omega
          have d3 : decide (n < lo) = false := by simpa using h2
          have d4 : decide (hi < n) = false := by simpa using h3
          have d5 : (n == n) = true := by simp
          go_wp2_with (first
            | (go_at_call_of 23 (Value.int .i64 n); refine (clamp_impl _ _ _ _).mono ?_; rintro e w' ⟨rfl, rfl⟩; rw [HX.out])
            | (go_at_call_of 23 (Value.int .i64 7); refine (clamp_impl _ _ _ _).mono ?_; rintro e w' ⟨rfl, rfl⟩; rw [C5.out]))
          go_ret
          exact ⟨rfl, hb⟩
end Go.Proofs.Ytkjlljdidcnciaa
