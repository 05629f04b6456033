/-
  Texts of this proof: Base, Pure, Ints, Code.
-/
import Derived.Test.YtdnnejohfhmliaaDoorChecked
import Derived.WalkKit
import Derived.Lib.Hide
import Derived.Deep.QuietTactic
import Derived.BigQuiet
import Derived.WalkSmall
import Derived.OpenShut
import Derived.Deep.RegionWith
namespace Go.Proofs.YtdnnejohfhmliaaDoor
open Go.RowKit

def IsRow (k : IntKind) (w : World) (a : Option Addr) (len cap : Nat) (zs : List Int) : Prop :=
  (a = none ∧ len = 0 ∧ cap = 0 ∧ zs = []) ∨
  ∃ x, a = some x ∧ len ≤ cap ∧ cap ≤ maxLen ∧ zs.length = cap ∧ (∀ i, i < zs.length → w.cell? (x.add i) = some (.int k (zs.getD i 0))) ∧ ∀ n ∈ zs, (Lit.int k n).wf = true

theorem ret_int {k : IntKind} {a b : Int} (h : a = b) : Ending.returned (.int k a) = .returned (.int k b) := by rw [h]

theorem ofInt_i64 (a : Nat) (ha : a < 9223372036854775808) : (BitVec.ofInt 64 (a : Int)).toNat = a := by
  rw [BitVec.ofInt_natCast, BitVec.toNat_ofNat]; exact Nat.mod_eq_of_lt (by omega)
theorem i64_and_nat (a b : Nat) (ha : a < 9223372036854775808) (hb : b < 9223372036854775808) : bits .and .i64 (a : Int) (b : Int) = ((a &&& b : Nat) : Int) := by
  have hx : a &&& b < 2 ^ 63 := Nat.and_lt_two_pow _ (by omega)
  show IntKind.i64.wrap ((BitVec.ofInt 64 (a : Int) &&& BitVec.ofInt 64 (b : Int)).toNat : Int) = _
  rw [BitVec.toNat_and, ofInt_i64 a ha, ofInt_i64 b hb, IntKind.wrap_i64]
  omega
theorem i64_and65535 (n : Int) (h0 : 0 ≤ n) (h1 : n ≤ 9223372036854775807) : bits .and .i64 n 65535 = n % 65536 := by
  obtain ⟨a, rfl⟩ := Int.eq_ofNat_of_zero_le h0
  have := i64_and_nat a 65535 (by omega) (by omega)
  rw [show ((65535 : Nat) : Int) = 65535 from rfl] at this
  rw [this, nat_mask16]; omega
end Go.Proofs.YtdnnejohfhmliaaDoor
namespace Go.Proofs.YtdnnejohfhmliaaDoor
open Go.RowKit
set_option linter.all false

end Go.Proofs.YtdnnejohfhmliaaDoor
namespace Go.Proofs.YtdnnejohfhmliaaDoor
open Go.RowKit
set_option linter.all false

def nextR (n : Int) : Int := if n < 0 ∨ 65535 < n then 0 else (n * 25173 + 13849) % 65536
def belowR (s n : Int) : Int × Int := if s < 0 ∨ 65535 < s ∨ n < 1 ∨ 4096 < n then (0, 0) else (nextR s, nextR s / 16 % n)
theorem nextR_bd (s : Int) : 0 ≤ nextR s ∧ nextR s ≤ 65535 := by unfold nextR; split <;> omega
def inB (x lo hi : Int) : Bool := decide (lo ≤ x ∧ x ≤ hi)
theorem l01In_any (x lo hi : Int) (w : World) :
    Calls Tryd.prog 73 #[.int .i64 x, .int .i64 lo, .int .i64 hi] w fun e w' => e = .returned (.bool (inB x lo hi)) ∧ w = w' := by
  by_cases h1 : lo ≤ x
  · have g1 : decide (lo ≤ x) = true := by simpa using h1
    go_enter Tryd.func73, Tryd.ntmps73
    go_wp2
    go_ret
    exact ⟨by simp [inB, h1], rfl⟩
  · have g1 : decide (lo ≤ x) = false := by simpa using h1
    go_enter Tryd.func73, Tryd.ntmps73
    go_wp2
    go_ret
    exact ⟨by simp [inB]; omega, rfl⟩
theorem inB_true {x lo hi : Int} (h1 : lo ≤ x) (h2 : x ≤ hi) : inB x lo hi = true := by simp [inB, h1, h2]
theorem inB_false {x lo hi : Int} (h : x < lo ∨ hi < x) : inB x lo hi = false := by simp [inB]; omega
theorem next_spec (n : Int) (w : World) :
    Calls Tryd.prog 80 #[.int .i64 n] w fun e w' => e = .returned (.int .i64 (nextR n)) ∧ w = w' := by
  by_cases h1 : n < 0 ∨ 65535 < n
  · have g1 := inB_false h1
    go_enter Tryd.func80, Tryd.ntmps80
    go_wp2_with (go_at_call 73; refine (l01In_any _ _ _ _).mono ?_; rintro e w' ⟨rfl, rfl⟩)
    go_ret
    exact ⟨ret_int (by unfold nextR; rw [if_pos h1]), rfl⟩
  · have g1 : inB n 0 65535 = true := inB_true (by omega) (by omega)
    have h1a : 0 ≤ n := by omega
    have h1b : n ≤ 65535 := by omega
    have H := Lib.hid h1; clear h1
    go_enter Tryd.func80, Tryd.ntmps80
    go_wp2_with (go_at_call 73; refine (l01In_any _ _ _ _).mono ?_; rintro e w' ⟨rfl, rfl⟩)
    go_ret
    exact ⟨ret_int (by rw [i64_and65535 _ (by omega) (by omega)]; unfold nextR; rw [if_neg H.out]), rfl⟩
theorem below_spec (s n : Int) (w : World) :
    Calls Tryd.prog 82 #[.int .i64 s, .int .i64 n] w fun e w' => e = .returned (.tuple #[.int .i64 (belowR s n).1, .int .i64 (belowR s n).2]) ∧ ∃ k, w' = w.drewN k := by
  by_cases h1 : s < 0 ∨ 65535 < s
  · have g1 := inB_false h1
    have g1' : (!inB s 0 65535) = true := by rw [g1]; rfl
    have hf : belowR s n = (0, 0) := by unfold belowR; rw [if_pos (by omega)]
    have HF := Lib.hid hf; clear hf
    go_enter Tryd.func82, Tryd.ntmps82
    go_wp2_with (go_at_call 73; refine (l01In_any _ _ _ _).mono ?_; rintro e w' ⟨rfl, rfl⟩)
    go_ret2
    exact ⟨by rw [HF.out]; rfl, 0, rfl⟩
  · have g1 : inB s 0 65535 = true := inB_true (by omega) (by omega)
    by_cases h2 : n < 1 ∨ 4096 < n
    · have g2 := inB_false h2
      have hf : belowR s n = (0, 0) := by unfold belowR; rw [if_pos (by omega)]
      have HF := Lib.hid hf; clear hf h1 h2
      go_enter Tryd.func82, Tryd.ntmps82
      go_wp2_with (go_at_call 73; refine (l01In_any _ _ _ _).mono ?_; rintro e w' ⟨rfl, rfl⟩)
      go_ret2
      exact ⟨by rw [HF.out]; rfl, 0, rfl⟩
    · have g2 : inB n 1 4096 = true := inB_true (by omega) (by omega)
      have hf : belowR s n = (nextR s, nextR s / 16 % n) := by unfold belowR; rw [if_neg (by omega)]
      have HF := Lib.hid hf; clear hf
      have hb := (nextR_bd s).1
      have hb2 := (nextR_bd s).2
      have hn1 : 1 ≤ n := by omega
      have hn2 : n ≤ 4096 := by omega
      have hz : (n == 0) = false := by simp; omega
      clear h1 h2
      go_enter Tryd.func82, Tryd.ntmps82
      go_wp2_with (first
        | (go_at_call 73; refine (l01In_any _ _ _ _).mono ?_; rintro e w' ⟨rfl, rfl⟩)
        | (go_at_call 80; refine (next_spec _ _).mono ?_; rintro e w' ⟨rfl, rfl⟩))
      go_quiet (fail)
      go_wp2
      go_ret2
      exact ⟨by rw [HF.out]; rfl, _, rfl⟩
end Go.Proofs.YtdnnejohfhmliaaDoor
namespace Go.Proofs.YtdnnejohfhmliaaDoor
open Go.RowKit
set_option linter.all false

def RdC (w : World) (v : Value) (len : Nat) : Prop :=
  ∃ a cap, v = .slice a len cap ∧ (len = 0 ∨ ∃ b off, a = some ⟨b, off, none⟩ ∧ ∀ j, j < len → ∃ x : Nat, x ≤ 255 ∧ w.cell? ⟨b, off + j, none⟩ = some (.int .u8 (x : Int)))
theorem RdC.of_row {w : World} {a : Option Addr} {len cap : Nat} {zs : List Int} (h : IsRow .u8 w a len cap zs) : RdC w (.slice a len cap) len ∧ len ≤ 9223372036854775807 := by
  rcases h with ⟨rfl, rfl, rfl, rfl⟩ | ⟨x, rfl, hl, hm, hz, hc, hw⟩
  · exact ⟨⟨none, 0, rfl, .inl rfl⟩, by omega⟩
  · unfold maxLen at hm
    refine ⟨⟨some x, cap, rfl, ?_⟩, by omega⟩
    by_cases h0 : len = 0
    · exact .inl h0
    · obtain ⟨b, off, spot⟩ := x
      have hc0 := hc 0 (by omega)
      have hspot : spot = none := by simpa [Addr.add] using World.cell?_spot hc0
      subst hspot
      refine .inr ⟨b, off, rfl, fun j hj => ?_⟩
      have := hc j (by omega)
      rw [show (⟨b, off, none⟩ : Addr).add j = ⟨b, off + j, none⟩ by unfold Addr.add; split <;> simp_all] at this
      have hb := bounds_u8 (hw (zs.getD j 0) (by rw [List.getD_eq_getElem?_getD, List.getElem?_eq_getElem (by omega)]; exact List.getElem_mem _))
      exact ⟨(zs.getD j 0).toNat, by omega, by rw [this, Int.toNat_of_nonneg hb.1]⟩
theorem RdC.keep {w w' : World} {v : Value} {len : Nat} (h : RdC w v len) (hb : Below w.heap.size w w') : RdC w' v len := by
  obtain ⟨a, cap, hv, h⟩ := h
  refine ⟨a, cap, hv, ?_⟩
  rcases h with h | ⟨b, off, ha, hr⟩
  · exact .inl h
  · refine .inr ⟨b, off, ha, fun j hj => ?_⟩
    obtain ⟨x, hx, hc⟩ := hr j hj
    exact ⟨x, hx, by rw [← hc]; exact hb.cell (World.block_lt_of_cell? w _ hc)⟩
theorem big_any {w : World} {v : Value} {len : Nat} (h : RdC w v len) (hl : len ≤ 9223372036854775807) :
    Calls Tryd.prog 7 #[v] w fun e w' => e = .returned (.bool (decide (1048576 < (len : Int)))) ∧ w = w' := by
  obtain ⟨a, cap, rfl, _⟩ := h
  go_enter Tryd.func7, Tryd.ntmps7
  go_wp2
  go_ret
  exact ⟨rfl, rfl⟩
def SomeByte (w : World) (e : Ending) (w' : World) : Prop := ∃ x : Nat, x ≤ 255 ∧ e = .returned (.int .i64 (x : Int)) ∧ w = w'
theorem at_any {w : World} {v : Value} {len : Nat} (h : RdC w v len) (hl : len ≤ 9223372036854775807) (i : Int) (h0 : 0 ≤ i) (h1 : i ≤ 1000000) :
    Calls Tryd.prog 10 #[v, .int .i64 i] w (SomeByte w) := by
  obtain ⟨a, cap, rfl, h⟩ := h
  by_cases h2 : len = 0
  · subst h2
    go_enter Tryd.func10, Tryd.ntmps10
    go_wp2
    go_ret
    exact ⟨0, by omega, rfl, rfl⟩
  · obtain ⟨b, off, rfl, hc⟩ := h.resolve_left h2
    have hz : ((len : Int) == 0) = false := by simp; omega
    obtain ⟨j, hj⟩ : ∃ j : Nat, (j : Int) = (i * 5 + 1) % (len : Int) := ⟨((i * 5 + 1) % (len : Int)).toNat, Int.toNat_of_nonneg (Int.emod_nonneg _ (by omega))⟩
    have hjl : j < len := by have := Int.emod_lt_of_pos (i * 5 + 1) (show 0 < (len : Int) by omega); omega
    obtain ⟨x, hx, hcx⟩ := hc j hjl
    have hm : IntKind.i64.wrap ((i * 5 + 1).tmod (len : Int)) = (j : Int) := by
      rw [Int.tmod_eq_emod_of_nonneg (by omega), ← hj]
      exact IntWalk.i64_in _ (by omega)
    have hpos : 0 < (len : Int) := by omega
    have HM := Lib.hid hm
    have hj' : (i * 5 + 1) % (len : Int) = (j : Int) := hj.symm
    clear hc h hm hj h2
    go_enter Tryd.func10, Tryd.ntmps10
    go_wp2
    go_ret
    exact ⟨x, hx, rfl, rfl⟩
end Go.Proofs.YtdnnejohfhmliaaDoor
