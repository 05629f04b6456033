/-
  Chance and SpoilByte of the program and of the model; their laws. Strings of at most 2^46 bytes.
-/
import Derived.Test.YteafgghpkohfpaaInts
import Derived.Test.YteafgghpkohfpaaXor
import Derived.Test.YteafgghpkohfpaaFault
namespace Go.Proofs.Yteafgghpkohfpaa
open Go.RowKit
set_option linter.all false
def chanceR (s p : Int) : Int × Bool := ((belowR s 100).1, decide ((belowR s 100).2 < p))
theorem chance_impl (s p : Int) (w : World) : Calls Try.prog 16 #[.int .i64 s, .int .i64 p] w fun e w' => e = .returned (.tuple #[.int .i64 (chanceR s p).1, .bool (chanceR s p).2]) ∧ ∃ k, w' = w.drewN k := by
  unfold chanceR
  have hC := fun W => below_impl s 100 W
  generalize belowR s 100 = r at *
  go_enter Try.func16, Try.ntmps16
  go_wp2_with (go_at_call 55; refine (hC _).mono ?_; rintro e w1 ⟨rfl, n1, rfl⟩)
  go_ret2
  exact ⟨rfl, _, rfl⟩
theorem chance_spec (s p : Int) (w : World) : Calls Try.prog 15 #[.int .i64 s, .int .i64 p] w fun e w' => e = .returned (.tuple #[.int .i64 (chanceR s p).1, .bool (chanceR s p).2]) ∧ ∃ k, w' = w.drewN k := by
  unfold chanceR
  have hC := fun W => below_spec s 100 W
  generalize belowR s 100 = r at *
  go_enter Try.func15, Try.ntmps15
  go_wp2_with (go_at_call 54; refine (hC _).mono ?_; rintro e w1 ⟨rfl, n1, rfl⟩)
  go_ret2
  exact ⟨rfl, _, rfl⟩
theorem lawChance (a : Int) (wa : (Lit.int .i64 a).wf = true) (b : Int) (wb : (Lit.int .i64 b).wf = true) (w : World) :
    Calls Try.prog 3 #[.int .i64 a, .int .i64 b] w fun e w' => e = .returned (.bool true) ∧ Below w.heap.size w w' := by
  have hS := fun W => chance_spec a b W
  have hI := fun W => chance_impl a b W
  generalize chanceR a b = r at *
  obtain ⟨r1, r2⟩ := r
  cases r2
  all_goals
    go_enter Try.func3, Try.ntmps3
    go_wp2_with (first
      | (go_at_call 15; refine (hS _).mono ?_; rintro e w' ⟨rfl, n1, rfl⟩)
      | (go_at_call 16; refine (hI _).mono ?_; rintro e w' ⟨rfl, n2, rfl⟩))
    go_ret
    exact ⟨rfl, below_drewN (Below.refl _ _) _⟩
/-- The seed behind the two random numbers of SpoilByte, and the text with its one byte changed. -/
def spoilS (s : Int) (l : List UInt8) : Int := (belowR (belowR s l.length).1 255).1
def spoilL (s : Int) (l : List UInt8) : List UInt8 :=
  l.set (belowR s l.length).2.toNat ((l.getD (belowR s l.length).2.toNat 0) ^^^ UInt8.ofNat ((belowR (belowR s l.length).1 255).2.toNat + 1))
def spoilB (s : Int) (l : List UInt8) : Bool := inR s 0 65535 && inR (l.length : Int) 1 4096
def spoilR (s : Int) (l : List UInt8) : Int × List UInt8 := if spoilB s l = true then (spoilS s l, spoilL s l) else (s, l)
theorem belowR_facts {s n : Int} (h1 : 1 ≤ n) (h2 : n ≤ 4096) : 0 ≤ (belowR s n).1 ∧ (belowR s n).1 ≤ 65535 ∧ 0 ≤ (belowR s n).2 ∧ (belowR s n).2 < n := by
  unfold belowR
  split
  · exact ⟨by simp, by simp, by simp, by simp; omega⟩
  · have := nextR_bd s
    refine ⟨this.1, this.2, ?_, ?_⟩
    · exact Int.emod_nonneg _ (by omega)
    · exact Int.emod_lt_of_pos _ (by omega)
theorem spoilL_len (s : Int) (l : List UInt8) : (spoilL s l).length = l.length := by unfold spoilL; simp
theorem sendable_any (l : List UInt8) (w : World) (hl : l.length ≤ 9223372036854775807) : Calls Try.prog 58 #[.string ⟨l.toArray⟩] w fun e w' => e = .returned (.bool (inR (l.length : Int) 1 4096)) ∧ w = w' := by
  go_enter Try.func58, Try.ntmps58
  go_wp2_with (fail)
  refine (within_impl _ _ _ _).mono ?_
  rintro e w1 ⟨rfl, rfl⟩
  go_wp2_with (fail)
  go_ret
  exact ⟨rfl, rfl⟩
end Go.Proofs.Yteafgghpkohfpaa
