/-
  The laws' helper get: the element of a list of ints.
-/
import Derived.Test.YtlffkcmbeolohaaLst
import Derived.Test.YtlffkcmbeolohaaRow
namespace Go.Proofs.Ytlffkcmbeolohaa
open Go.RowKit
set_option linter.all false
/-- A row of rows of ints: the cell and the row at k. -/
theorem RdR.at {w : World} {v : Value} {X : Rowi} (h : RdR w v X) {k : Nat} (hk : k < X.length) : ∃ b off cap u, v = .slice (some ⟨b, off, none⟩) X.length cap ∧ w.cell? ⟨b, off + k, none⟩ = some u ∧ RdI w u X[k] := by
  obtain ⟨a, cap, rfl, h⟩ := h
  obtain ⟨b, off, rfl, hc⟩ := h.resolve_left (by intro e; rw [e] at hk; simp at hk)
  obtain ⟨u, c, r⟩ := hc k hk
  exact ⟨b, off, cap, u, rfl, c, r⟩
theorem get_any {w : World} {v : Value} {xs : List Int} (h : RdI w v xs) (hs : xs.length ≤ 9223372036854775807) (k : Nat) (hk : k < xs.length) :
    Calls Try.prog 9 #[v, .int .i64 (k : Int)] w fun e w' => e = .returned (.int .i64 xs[k]) ∧ w = w' := by
  obtain ⟨a, cap, rfl, h⟩ := h
  obtain ⟨b, off, rfl, hc⟩ := h.resolve_left (by intro e; rw [e] at hk; simp at hk)
  have c1 := hc k hk
  have hlc : (xs.length : Int) ≤ 9223372036854775807 := by omega
  have hkk : (k : Int) < (xs.length : Int) := by omega
  have z0 : decide ((k : Int) < 0) = false := by simp
  have z1 : decide ((xs.length : Int) ≤ (k : Int)) = false := by simp; omega
  generalize xs[k] = x at *
  clear hc h
  go_enter Try.func9, Try.ntmps9
  go_wp2_with (fail)
  go_ret
  exact ⟨rfl, rfl⟩
end Go.Proofs.Ytlffkcmbeolohaa
