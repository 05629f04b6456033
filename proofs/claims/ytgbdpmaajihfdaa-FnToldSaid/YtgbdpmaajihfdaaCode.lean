/-
  The laws' helpers over the drawn bytes: big, at. Slices of at most maxLen bytes, as every slice is.
-/
import Derived.Test.YtgbdpmaajihfdaaPure
import Derived.Test.YtgbdpmaajihfdaaInts
import Derived.Deep.RegionWith
namespace Go.Proofs.Ytgbdpmaajihfdaa
open Go.RowKit
set_option linter.all false

/-- The slice v reads as len bytes. -/
def RdC (w : World) (v : Value) (len : Nat) : Prop :=
  ∃ a cap, v = .slice a len cap ∧ (len = 0 ∨ ∃ b off, a = some ⟨b, off, none⟩ ∧ ∀ j, j < len → ∃ x : Nat, x ≤ 255 ∧ w.cell? ⟨b, off + j, none⟩ = some (.int .u8 (x : Int)))
theorem RdC.of_row {w : World} {a : Option Addr} {len cap : Nat} {zs : List Int} (h : IsRow .u8 w a len cap zs) : RdC w (.slice a len cap) len ∧ len ≤ 9223372036854775807 := by
  rcases h with ⟨rfl, rfl, rfl, rfl⟩ | ⟨x, rfl, hl, hm, hz, hc, hw⟩
  · exact ⟨⟨none, 0, rfl, .inl rfl⟩, by omega⟩
  · unfold maxLen at hm
    refine ⟨⟨some x, cap, rfl, ?_⟩, by omega⟩
    by_cases h0 : len = 0
    · exact .inl h0
    · obtain ⟨b, off, spot⟩ := x
      have hc0 := hc 0 (by omega)
      have hspot : spot = none := by simpa [Addr.add] using World.cell?_spot hc0
      subst hspot
      refine .inr ⟨b, off, rfl, fun j hj => ?_⟩
      have := hc j (by omega)
      rw [show (⟨b, off, none⟩ : Addr).add j = ⟨b, off + j, none⟩ by unfold Addr.add; split <;> simp_all] at this
      have hb := bounds_u8 (hw (zs.getD j 0) (by rw [List.getD_eq_getElem?_getD, List.getElem?_eq_getElem (by omega)]; exact List.getElem_mem _))
      exact ⟨(zs.getD j 0).toNat, by omega, by rw [this, Int.toNat_of_nonneg hb.1]⟩
theorem RdC.keep {w w' : World} {v : Value} {len : Nat} (h : RdC w v len) (hb : Below w.heap.size w w') : RdC w' v len := by
  obtain ⟨a, cap, hv, h⟩ := h
  refine ⟨a, cap, hv, ?_⟩
  rcases h with h | ⟨b, off, ha, hr⟩
  · exact .inl h
  · refine .inr ⟨b, off, ha, fun j hj => ?_⟩
    obtain ⟨x, hx, hc⟩ := hr j hj
    exact ⟨x, hx, by rw [← hc]; exact hb.cell (World.block_lt_of_cell? w _ hc)⟩
theorem big_any {w : World} {v : Value} {len : Nat} (h : RdC w v len) (hl : len ≤ 9223372036854775807) :
    Calls Try.prog 4 #[v] w fun e w' => e = .returned (.bool (decide (1048576 < (len : Int)))) ∧ w = w' := by
  obtain ⟨a, cap, rfl, _⟩ := h
  go_enter Try.func4, Try.ntmps4
  go_wp2
  go_ret
  exact ⟨rfl, rfl⟩
def SomeByte (w : World) (e : Ending) (w' : World) : Prop := ∃ x : Nat, x ≤ 255 ∧ e = .returned (.int .i64 (x : Int)) ∧ w = w'
theorem at_any {w : World} {v : Value} {len : Nat} (h : RdC w v len) (hl : len ≤ 9223372036854775807) (i : Int) (h0 : 0 ≤ i) (h1 : i ≤ 1000000) :
    Calls Try.prog 6 #[v, .int .i64 i] w (SomeByte w) := by
  obtain ⟨a, cap, rfl, h⟩ := h
  by_cases h2 : len = 0
  · subst h2
    go_enter Try.func6, Try.ntmps6
    go_wp2
    go_ret
    exact ⟨0, by omega, rfl, rfl⟩
  · obtain ⟨b, off, rfl, hc⟩ := h.resolve_left h2
    have hz : ((len : Int) == 0) = false := by simp; omega
    obtain ⟨j, hj⟩ : ∃ j : Nat, (j : Int) = (i * 5 + 1) % (len : Int) := ⟨((i * 5 + 1) % (len : Int)).toNat, Int.toNat_of_nonneg (Int.emod_nonneg _ (by omega))⟩
    have hjl : j < len := by have := Int.emod_lt_of_pos (i * 5 + 1) (show 0 < (len : Int) by omega); omega
    obtain ⟨x, hx, hcx⟩ := hc j hjl
    have hm : IntKind.i64.wrap ((i * 5 + 1).tmod (len : Int)) = (j : Int) := by
      rw [Int.tmod_eq_emod_of_nonneg (by omega), ← hj]
      exact IntWalk.i64_in _ (by omega)
    have hpos : 0 < (len : Int) := by omega
    have HM := Lib.hid hm
    have hj' : (i * 5 + 1) % (len : Int) = (j : Int) := hj.symm
    clear hc h hm hj h2
    go_enter Try.func6, Try.ntmps6
    go_wp2
    go_ret
    exact ⟨x, hx, rfl, rfl⟩
end Go.Proofs.Ytgbdpmaajihfdaa
