/-
  The drawn bytes by their values: at answers the same for the same index. Slices of at most maxLen bytes, as every slice is.
-/
import Derived.Test.YtikaiimafliceaaCode
namespace Go.Proofs.Ytikaiimafliceaa
open Go.RowKit
set_option linter.all false
/-- The slice v reads as len bytes, byte j being f j. -/
def RdF (w : World) (v : Value) (len : Nat) (f : Nat → Nat) : Prop :=
  (∀ j, f j ≤ 255) ∧ ∃ a cap, v = .slice a len cap ∧ (len = 0 ∨ ∃ b off, a = some ⟨b, off, none⟩ ∧ ∀ j, j < len → w.cell? ⟨b, off + j, none⟩ = some (.int .u8 (f j : Int)))
theorem RdC.some_f {w : World} {v : Value} {len : Nat} (h : RdC w v len) : ∃ f, RdF w v len f := by
  obtain ⟨a, cap, rfl, h⟩ := h
  by_cases h0 : len = 0
  · exact ⟨fun _ => 0, fun _ => Nat.zero_le _, a, cap, rfl, .inl h0⟩
  · obtain ⟨b, off, rfl, hr⟩ := h.resolve_left h0
    refine ⟨fun j => if hj : j < len then (hr j hj).choose else 0, fun j => ?_, some ⟨b, off, none⟩, cap, rfl, .inr ⟨b, off, rfl, fun j hj => ?_⟩⟩
    · dsimp only; split
      · rename_i hj; exact (hr j hj).choose_spec.1
      · exact Nat.zero_le _
    · have := (hr j hj).choose_spec.2
      simp only [hj, dif_pos]
      exact this
theorem RdF.keep {w w' : World} {v : Value} {len : Nat} {f : Nat → Nat} (h : RdF w v len f) (hb : Below w.heap.size w w') : RdF w' v len f := by
  obtain ⟨hf, a, cap, hv, h⟩ := h
  refine ⟨hf, a, cap, hv, ?_⟩
  rcases h with h | ⟨b, off, ha, hr⟩
  · exact .inl h
  · exact .inr ⟨b, off, ha, fun j hj => by rw [← hr j hj]; exact hb.cell (World.block_lt_of_cell? w _ (hr j hj))⟩
/-- What at answers. -/
def atF (len : Nat) (f : Nat → Nat) (i : Nat) : Nat := if len = 0 then 0 else f ((i * 5 + 1) % len)
theorem atF_le {w : World} {v : Value} {len : Nat} {f : Nat → Nat} (h : RdF w v len f) (i : Nat) : atF len f i ≤ 255 := by
  unfold atF; split
  · omega
  · exact h.1 _
theorem at_det {w : World} {v : Value} {len : Nat} {f : Nat → Nat} (h : RdF w v len f) (hl : len ≤ 9223372036854775807) (i : Nat) (h1 : i ≤ 1000000) :
    Calls Try.prog 12 #[v, .int .i64 (i : Int)] w fun e w' => e = .returned (.int .i64 (atF len f i : Nat)) ∧ w = w' := by
  obtain ⟨hf, a, cap, rfl, h⟩ := h
  by_cases h2 : len = 0
  · subst h2
    have HF : Hid (atF 0 f i = 0) := Lib.hid rfl
    go_enter Try.func12, Try.ntmps12
    go_wp2
    go_ret
    exact ⟨by rw [HF.out]; rfl, rfl⟩
  · obtain ⟨b, off, rfl, hc⟩ := h.resolve_left h2
    have hz : ((len : Int) == 0) = false := by simp; omega
    obtain ⟨j, hjd⟩ : ∃ j, j = (i * 5 + 1) % len := ⟨_, rfl⟩
    have hj : (j : Int) = ((i : Int) * 5 + 1) % (len : Int) := by rw [hjd]; norm_cast
    have hjl : j < len := by rw [hjd]; exact Nat.mod_lt _ (by omega)
    have hcx := hc j hjl
    have HF : Hid (atF len f i = f j) := Lib.hid (by unfold atF; rw [if_neg h2, hjd])
    have hm : IntKind.i64.wrap (((i : Int) * 5 + 1).tmod (len : Int)) = (j : Int) := by
      rw [Int.tmod_eq_emod_of_nonneg (by omega), ← hj]
      exact IntWalk.i64_in _ (by omega)
    have hpos : 0 < (len : Int) := by omega
    have hfj := hf j
    generalize f j = x at *
    have HM := Lib.hid hm
    have hj' : ((i : Int) * 5 + 1) % (len : Int) = (j : Int) := hj.symm
    clear hc h hm hj h2 hjd hf
    go_enter Try.func12, Try.ntmps12
    go_wp2
    go_ret
    exact ⟨by rw [HF.out]; rfl, rfl⟩
theorem btoi_any (b : Bool) (w : World) : Calls Try.prog 13 #[.bool b] w fun e w' => e = .returned (.int .i64 (if b then 1 else 0)) ∧ w = w' := by
  cases b <;>
  · go_enter Try.func13, Try.ntmps13
    go_wp2_with (fail)
    go_ret
    exact ⟨rfl, rfl⟩
end Go.Proofs.Ytikaiimafliceaa
