/-
  Slices of a row of ints that reads as a list: 'v[k:]', 'v[:k]', 'v[i:j]', also where nothing is left and where v is nil.
-/
import Derived.Test.YtgbdpmaajihfdaaRep0
import Derived.Test.YtgbdpmaajihfdaaCln
namespace Go.Proofs.Ytgbdpmaajihfdaa
open Go.RowKit
set_option linter.all false
theorem cut_size (W : World) : (sizeOf (Try.prog.elem 27)).run Try.prog W = .ok 1 W := by
  obtain ⟨i0, hi, hz0, hz1, hz2⟩ := info_parts info_int
  have he : Try.prog.elem 27 = 3 := by kernel_rfl
  rw [he]; simp [sizeOf, typeInfo, hi, hz1]
theorem cut_type : Try.prog.underlying 27 = some (.slice (Try.prog.elem 27)) := by
  have he : Try.prog.elem 27 = 3 := by kernel_rfl
  rw [he]; exact Try.underlying27
/-- What reads as xs reads, cut at i and j, as that part of xs. -/
theorem RdI.sliced {W : World} {a : Option Addr} {cap : Nat} {xs : List Int} (h : RdI W (.slice a xs.length cap) xs) (hc : xs.length ≤ cap) (i j : Nat) (hij : i ≤ j) (hj : j ≤ xs.length) :
    RdI W (sliced a i j cap 1) ((xs.drop i).take (j - i)) := by
  obtain ⟨a', cap', e, h⟩ := h
  obtain ⟨rfl, -, rfl⟩ := Value.slice.inj e
  have hl : ((xs.drop i).take (j - i)).length = j - i := by rw [List.length_take, List.length_drop]; omega
  refine ⟨if cap = i then a else a.map (·.add (i * 1)), cap - i, by rw [hl]; rfl, ?_⟩
  by_cases hlt : i < j
  · right
    rcases h with h | ⟨b, off, rfl, hb⟩
    · subst h; simp at hj; omega
    · rw [if_neg (by omega)]
      refine ⟨b, off + i, by simp [Addr.add], fun k hk => ?_⟩
      have := hb (i + k) (by omega)
      rw [← Nat.add_assoc] at this
      rw [this]
      simp
  · left
    exact List.eq_nil_of_length_eq_zero (by omega)
theorem sliced_cap (a : Option Addr) (i j cap s : Nat) (hj : j ≤ cap) : CapI (sliced a i j cap s) := ⟨_, _, _, rfl, by omega⟩
theorem cut_from {W : World} {v : Value} {xs : List Int} (h : RdI W v xs) (hc : CapI v) (k : Nat) (hk : k ≤ xs.length) :
    ∃ u, (Instr.slice 27 v (some (.int .i64 (k : Int))) none none).run Try.prog W = .ok u W ∧ RdI W u (xs.drop k) ∧ CapI u := by
  obtain ⟨a, cap, rfl, -⟩ := id h
  obtain ⟨a', n', c', e, hcap⟩ := hc
  obtain ⟨rfl, rfl, rfl⟩ := Value.slice.inj e
  refine ⟨sliced a k xs.length cap 1, ?_, ?_, sliced_cap _ _ _ _ _ hcap⟩
  · rw [run_slice_l (P := Try.prog) (w := W) 27 a xs.length cap cut_type .i64 (k : Int) (by omega) (by omega), cut_size]
    simp only [Result.andThen, Int.toNat_natCast]
  · have := h.sliced hcap k xs.length hk (Nat.le_refl _)
    rwa [List.take_of_length_le (by rw [List.length_drop]; omega)] at this
theorem cut_to {W : World} {v : Value} {xs : List Int} (h : RdI W v xs) (hc : CapI v) (k : Nat) (hk : k ≤ xs.length) :
    ∃ u, (Instr.slice 27 v none (some (.int .i64 (k : Int))) none).run Try.prog W = .ok u W ∧ RdI W u (xs.take k) ∧ CapI u := by
  obtain ⟨a, cap, rfl, -⟩ := id h
  obtain ⟨a', n', c', e, hcap⟩ := hc
  obtain ⟨rfl, rfl, rfl⟩ := Value.slice.inj e
  refine ⟨sliced a 0 k cap 1, ?_, ?_, sliced_cap _ _ _ _ _ (by omega)⟩
  · rw [run_slice_h (P := Try.prog) (w := W) 27 a xs.length cap cut_type .i64 (k : Int) (by omega) (by omega), cut_size]
    simp only [Result.andThen, Int.toNat_natCast]
  · have := h.sliced hcap 0 k (Nat.zero_le _) hk
    rwa [List.drop_zero, Nat.sub_zero] at this
theorem cut_mid {W : World} {v : Value} {xs : List Int} (h : RdI W v xs) (hc : CapI v) (i j : Nat) (hij : i ≤ j) (hj : j ≤ xs.length) :
    ∃ u, (Instr.slice 27 v (some (.int .i64 (i : Int))) (some (.int .i64 (j : Int))) none).run Try.prog W = .ok u W ∧ RdI W u ((xs.drop i).take (j - i)) ∧ CapI u := by
  obtain ⟨a, cap, rfl, -⟩ := id h
  obtain ⟨a', n', c', e, hcap⟩ := hc
  obtain ⟨rfl, rfl, rfl⟩ := Value.slice.inj e
  refine ⟨sliced a i j cap 1, ?_, h.sliced hcap i j hij hj, sliced_cap _ _ _ _ _ (by omega)⟩
  rw [run_slice_lh (P := Try.prog) (w := W) 27 a xs.length cap cut_type .i64 .i64 (i : Int) (j : Int) (by omega) (by omega) (by omega), cut_size]
  simp only [Result.andThen, Int.toNat_natCast]
end Go.Proofs.Ytgbdpmaajihfdaa
