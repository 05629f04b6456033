/-
  The hunt in plain lists that agree up to an index and never again: it ends there, within ten looks. No walk of the program.
-/
import Derived.Test.YtikaiimafliceaaRunH
namespace Go.Proofs.Ytikaiimafliceaa
open Go.RowKit
set_option linter.all false
theorem runs_hits (f : Int → Bool) (k : Int) : ∀ (m s : Nat) (q : Hu), q.high - q.low ≤ (m : Int) → 0 ≤ q.low → q.low < k → k ≤ q.high → q.high ≤ 1000 → q.high - q.low ≤ ((2 ^ s : Nat) : Int) → 2 ≤ q.steps → q.steps + (s : Int) ≤ 10 →
    (∀ t, q.low < t → t < q.high → f t = decide (t < k)) → (runs f m q).high = k ∧ 2 ≤ (runs f m q).steps ∧ (runs f m q).steps ≤ 10
  | 0, s, q, hm, _, h1, h2, _, _, _, _, _ => by omega
  | m + 1, s, q, hm, h0, h1, h2, h3, hs, h4, h5, hf => by
    cases hB : huntB q with
    | false =>
      have hb : ¬ (2 ≤ q.high - q.low) := by
        intro hge
        rw [huntB_yes ⟨by omega, by omega⟩ ⟨by omega, by omega⟩] at hB
        cases hB
      rw [runs_stop f hB]
      exact ⟨by omega, h4, by omega⟩
    | true =>
      have hr := huntB_room hB
      have hp := probeI_facts hB
      have hpe := probeI_yes hB
      obtain ⟨s, rfl⟩ : ∃ s', s = s' + 1 := by
        cases s with
        | zero => simp at hs; omega
        | succ s => exact ⟨s, rfl⟩
      have hpow : ((2 ^ (s + 1) : Nat) : Int) = 2 * ((2 ^ s : Nat) : Int) := by rw [Nat.pow_succ]; push_cast; omega
      rw [hpow] at hs
      have hst : q.steps < 1000000 := by omega
      rw [runs_step f hB, hf _ hp.1 hp.2]
      generalize probeI q = t at hp hpe
      by_cases ht : t < k
      · have e : narR q (decide (t < k)) = narR q true := by rw [decide_eq_true ht]
        rw [e]
        have hn : narR q true = ⟨t, q.high, q.steps + 1⟩ := by
          unfold narR; rw [if_pos hB, if_pos hst, probeI_yes hB, ← hpe]; rfl
        rw [hn]
        exact runs_hits f k m s _ (by dsimp only; omega) (by dsimp only; omega) ht (by dsimp only; omega) (by dsimp only; omega) (by dsimp only; omega) (by dsimp only; omega) (by dsimp only; push_cast at h5; omega) (fun x hx1 hx2 => hf x (by dsimp only at hx1; omega) hx2)
      · have e : narR q (decide (t < k)) = narR q false := by rw [decide_eq_false ht]
        rw [e]
        have hn : narR q false = ⟨q.low, t, q.steps + 1⟩ := by
          unfold narR; rw [if_pos hB, if_pos hst, probeI_yes hB, ← hpe]; rfl
        rw [hn]
        exact runs_hits f k m s _ (by dsimp only; omega) (by dsimp only; omega) (by dsimp only; omega) (by dsimp only; omega) (by dsimp only; omega) (by dsimp only; omega) (by dsimp only; omega) (by dsimp only; push_cast at h5; omega) (fun x hx1 hx2 => hf x hx1 (by dsimp only at hx2; omega))
/-- Two lists of N numbers that agree ahead of K and never from K on. -/
def Split2 (xs ys : List Int) (N K : Nat) : Prop := xs.length = N ∧ ys.length = N ∧ ∀ j (h1 : j < xs.length) (h2 : j < ys.length), (xs[j] == ys[j]) = decide (j < K)
section
variable {xs ys : List Int} {N K : Nat}
theorem Split2.last (h : Split2 xs ys N K) : lastI xs ys = (N : Int) - 1 := by obtain ⟨h1, h2, -⟩ := h; unfold lastI; split <;> omega
theorem Split2.agree (h : Split2 xs ys N K) {t : Int} (h0 : 0 ≤ t) (h1 : t < (N : Int)) : agreeB xs ys t = decide (t < (K : Int)) := by
  obtain ⟨a, b, c⟩ := h
  obtain ⟨n, rfl⟩ := Int.eq_ofNat_of_zero_le h0
  rw [agreeB_at (by omega) (by omega), c n (by omega) (by omega)]
  by_cases hk : n < K
  · rw [decide_eq_true hk, decide_eq_true (by omega)]
  · rw [decide_eq_false hk, decide_eq_false (by omega)]
theorem Split2.start (h : Split2 xs ys N K) (hN : 2 ≤ N) (hK : 1 ≤ K) (hKN : K ≤ N - 1) : startB xs ys = true := by
  unfold startB
  rw [h.last, h.agree (by omega) (by omega), h.agree (by omega) (by omega), decide_eq_true (by omega), decide_eq_false (by omega)]; rfl
theorem Split2.first (h : Split2 xs ys N K) (hKN : K < N) : firstD xs ys = (K : Int) := by
  obtain ⟨a, b, c⟩ := h
  exact firstD_yes (by omega) (by omega) (by rw [c K (by omega) (by omega)]; simp) (fun j h1 h2 hj => by rw [c j h1 h2]; simpa using hj)
theorem Split2.run (h : Split2 xs ys N K) (hN : 2 ≤ N) (hN2 : N ≤ 201) (hK : 1 ≤ K) (hKN : K ≤ N - 1) : ∃ s : Int, runR xs ys = ((K : Int), s) ∧ 2 ≤ s ∧ s ≤ 10 := by
  have hs := h.start hN hK hKN
  have hq := startR_yes hs
  rw [h.last] at hq
  have hr := runs_hits (agreeB xs ys) (K : Int) xs.length 8 (startR xs ys) (by rw [hq, h.1]; dsimp only; omega) (by rw [hq]; dsimp only; omega) (by rw [hq]; dsimp only; omega) (by rw [hq]; dsimp only; omega) (by rw [hq]; dsimp only; omega) (by rw [hq]; dsimp only; omega) (by rw [hq]; dsimp only; omega) (by rw [hq]; dsimp only; omega) (fun t h1 h2 => by
    rw [hq] at h1 h2; dsimp only at h1 h2
    exact h.agree (by omega) (by omega))
  refine ⟨_, ?_, hr.2.1, hr.2.2⟩
  unfold runR; rw [if_pos hs, hr.1]
theorem start_same (xs : List Int) : startB xs xs = false := by
  unfold startB
  by_cases h0 : xs.length = 0
  · have : agreeB xs xs 0 = false := agreeB_out (by omega)
    rw [this]; rfl
  · have hl : lastI xs xs = ((xs.length - 1 : Nat) : Int) := by unfold lastI; split <;> omega
    rw [hl, agreeB_at (n := xs.length - 1) (by omega) (by omega)]; simp
theorem Split2.probe (h : Split2 xs ys N K) (hN : 2 ≤ N) (hN2 : N ≤ 201) : probeI ⟨0, (N : Int) - 1, 2⟩ = -1 ∨ (0 < probeI ⟨0, (N : Int) - 1, 2⟩ ∧ probeI ⟨0, (N : Int) - 1, 2⟩ < (N : Int) - 1 ∧ agreeB xs ys (probeI ⟨0, (N : Int) - 1, 2⟩) = decide (probeI ⟨0, (N : Int) - 1, 2⟩ < (K : Int))) := by
  cases hB : huntB ⟨0, (N : Int) - 1, 2⟩ with
  | false => exact .inl (probeI_no hB)
  | true =>
    have := probeI_facts hB
    dsimp only at this
    exact .inr ⟨this.1, this.2, h.agree (by omega) (by omega)⟩
theorem narrow_low (N : Nat) : (narR ⟨0, (N : Int) - 1, 2⟩ false).low = 0 := by unfold narR; split <;> rfl
end
/-- The two lists of the law. -/
def huA (g : Nat → Nat) (j : Nat) : List Int := (List.range j).map fun i => (g i : Int)
def huB (g : Nat → Nat) (K j : Nat) : List Int := (List.range j).map fun i => (g i : Int) + (if K ≤ i then 1 else 0)
theorem huA_len (g : Nat → Nat) (j : Nat) : (huA g j).length = j := by simp [huA]
theorem huB_len (g : Nat → Nat) (K j : Nat) : (huB g K j).length = j := by simp [huB]
theorem huA_snoc (g : Nat → Nat) (j : Nat) : huA g (j + 1) = huA g j ++ [(g j : Int)] := by simp [huA, List.range_succ]
theorem huB_snoc (g : Nat → Nat) (K j : Nat) : huB g K (j + 1) = huB g K j ++ [(g j : Int) + (if K ≤ j then 1 else 0)] := by simp [huB, List.range_succ]
theorem hu_split (g : Nat → Nat) (K N : Nat) : Split2 (huA g N) (huB g K N) N K := by
  refine ⟨huA_len _ _, huB_len _ _ _, fun j h1 h2 => ?_⟩
  simp only [huA, huB, List.getElem_map, List.getElem_range]
  by_cases hk : K ≤ j
  · rw [if_pos hk, decide_eq_false (by omega)]; simp; omega
  · rw [if_neg hk, decide_eq_true (by omega)]; simp
end Go.Proofs.Ytikaiimafliceaa
