/-
  The contract of PackZeros that the specification writes.
-/
import Derived.Test.YtlagjhgfjaopjaaDoorZeros
namespace Go.Proofs.YtlagjhgfjaopjaaDoor
open Go.RowKit
set_option linter.all false

theorem tw_get (p : UInt8 → Bool) : ∀ (r : List UInt8) (j : Nat), j < (r.takeWhile p).length → ∃ h : j < r.length, p r[j] = true
  | [], j, h => by simp at h
  | c :: r, j, h => by
    by_cases hc : p c = true
    · rw [List.takeWhile_cons, if_pos hc] at h
      match j, h with
      | 0, _ => exact ⟨by simp, by simpa using hc⟩
      | j + 1, h =>
        obtain ⟨h1, h2⟩ := tw_get p r j (by simpa using h)
        exact ⟨by simpa using h1, by simpa using h2⟩
    · rw [List.takeWhile_cons, if_neg hc] at h; simp at h
theorem tw_end (p : UInt8 → Bool) : ∀ (r : List UInt8) (h : (r.takeWhile p).length < r.length), p (r[(r.takeWhile p).length]) = false
  | [], h => by simp at h
  | c :: r, h => by
    by_cases hc : p c = true
    · have e : ((c :: r).takeWhile p) = c :: r.takeWhile p := by rw [List.takeWhile_cons, if_pos hc]
      have h' : (r.takeWhile p).length < r.length := by rw [e] at h; simpa using h
      have := tw_end p r h'
      simp only [e, List.length_cons, List.getElem_cons_succ]
      exact this
    · have e : ((c :: r).takeWhile p) = [] := by rw [List.takeWhile_cons, if_neg hc]
      simp only [e, List.length_nil, List.getElem_cons_zero]
      simpa using hc
theorem tw_drop (p : UInt8 → Bool) (r : List UInt8) : r.dropWhile p = r.drop (r.takeWhile p).length := by
  have e := List.takeWhile_append_dropWhile (p := p) (l := r)
  have e2 : r.drop (r.takeWhile p).length = (r.takeWhile p ++ r.dropWhile p).drop (r.takeWhile p).length := by rw [e]
  rw [e2, List.drop_left]
theorem tw_take (p : UInt8 → Bool) (r : List UInt8) : r.takeWhile p = r.take (r.takeWhile p).length := by
  have e := List.takeWhile_append_dropWhile (p := p) (l := r)
  have e2 : r.take (r.takeWhile p).length = (r.takeWhile p ++ r.dropWhile p).take (r.takeWhile p).length := by rw [e]
  rw [e2, List.take_left]
/-- The runs of what is behind k: where they end. -/
theorem runs_at (l : List UInt8) (k : Nat) (hk : k < l.length) : ∃ z o : Nat, k + z + o ≤ l.length ∧ 0 < z + o ∧
    (∀ j (h : k + j < l.length), j < z → l[k + j] = 0) ∧ (∀ h : k + z < l.length, l[k + z] ≠ 0) ∧
    (∀ j (h : k + z + j < l.length), j < o → l[k + z + j] ≠ 0) ∧ (∀ h : k + z + o < l.length, l[k + z + o] = 0) ∧
    packZ (l.drop k) = encI (z : Int) ++ packT ((l.drop (k + z)).take o) ++ packZ (l.drop (k + z + o)) := by
  refine ⟨(zrun (l.drop k)).length, (orun (l.drop k)).length, ?_⟩
  have hne : l.drop k ≠ [] := by simp; omega
  have hr := congrArg List.length (runs_eq (l.drop k))
  rw [List.length_append, List.length_append, List.length_drop] at hr
  have hlt := orest_lt hne
  rw [List.length_drop] at hlt
  have hz : zrest (l.drop k) = l.drop (k + (zrun (l.drop k)).length) := by
    unfold zrest; rw [tw_drop, List.drop_drop]; rfl
  have ho : orest (l.drop k) = l.drop (k + (zrun (l.drop k)).length + (orun (l.drop k)).length) := by
    unfold orest; rw [tw_drop, hz, List.drop_drop]; unfold orun; rw [hz]
  have ho2 : orun (l.drop k) = (l.drop (k + (zrun (l.drop k)).length)).take (orun (l.drop k)).length := by
    have := tw_take (· != 0) (zrest (l.drop k))
    rw [hz] at this
    unfold orun; rw [hz]; exact this
  refine ⟨by omega, by omega, ?_, ?_, ?_, ?_, ?_⟩
  · intro j h hj
    obtain ⟨h1, h2⟩ := tw_get (· == 0) (l.drop k) j hj
    simpa using h2
  · intro h
    have e : (zrun (l.drop k)).length = ((l.drop k).takeWhile (· == 0)).length := rfl
    have := tw_end (· == 0) (l.drop k) (by rw [List.length_drop, ← e]; omega)
    simp only [List.getElem_drop, ← e] at this
    simpa using this
  · intro j h hj
    unfold orun at hj; rw [hz] at hj
    obtain ⟨h1, h2⟩ := tw_get (· != 0) (l.drop (k + (zrun (l.drop k)).length)) j hj
    simpa using h2
  · intro h
    have e : (orun (l.drop k)).length = ((l.drop (k + (zrun (l.drop k)).length)).takeWhile (· != 0)).length := by unfold orun; rw [hz]
    have := tw_end (· != 0) (l.drop (k + (zrun (l.drop k)).length)) (by rw [List.length_drop, ← e]; omega)
    simp only [List.getElem_drop, ← e] at this
    simpa using this
  · rw [packZ_cons hne, ← ho, ← ho2]
/-- The same by the places where the runs end. -/
theorem runs_to (l : List UInt8) (k : Nat) (hk : k < l.length) : ∃ a b : Nat, k ≤ a ∧ a ≤ b ∧ b ≤ l.length ∧ k < b ∧
    (∀ j (h : j < l.length), k ≤ j → j < a → l[j] = 0) ∧ (∀ h : a < l.length, l[a] ≠ 0) ∧
    (∀ j (h : j < l.length), a ≤ j → j < b → l[j] ≠ 0) ∧ (∀ h : b < l.length, l[b] = 0) ∧
    packZ (l.drop k) = encI ((a : Int) - (k : Int)) ++ packT ((l.drop a).take (b - a)) ++ packZ (l.drop b) := by
  obtain ⟨z, o, h1, h2, h3, h4, h5, h6, h7⟩ := runs_at l k hk
  refine ⟨k + z, k + z + o, by omega, by omega, h1, by omega, ?_, h4, ?_, h6, ?_⟩
  · intro j h ha hb
    obtain ⟨i, rfl⟩ := Nat.exists_eq_add_of_le ha
    exact h3 i h (by omega)
  · intro j h ha hb
    obtain ⟨i, rfl⟩ := Nat.exists_eq_add_of_le ha
    exact h5 i h (by omega)
  · rw [h7, show k + z + o - (k + z) = o by omega, show ((k + z : Nat) : Int) - (k : Int) = (z : Int) by omega]
theorem encI_len6 (x : Int) : (encI x).length ≤ 6 := by
  unfold encI; split
  · simp
  · exact encV_len6 (by omega)
end Go.Proofs.YtlagjhgfjaopjaaDoor
