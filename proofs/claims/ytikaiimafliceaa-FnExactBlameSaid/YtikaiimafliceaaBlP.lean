/-
  Blame in plain lists: the one number that differs from all others. No walk of the program.
-/
import Derived.Test.YtikaiimafliceaaRow
namespace Go.Proofs.Ytikaiimafliceaa
open Go.RowKit
set_option linter.all false
/-- What two of the first three numbers are. -/
def usualI (l : List Int) : Int := if l.getD 1 0 == l.getD 2 0 then l.getD 1 0 else l.getD 0 0
/-- All numbers but the one at m are u, and that one is not. -/
def aloneB (l : List Int) (u : Int) (m : Nat) : Bool := !(l.getD m 0 == u) && (List.range l.length).all (fun j => j == m || l.getD j 0 == u)
def oddI (l : List Int) : Int := match (List.range l.length).find? (fun m => aloneB l (usualI l) m) with | some m => (m : Int) | none => -1
theorem aloneB_iff {l : List Int} {u : Int} {m : Nat} : aloneB l u m = true ↔ l.getD m 0 ≠ u ∧ ∀ j, j < l.length → j ≠ m → l.getD j 0 = u := by
  unfold aloneB
  simp only [Bool.and_eq_true, Bool.not_eq_true', beq_eq_false_iff_ne, List.all_eq_true, List.mem_range, Bool.or_eq_true, beq_iff_eq]
  constructor
  · rintro ⟨h1, h2⟩
    exact ⟨h1, fun j hj hne => (h2 j hj).resolve_left hne⟩
  · rintro ⟨h1, h2⟩
    exact ⟨h1, fun j hj => by by_cases e : j = m; exact .inl e; exact .inr (h2 j hj e)⟩
theorem oddI_yes {l : List Int} {m : Nat} (hm : m < l.length) (h : aloneB l (usualI l) m = true) : oddI l = (m : Int) := by
  unfold oddI
  have : (List.range l.length).find? (fun m => aloneB l (usualI l) m) = some m := by
    rw [List.find?_range_eq_some]
    refine ⟨h, List.mem_range.2 hm, fun j hj => ?_⟩
    cases e : aloneB l (usualI l) j with
    | false => rfl
    | true =>
      have h1 := (aloneB_iff.1 h).1
      have h2 := (aloneB_iff.1 e).2 m hm (by omega)
      exact absurd h2 h1
  rw [this]
theorem oddI_no {l : List Int} (h : ∀ m, m < l.length → aloneB l (usualI l) m = false) : oddI l = -1 := by
  unfold oddI
  have : (List.range l.length).find? (fun m => aloneB l (usualI l) m) = none := by
    rw [List.find?_range_eq_none]
    intro j hj
    rw [h j hj]; rfl
  rw [this]
/-- Whatever number the others are: it is the usual one. -/
theorem alone_usual {l : List Int} {c : Int} {k : Nat} (h3 : 3 ≤ l.length) (h : aloneB l c k = true) : c = usualI l := by
  have h2 := (aloneB_iff.1 h).2
  have h1 := (aloneB_iff.1 h).1
  unfold usualI
  by_cases e1 : k = 1
  · subst e1
    have a0 := h2 0 (by omega) (by omega)
    have a2 := h2 2 (by omega) (by omega)
    rw [if_neg (by rw [a2]; simpa using h1), a0]
  · by_cases e2 : k = 2
    · subst e2
      have a0 := h2 0 (by omega) (by omega)
      have a1 := h2 1 (by omega) (by omega)
      rw [if_neg (by rw [a1]; simpa using fun e => h1 e.symm), a0]
    · have a1 := h2 1 (by omega) (by omega)
      have a2 := h2 2 (by omega) (by omega)
      rw [if_pos (by rw [a1, a2]; simp), a1]
/-- The model's look at index k: the next number is the measure. -/
def nextC (l : List Int) (k : Nat) : Int := l.getD ((k + 1) % l.length) 0
theorem alone_next {l : List Int} {k : Nat} (h3 : 3 ≤ l.length) (hk : k < l.length) : aloneB l (nextC l k) k = aloneB l (usualI l) k := by
  have hne : (k + 1) % l.length ≠ k := by
    by_cases e : k + 1 = l.length
    · rw [e, Nat.mod_self]; omega
    · rw [Nat.mod_eq_of_lt (by omega)]; omega
  cases e : aloneB l (usualI l) k with
  | true =>
    have h2 := (aloneB_iff.1 e).2 ((k + 1) % l.length) (Nat.mod_lt _ (by omega)) hne
    rw [show nextC l k = usualI l from h2]; exact e
  | false =>
    cases e2 : aloneB l (nextC l k) k with
    | false => rfl
    | true =>
      rw [alone_usual h3 e2] at e2
      rw [e] at e2; cases e2
/-- Whether all lists have an element at t. -/
def haveB (X : Rowi) (t : Int) : Bool := X.all fun x => decide (0 ≤ t ∧ t ≤ (x.length : Int) - 1)
def pickI (X : Rowi) (t : Int) : List Int := X.map fun x => x.getD t.toNat 0
def blameI (X : Rowi) (t : Int) : Int := if (decide (3 ≤ X.length) && haveB X t) = true then oddI (pickI X t) else -1
theorem haveB_bad {X : Rowi} {t : Int} {k : Nat} (hk : k < X.length) (h : ¬ (0 ≤ t ∧ t ≤ (X[k].length : Int) - 1)) : haveB X t = false := by
  unfold haveB; rw [List.all_eq_false]; exact ⟨_, List.getElem_mem hk, by simpa using h⟩
theorem haveB_ok {X : Rowi} {t : Int} (h : ∀ k (hk : k < X.length), 0 ≤ t ∧ t ≤ (X[k].length : Int) - 1) : haveB X t = true := by
  unfold haveB; rw [List.all_eq_true]; intro x hx
  obtain ⟨i, hi, rfl⟩ := List.getElem_of_mem hx
  simpa using h i hi
theorem blameI_few {X : Rowi} {t : Int} (h : ¬ 3 ≤ X.length) : blameI X t = -1 := by
  unfold blameI; rw [decide_eq_false h]; rfl
theorem blameI_bad {X : Rowi} {t : Int} (h : haveB X t = false) : blameI X t = -1 := by
  unfold blameI; rw [h]; simp
theorem blameI_ok {X : Rowi} {t : Int} (h3 : 3 ≤ X.length) (h : haveB X t = true) : blameI X t = oddI (pickI X t) := by
  unfold blameI; rw [decide_eq_true h3, h]; rfl
theorem pickI_len (X : Rowi) (t : Int) : (pickI X t).length = X.length := by unfold pickI; simp
theorem pickI_at {X : Rowi} {t : Int} {k : Nat} (hk : k < X.length) : (pickI X t).getD k 0 = X[k].getD t.toNat 0 := by
  unfold pickI; simp [hk]
theorem pickI_snoc {X : Rowi} {t : Int} {k : Nat} (hk : k < X.length) : pickI (X.take (k + 1)) t = pickI (X.take k) t ++ [X[k].getD t.toNat 0] := by
  unfold pickI; rw [List.take_succ_eq_append_getElem hk, List.map_append]; rfl
/-- How far the program's look has come: nothing odd yet, or one odd number at m. -/
def OddAt (l : List Int) (k : Nat) (o : Int) : Prop :=
  (o = -1 ∧ ∀ j, j < k → l.getD j 0 = usualI l) ∨ ∃ m : Nat, m < k ∧ o = (m : Int) ∧ l.getD m 0 ≠ usualI l ∧ ∀ j, j < k → j ≠ m → l.getD j 0 = usualI l
theorem OddAt.start (l : List Int) : OddAt l 0 (-1) := .inl ⟨rfl, fun j hj => by omega⟩
theorem OddAt.same {l : List Int} {k : Nat} {o : Int} (h : OddAt l k o) (e : l.getD k 0 = usualI l) : OddAt l (k + 1) o := by
  rcases h with ⟨rfl, h⟩ | ⟨m, hm, rfl, h1, h2⟩
  · exact .inl ⟨rfl, fun j hj => by by_cases e2 : j = k; rw [e2]; exact e; exact h j (by omega)⟩
  · exact .inr ⟨m, by omega, rfl, h1, fun j hj hne => by by_cases e2 : j = k; rw [e2]; exact e; exact h2 j (by omega) hne⟩
theorem OddAt.first {l : List Int} {k : Nat} (h : OddAt l k (-1)) (e : l.getD k 0 ≠ usualI l) : OddAt l (k + 1) (k : Int) := by
  rcases h with ⟨-, h⟩ | ⟨m, hm, h0, -⟩
  · exact .inr ⟨k, by omega, rfl, e, fun j hj hne => h j (by omega)⟩
  · omega
theorem OddAt.second {l : List Int} {k : Nat} {o : Int} (h : OddAt l k o) (hk : k < l.length) (ho : o ≠ -1) (e : l.getD k 0 ≠ usualI l) : oddI l = -1 := by
  rcases h with ⟨h0, -⟩ | ⟨m, hm, -, h1, -⟩
  · exact absurd h0 ho
  · refine oddI_no fun i hi => ?_
    cases e2 : aloneB l (usualI l) i with
    | false => rfl
    | true =>
      have h3 := (aloneB_iff.1 e2).2
      by_cases e3 : k = i
      · exact absurd (h3 m (by omega) (by omega)) h1
      · exact absurd (h3 k hk e3) e
theorem OddAt.done {l : List Int} {o : Int} (h : OddAt l l.length o) : oddI l = o := by
  rcases h with ⟨rfl, h⟩ | ⟨m, hm, rfl, h1, h2⟩
  · refine oddI_no fun i hi => ?_
    cases e2 : aloneB l (usualI l) i with
    | false => rfl
    | true => exact absurd (h i hi) (aloneB_iff.1 e2).1
  · exact oddI_yes hm (aloneB_iff.2 ⟨h1, fun j hj hne => h2 j hj hne⟩)
theorem OddAt.range {l : List Int} {k : Nat} {o : Int} (h : OddAt l k o) (hk : k ≤ 1048576) : -1 ≤ o ∧ o ≤ 1048576 := by
  rcases h with ⟨rfl, h⟩ | ⟨m, hm, rfl, h1, h2⟩ <;> omega
end Go.Proofs.Ytikaiimafliceaa
