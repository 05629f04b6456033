/-
  Alarms in plain lists: the text of an alarm, what a text says. No walk of the program.
-/
import Derived.Test.YtikaiimafliceaaDoorLvM
import Derived.Test.YtikaiimafliceaaDoorParse
import Derived.Lib.Split
import Derived.Lib.SplitLaws
import Derived.Lib.IndexBytes
namespace Go.Proofs.YtikaiimafliceaaDoor
open Go.RowKit
set_option linter.all false
/-- The pieces between commas. -/
def spltA : List UInt8 → List UInt8 → Rowz → Rowz
  | [], cur, acc => acc ++ [cur]
  | c :: l, cur, acc => if c.toNat = 44 then spltA l [] (acc ++ [cur]) else spltA l (cur ++ [c]) acc
def cutA (l : List UInt8) : Rowz := spltA l [] []
theorem spltA_len (l : List UInt8) : ∀ cur acc, (spltA l cur acc).length ≤ acc.length + l.length + 1 := by
  induction l with
  | nil => intro cur acc; simp [spltA]
  | cons c l ih =>
    intro cur acc
    rw [spltA]; split
    · have := ih [] (acc ++ [cur]); simp at this ⊢; omega
    · have := ih (cur ++ [c]) acc; simp at this ⊢; omega
theorem spltA_row (l : List UInt8) : ∀ cur acc, ∀ r ∈ spltA l cur acc, r ∈ acc ∨ r.length ≤ cur.length + l.length := by
  induction l with
  | nil =>
    intro cur acc r hr
    rw [spltA] at hr
    rcases List.mem_append.1 hr with h | h
    · exact .inl h
    · simp only [List.mem_singleton] at h; subst h; exact .inr (by simp)
  | cons c l ih =>
    intro cur acc r hr
    rw [spltA] at hr; split at hr
    · rcases ih _ _ r hr with h | h
      · rcases List.mem_append.1 h with h | h
        · exact .inl h
        · simp only [List.mem_singleton] at h; subst h; exact .inr (by simp)
      · exact .inr (by simp at h ⊢; omega)
    · rcases ih _ _ r hr with h | h
      · exact .inl h
      · exact .inr (by simp at h ⊢; omega)
def preA (cur : List UInt8) : Rowz → Rowz
  | [] => []
  | x :: xs => (cur ++ x) :: xs
theorem splitA_nil : Lib.split [] [44] = [[]] := by
  have h : Lib.index [] [44] = -1 := by rw [Lib.index_one]; rfl
  unfold Lib.split; rw [Lib.count_miss h]; rfl
theorem splitA_sep (l : List UInt8) : Lib.split (44 :: l) [44] = [] :: Lib.split l [44] := by
  have h : Lib.index (44 :: l) [44] = ((0 : Nat) : Int) := by rw [Lib.index_one]; rfl
  unfold Lib.split
  rw [Lib.count_hit (by simp) h, Nat.add_comm 1, Lib.splitK, if_neg (by rw [h]; simp), h]
  rfl
theorem splitA_other (c : UInt8) (l : List UInt8) (hc : c ≠ 44) : Lib.split (c :: l) [44] = preA [c] (Lib.split l [44]) := by
  have hne : ¬ (c == 44) = true := by simpa using hc
  have hr : Lib.index (c :: l) [44] = if Lib.indexByte l 44 == -1 then -1 else Lib.indexByte l 44 + 1 := by rw [Lib.index_one, Lib.indexByte, if_neg hne]
  by_cases hm : Lib.indexByte l 44 = -1
  · have h1 : Lib.index (c :: l) [44] = -1 := by rw [hr, hm]; rfl
    have h2 : Lib.index l [44] = -1 := by rw [Lib.index_one, hm]
    unfold Lib.split; rw [Lib.count_miss h1, Lib.count_miss h2]; rfl
  · have hge := Lib.indexByte_ge l 44
    obtain ⟨i, hi⟩ : ∃ i : Nat, Lib.indexByte l 44 = (i : Int) := ⟨(Lib.indexByte l 44).toNat, by omega⟩
    have h2 : Lib.index l [44] = (i : Int) := by rw [Lib.index_one, hi]
    have h1 : Lib.index (c :: l) [44] = ((i + 1 : Nat) : Int) := by
      rw [hr, hi]
      have : ((i : Int) == -1) = false := by simp
      rw [this]; simp
    unfold Lib.split
    rw [Lib.count_hit (by simp) h1, Lib.count_hit (by simp) h2]
    have hd : (c :: l).drop (i + 1 + [(44 : UInt8)].length) = l.drop (i + [(44 : UInt8)].length) := by simp
    rw [hd, Nat.add_comm 1, Lib.splitK, Lib.splitK, if_neg (by rw [h1]; simp; omega), if_neg (by rw [h2]; simp), h1, h2]
    simp [preA]
theorem preA_nil (X : Rowz) : preA [] X = X := by cases X <;> rfl
theorem preA_pre (a b : List UInt8) (X : Rowz) : preA a (preA b X) = preA (a ++ b) X := by cases X <;> simp [preA]
theorem spltA_split (l : List UInt8) : ∀ cur acc, spltA l cur acc = acc ++ preA cur (Lib.split l [44]) := by
  induction l with
  | nil => intro cur acc; rw [spltA, splitA_nil]; simp [preA]
  | cons c l ih =>
    intro cur acc
    rw [spltA]
    by_cases h : c.toNat = 44
    · have hc : c = 44 := by rw [← UInt8.toNat_inj]; exact h
      subst hc
      rw [if_pos h, ih, splitA_sep, preA_nil]; simp [preA]
    · rw [if_neg h, ih, splitA_other c l (fun e => h (by rw [e]; rfl)), preA_pre]
theorem cutA_split (l : List UInt8) : cutA l = Lib.split l [44] := by unfold cutA; rw [spltA_split, preA_nil]; rfl
/-- What is known at byte k, the present piece from byte b on. -/
def AAt (l : List UInt8) (k b : Nat) (acc : Rowz) : Prop := b ≤ k ∧ k ≤ l.length ∧ spltA (l.drop k) ((l.drop b).take (k - b)) acc = cutA l ∧ acc.length ≤ k
theorem AAt.zero (l : List UInt8) : AAt l 0 0 [] := ⟨Nat.le_refl _, Nat.zero_le _, by simp [cutA], Nat.le_refl _⟩
theorem AAt.cut {l : List UInt8} {k b : Nat} {acc : Rowz} (h : AAt l k b acc) (hk : k < l.length) (hc : l[k].toNat = 44) : AAt l (k + 1) (k + 1) (acc ++ [(l.drop b).take (k - b)]) := by
  obtain ⟨h1, h2, h3, h4⟩ := h
  refine ⟨Nat.le_refl _, by omega, ?_, by simp; omega⟩
  rw [← h3, List.drop_eq_getElem_cons hk, spltA, if_pos hc]; simp
theorem AAt.other {l : List UInt8} {k b : Nat} {acc : Rowz} (h : AAt l k b acc) (hk : k < l.length) (hc : l[k].toNat ≠ 44) : AAt l (k + 1) b acc := by
  obtain ⟨h1, h2, h3, h4⟩ := h
  refine ⟨by omega, by omega, ?_, by omega⟩
  rw [← h3, List.drop_eq_getElem_cons hk, spltA, if_neg hc]
  congr 1
  rw [show k + 1 - b = (k - b) + 1 by omega, List.take_succ_eq_append_getElem (by rw [List.length_drop]; omega), List.getElem_drop]
  congr 3; omega
theorem AAt.done {l : List UInt8} {b : Nat} {acc : Rowz} (h : AAt l l.length b acc) : acc ++ [l.drop b] = cutA l := by
  obtain ⟨h1, h2, h3, h4⟩ := h
  rw [List.drop_of_length_le (Nat.le_refl _), spltA, List.take_of_length_le (by rw [List.length_drop]; omega)] at h3
  exact h3
/-- The parts that stand behind the colon: none if nothing does. -/
def partsA (l : List UInt8) : Rowz := if l = [] then [] else cutA l
/-- Where the first colon is. -/
def colonA (l : List UInt8) : Option Nat := (List.range l.length).find? (fun k => decide ((l.getD k 0).toNat = 58))
theorem colonA_some {l : List UInt8} {k : Nat} (hk : k < l.length) (h : l[k].toNat = 58) (hall : ∀ j (hj : j < l.length), j < k → l[j].toNat ≠ 58) : colonA l = some k := by
  unfold colonA
  rw [List.find?_range_eq_some]
  refine ⟨by simpa [hk] using h, List.mem_range.2 hk, fun j hj => ?_⟩
  have := hall j (by omega) hj
  simpa [show j < l.length by omega] using this
theorem colonA_none {l : List UInt8} (hall : ∀ j (hj : j < l.length), l[j].toNat ≠ 58) : colonA l = none := by
  unfold colonA
  rw [List.find?_range_eq_none]
  intro j hj
  have := hall j hj
  simpa [hj] using this
theorem colonA_of {l : List UInt8} {k : Nat} (h : colonA l = some k) : ∃ hk : k < l.length, l[k].toNat = 58 ∧ ∀ j (hj : j < l.length), j < k → l[j].toNat ≠ 58 := by
  unfold colonA at h
  rw [List.find?_range_eq_some] at h
  obtain ⟨h1, h2, h3⟩ := h
  have hk := List.mem_range.1 h2
  refine ⟨hk, by simpa [hk] using h1, fun j hj hl => ?_⟩
  have := h3 j hl
  simpa [hj] using this
/-- What a text says: the tick and the parts. -/
def alarmP (l : List UInt8) : Option (Nat × Rowz) :=
  match colonA l with
  | none => none
  | some k => match puL (l.take k) with
    | none => none
    | some n => some (n, partsA (l.drop (k + 1)))
theorem alarmP_none {l : List UInt8} (h : colonA l = none) : alarmP l = none := by unfold alarmP; rw [h]
theorem alarmP_bad {l : List UInt8} {k : Nat} (h : colonA l = some k) (h2 : puL (l.take k) = none) : alarmP l = none := by unfold alarmP; rw [h]; dsimp only; rw [h2]
theorem alarmP_ok {l : List UInt8} {k n : Nat} (h : colonA l = some k) (h2 : puL (l.take k) = some n) : alarmP l = some (n, partsA (l.drop (k + 1))) := by unfold alarmP; rw [h]; dsimp only; rw [h2]
/-- The two values of ParseAlarm. -/
def alT (l : List UInt8) : Int := match alarmP l with | some x => (x.1 : Int) | none => 0
def alP (l : List UInt8) : Rowz := match alarmP l with | some x => x.2 | none => []
/-- Parts with commas between them. -/
def jnA : Rowz → List UInt8
  | [] => []
  | [x] => x
  | x :: y :: r => x ++ [44] ++ jnA (y :: r)
theorem jnA_snoc (L : Rowz) (x : List UInt8) (h : L ≠ []) : jnA (L ++ [x]) = jnA L ++ [44] ++ x := by
  induction L with
  | nil => exact absurd rfl h
  | cons a L ih =>
    cases L with
    | nil => simp [jnA]
    | cons b L =>
      have := ih (by simp)
      simp only [List.cons_append, jnA] at this ⊢
      rw [this]; simp [List.append_assoc]
theorem jnA_join (L : Rowz) : Lib.join L [44] = jnA L := by
  induction L with
  | nil => rfl
  | cons a L ih =>
    cases L with
    | nil => simp [Lib.join, jnA]
    | cons b L =>
      simp only [Lib.join, jnA] at ih ⊢
      rw [← ih]
      simp [Lib.join, List.append_assoc]
end Go.Proofs.YtikaiimafliceaaDoor
