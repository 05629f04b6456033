/-
  Texts of this proof: ParseM.
-/
import Derived.Test.YtehjafaobaoleaaDoorM12
import Derived.Lib.Split
import Derived.Lib.SplitLaws
import Derived.Lib.IndexBytes
namespace Go.Proofs.YtehjafaobaoleaaDoor
open Go.RowKit
set_option linter.all false
def splt : List UInt8 → List UInt8 → Rowz → Rowz
 | [], cur, acc => acc ++ [cur]
 | c :: l, cur, acc => if c.toNat = 47 then splt l [] (acc ++ [cur]) else splt l (cur ++ [c]) acc
def cutS (l : List UInt8) : Rowz := splt l [] []
theorem splt_len (l : List UInt8) : ∀ cur acc, (splt l cur acc).length ≤ acc.length + l.length + 1 := by
 induction l with
 | nil => intro cur acc; simp [splt]
 | cons c l ih =>
  intro cur acc
  rw [splt]; split
  ·have := ih [] (acc ++ [cur]); simp at this ⊢; omega
  ·have := ih (cur ++ [c]) acc; simp at this ⊢; omega
theorem splt_row (l : List UInt8) : ∀ cur acc, ∀ r ∈ splt l cur acc, r ∈ acc ∨ r.length ≤ cur.length + l.length := by
 induction l with
 | nil =>
  intro cur acc r hr
  rw [splt] at hr
  rcases List.mem_append.1 hr with h | h
  ·exact .inl h
  ·simp only [List.mem_singleton] at h; subst h; exact .inr (by simp)
 | cons c l ih =>
  intro cur acc r hr
  rw [splt] at hr; split at hr
  ·rcases ih _ _ r hr with h | h
   ·rcases List.mem_append.1 h with h | h
    ·exact .inl h
    ·simp only [List.mem_singleton] at h; subst h; exact .inr (by simp)
   ·exact .inr (by simp at h ⊢; omega)
  ·rcases ih _ _ r hr with h | h
   ·exact .inl h
   ·exact .inr (by simp at h ⊢; omega)
def pre (cur : List UInt8) : Rowz → Rowz
 | [] => []
 | x :: xs => (cur ++ x) :: xs
theorem split_nil : Lib.split [] [47] = [[]] := by
 have h : Lib.index [] [47] = -1 := by rw [Lib.index_one]; rfl
 unfold Lib.split; rw [Lib.count_miss h]; rfl
theorem split_sep (l : List UInt8) : Lib.split (47 :: l) [47] = [] :: Lib.split l [47] := by
 have h : Lib.index (47 :: l) [47] = ((0 : Nat) : Int) := by rw [Lib.index_one]; rfl
 unfold Lib.split
 rw [Lib.count_hit (by simp) h, Nat.add_comm 1, Lib.splitK, if_neg (by rw [h]; simp), h]
 rfl
theorem split_other (c : UInt8) (l : List UInt8) (hc : c ≠ 47) : Lib.split (c :: l) [47] = pre [c] (Lib.split l [47]) := by
 have hne : ¬ (c == 47) = true := by simpa using hc
 have hr : Lib.index (c :: l) [47] = if Lib.indexByte l 47 == -1 then -1 else Lib.indexByte l 47 + 1 := by rw [Lib.index_one, Lib.indexByte, if_neg hne]
 by_cases hm : Lib.indexByte l 47 = -1
 ·have h1 : Lib.index (c :: l) [47] = -1 := by rw [hr, hm]; rfl
  have h2 : Lib.index l [47] = -1 := by rw [Lib.index_one, hm]
  unfold Lib.split; rw [Lib.count_miss h1, Lib.count_miss h2]; rfl
 ·have hge := Lib.indexByte_ge l 47
  obtain ⟨i, hi⟩ : ∃ i : Nat, Lib.indexByte l 47 = (i : Int) := ⟨(Lib.indexByte l 47).toNat, by omega⟩
  have h2 : Lib.index l [47] = (i : Int) := by rw [Lib.index_one, hi]
  have h1 : Lib.index (c :: l) [47] = ((i + 1 : Nat) : Int) := by
   rw [hr, hi]
   have : ((i : Int) == -1) = false := by simp
   rw [this]; simp
  unfold Lib.split
  rw [Lib.count_hit (by simp) h1, Lib.count_hit (by simp) h2]
  have hd : (c :: l).drop (i + 1 + [(47 : UInt8)].length) = l.drop (i + [(47 : UInt8)].length) := by simp
  rw [hd, Nat.add_comm 1, Lib.splitK, Lib.splitK, if_neg (by rw [h1]; simp; omega), if_neg (by rw [h2]; simp), h1, h2]
  simp [pre]
theorem pre_nil (X : Rowz) : pre [] X = X := by cases X <;> rfl
theorem pre_pre (a b : List UInt8) (X : Rowz) : pre a (pre b X) = pre (a ++ b) X := by cases X <;> simp [pre]
theorem splt_split (l : List UInt8) : ∀ cur acc, splt l cur acc = acc ++ pre cur (Lib.split l [47]) := by
 induction l with
 | nil => intro cur acc; rw [splt, split_nil]; simp [pre]
 | cons c l ih =>
  intro cur acc
  rw [splt]
  by_cases h : c.toNat = 47
  ·have hc : c = 47 := by rw [← UInt8.toNat_inj]; exact h
   subst hc
   rw [if_pos h, ih, split_sep, pre_nil]; simp [pre]
  ·rw [if_neg h, ih, split_other c l (fun e => h (by rw [e]; rfl)), pre_pre]
theorem cutS_split (l : List UInt8) : cutS l = Lib.split l [47] := by unfold cutS; rw [splt_split, pre_nil]; rfl
def PAt (l : List UInt8) (k b : Nat) (acc : Rowz) : Prop := b ≤ k ∧ k ≤ l.length ∧ splt (l.drop k) ((l.drop b).take (k - b)) acc = cutS l ∧ acc.length ≤ k
theorem PAt.zero (l : List UInt8) : PAt l 0 0 [] := ⟨Nat.le_refl _, Nat.zero_le _, by simp [cutS], Nat.le_refl _⟩
theorem PAt.cut {l : List UInt8} {k b : Nat} {acc : Rowz} (h : PAt l k b acc) (hk : k < l.length) (hc : l[k].toNat = 47) : PAt l (k + 1) (k + 1) (acc ++ [(l.drop b).take (k - b)]) := by
 obtain ⟨h1, h2, h3, h4⟩ := h
 refine ⟨Nat.le_refl _, by omega, ?_, by simp; omega⟩
 rw [← h3, List.drop_eq_getElem_cons hk, splt, if_pos hc]; simp
theorem PAt.other {l : List UInt8} {k b : Nat} {acc : Rowz} (h : PAt l k b acc) (hk : k < l.length) (hc : l[k].toNat ≠ 47) : PAt l (k + 1) b acc := by
 obtain ⟨h1, h2, h3, h4⟩ := h
 refine ⟨by omega, by omega, ?_, by omega⟩
 rw [← h3, List.drop_eq_getElem_cons hk, splt, if_neg hc]
 congr 1
 rw [show k + 1 - b = (k - b) + 1 by omega, List.take_succ_eq_append_getElem (by rw [List.length_drop]; omega), List.getElem_drop]
 congr 3; omega
theorem PAt.done {l : List UInt8} {b : Nat} {acc : Rowz} (h : PAt l l.length b acc) : acc ++ [l.drop b] = cutS l := by
 obtain ⟨h1, h2, h3, h4⟩ := h
 rw [List.drop_of_length_le (Nat.le_refl _), splt, List.take_of_length_le (by rw [List.length_drop]; omega)] at h3
 exact h3
end Go.Proofs.YtehjafaobaoleaaDoor
