/-
  Texts of this proof: ParseM, StepS.
-/
import Derived.Test.YtdnnejohfhmliaaDoorM09
import Derived.Lib.Split
import Derived.Lib.SplitLaws
import Derived.Lib.IndexBytes
import Derived.Test.YtdnnejohfhmliaaDoorM10
import Derived.Test.YtdnnejohfhmliaaDoorM03
import Derived.Deep.RegionLaw
namespace Go.Proofs.YtdnnejohfhmliaaDoor
open Go.RowKit
set_option linter.all false
def splt : List UInt8 → List UInt8 → Rowz → Rowz
  | [], cur, acc => acc ++ [cur]
  | c :: l, cur, acc => if c.toNat = 47 then splt l [] (acc ++ [cur]) else splt l (cur ++ [c]) acc
def cutS (l : List UInt8) : Rowz := splt l [] []
theorem splt_len (l : List UInt8) : ∀ cur acc, (splt l cur acc).length ≤ acc.length + l.length + 1 := by
  induction l with
  | nil => intro cur acc; simp [splt]
  | cons c l ih =>
    intro cur acc
    rw [splt]; split
    · have := ih [] (acc ++ [cur]); simp at this ⊢; omega
    · have := ih (cur ++ [c]) acc; simp at this ⊢; omega
theorem splt_row (l : List UInt8) : ∀ cur acc, ∀ r ∈ splt l cur acc, r ∈ acc ∨ r.length ≤ cur.length + l.length := by
  induction l with
  | nil =>
    intro cur acc r hr
    rw [splt] at hr
    rcases List.mem_append.1 hr with h | h
    · exact .inl h
    · simp only [List.mem_singleton] at h; subst h; exact .inr (by simp)
  | cons c l ih =>
    intro cur acc r hr
    rw [splt] at hr; split at hr
    · rcases ih _ _ r hr with h | h
      · rcases List.mem_append.1 h with h | h
        · exact .inl h
        · simp only [List.mem_singleton] at h; subst h; exact .inr (by simp)
      · exact .inr (by simp at h ⊢; omega)
    · rcases ih _ _ r hr with h | h
      · exact .inl h
      · exact .inr (by simp at h ⊢; omega)
def pre (cur : List UInt8) : Rowz → Rowz
  | [] => []
  | x :: xs => (cur ++ x) :: xs
def PAt (l : List UInt8) (k b : Nat) (acc : Rowz) : Prop := b ≤ k ∧ k ≤ l.length ∧ splt (l.drop k) ((l.drop b).take (k - b)) acc = cutS l ∧ acc.length ≤ k
theorem PAt.zero (l : List UInt8) : PAt l 0 0 [] := ⟨Nat.le_refl _, Nat.zero_le _, by simp [cutS], Nat.le_refl _⟩
theorem PAt.cut {l : List UInt8} {k b : Nat} {acc : Rowz} (h : PAt l k b acc) (hk : k < l.length) (hc : l[k].toNat = 47) : PAt l (k + 1) (k + 1) (acc ++ [(l.drop b).take (k - b)]) := by
  obtain ⟨h1, h2, h3, h4⟩ := h
  refine ⟨Nat.le_refl _, by omega, ?_, by simp; omega⟩
  rw [← h3, List.drop_eq_getElem_cons hk, splt, if_pos hc]; simp
theorem PAt.other {l : List UInt8} {k b : Nat} {acc : Rowz} (h : PAt l k b acc) (hk : k < l.length) (hc : l[k].toNat ≠ 47) : PAt l (k + 1) b acc := by
  obtain ⟨h1, h2, h3, h4⟩ := h
  refine ⟨by omega, by omega, ?_, by omega⟩
  rw [← h3, List.drop_eq_getElem_cons hk, splt, if_neg hc]
  congr 1
  rw [show k + 1 - b = (k - b) + 1 by omega, List.take_succ_eq_append_getElem (by rw [List.length_drop]; omega), List.getElem_drop]
  congr 3; omega
theorem PAt.done {l : List UInt8} {b : Nat} {acc : Rowz} (h : PAt l l.length b acc) : acc ++ [l.drop b] = cutS l := by
  obtain ⟨h1, h2, h3, h4⟩ := h
  rw [List.drop_of_length_le (Nat.le_refl _), splt, List.take_of_length_le (by rw [List.length_drop]; omega)] at h3
  exact h3
end Go.Proofs.YtdnnejohfhmliaaDoor
namespace Go.Proofs.YtdnnejohfhmliaaDoor
open Go.RowKit
set_option linter.all false
theorem step_str {ops : Array Oper} {o : Oper} {a : Act} {W : World} {K : Act → World → Prop} {Q : Exit → Act → World → Prop} {E : Prop} (hgd : o.guard = none) (s x : Operand)
    (ho : o.op = .call { callee := .builtin .append, args := #[s, x], argTypes := #[24, 24] })
    (B : Nat) (v : Value) (l : List (List UInt8)) (hs : a.eval s = v) (hown : OwnS W B v l) (ad : Nat) (b : List UInt8) (hx : a.eval x = .slice (some ⟨ad, 0, none⟩) 1 1)
    (hc0 : W.cell? ⟨ad, 0, none⟩ = some (.string ⟨b.toArray⟩))
    (hlen : l.length + 1 ≤ 8796093022208) (hbase : B ≤ W.heap.size)
    (h : ∀ v' w', OwnS w' B v' (l ++ [b]) → Below B W w' → K (a.put o.dst v') w') : if Region.wanted o (yielded ops a.tmps) = true then Oper.wp Tryd.prog o a W K Q else E := by
  obtain ⟨i0, hi, hz0, hz1, hz2⟩ := info_parts info_str
  have hcell : ∀ j u, [strV b][j]? = some u → W.cell? ((⟨ad, 0, none⟩ : Addr).add j) = some u := by
    intro j u hj
    match j, hj with
    | 0, hj => simp at hj; subst hj; exact hc0
  rw [if_pos (by simp [Region.wanted, hgd])]
  refine wp_append_own W s x 24 ho B 9 i0 (.string ⟨#[]⟩) 1 16 Tryd.underlying24 hi hz0 hz1 hz2 rfl (by decide) v l.length (strsV l) hs hown.row ⟨ad, 0, none⟩ 1 1 [strV b] hx rfl hcell (str_one b) (by unfold maxLen; omega) (by omega) hbase ?_
  intro v' w' hown' hgrow _
  refine h v' w' ?_ ?_
  · unfold OwnS; rw [strsV_snoc, List.length_append]; exact hown'
  · exact (Below.refl B W).grown hgrow hbase fun k hk => (hown.row.lt k hk).1
theorem OwnS.set {w : World} {B : Nat} {v : Value} {l : List (List UInt8)} (h : OwnS w B v l) {p : Addr} (hp : p.block < B) (u : Value) : OwnS (w.setCell p u) B v l := by
  obtain ⟨h1, h2⟩ := h
  refine ⟨h1, ?_⟩
  rcases h2 with h2 | ⟨g, cap, cur, e, hB, hg, r⟩
  · exact .inl h2
  · exact .inr ⟨g, cap, cur, e, hB, farHeap hg (by omega) u, r⟩
theorem heapUp {B : Nat} {W W' : World} {k : Nat} {o : Obj} (hb : Below B W W') (hk : k < B) (h : W.heap[k]? = some o) : W'.heap[k]? = some o := by rw [hb.block k hk]; exact h
end Go.Proofs.YtdnnejohfhmliaaDoor
