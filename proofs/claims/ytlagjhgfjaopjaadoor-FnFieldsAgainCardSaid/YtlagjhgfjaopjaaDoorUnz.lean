/-
  Plain mathematics of the reading of runs of zeros, and rows of bytes to which many bytes are appended.
-/
import Derived.Test.YtlagjhgfjaopjaaDoorZeros
import Derived.Test.YtlagjhgfjaopjaaDoorOwn
namespace Go.Proofs.YtlagjhgfjaopjaaDoor
open Go.RowKit
set_option linter.all false

theorem unpT_facts {l : List UInt8} {p : Int} {t : List UInt8} {k : Nat} (h : unpT l p = some (t, k)) : 0 ≤ p ∧ 1 ≤ k ∧ p.toNat + k ≤ l.length ∧ t.length ≤ l.length := by
  cases hd : decAt l p with
  | none => rw [unpT_no hd] at h; cases h
  | some x =>
    obtain ⟨n, m⟩ := x
    obtain ⟨hp, hm1, hm6, hpm, hn⟩ := decAt_facts hd
    by_cases hf : l.length < p.toNat + m + n
    · rw [unpT_far hd hf] at h; cases h
    · rw [unpT_yes hd hf] at h
      simp only [Option.some.injEq, Prod.mk.injEq] at h
      obtain ⟨rfl, rfl⟩ := h
      refine ⟨hp, by omega, by omega, ?_⟩
      rw [List.length_take, List.length_drop]; omega
/-- One pair of runs: how many zeros, the others, and where they end. -/
def stepZ (l : List UInt8) (a o : Nat) : Option (Nat × List UInt8 × Nat) :=
  match decAt l (a : Int) with
  | none => none
  | some (n, m) => match unpT l ((a : Int) + (m : Int)) with
    | none => none
    | some (t, k) => if 20000 < o + n + t.length then none else some (n, t, a + m + k)
theorem stepZ_no1 {l : List UInt8} {a o : Nat} (h : decAt l (a : Int) = none) : stepZ l a o = none := by unfold stepZ; rw [h]
theorem stepZ_no2 {l : List UInt8} {a o n m : Nat} (h : decAt l (a : Int) = some (n, m)) (h2 : unpT l ((a : Int) + (m : Int)) = none) : stepZ l a o = none := by unfold stepZ; rw [h]; simp only; rw [h2]
theorem stepZ_no3 {l : List UInt8} {a o n m k : Nat} {t : List UInt8} (h : decAt l (a : Int) = some (n, m)) (h2 : unpT l ((a : Int) + (m : Int)) = some (t, k)) (h3 : 20000 < o + n + t.length) : stepZ l a o = none := by
  unfold stepZ; rw [h]; simp only; rw [h2]; simp only; rw [if_pos h3]
theorem stepZ_yes {l : List UInt8} {a o n m k : Nat} {t : List UInt8} (h : decAt l (a : Int) = some (n, m)) (h2 : unpT l ((a : Int) + (m : Int)) = some (t, k)) (h3 : ¬ 20000 < o + n + t.length) : stepZ l a o = some (n, t, a + m + k) := by
  unfold stepZ; rw [h]; simp only; rw [h2]; simp only; rw [if_neg h3]
def unz (l : List UInt8) (a : Nat) (out : List UInt8) : Option (List UInt8) :=
  if a < l.length then
    match stepZ l a out.length with
    | none => none
    | some (n, t, b) => unz l (max (a + 1) b) (out ++ List.replicate n 0 ++ t)
  else some out
termination_by l.length - a
theorem unz_no {l out : List UInt8} {a : Nat} (ha : a < l.length) (h : stepZ l a out.length = none) : unz l a out = none := by rw [unz, if_pos ha, h]
theorem unz_yes {l out t : List UInt8} {a n m k : Nat} (ha : a < l.length) (h : stepZ l a out.length = some (n, t, a + m + k)) (hk : 1 ≤ m + k) : unz l a out = unz l (a + m + k) (out ++ List.replicate n 0 ++ t) := by
  rw [unz, if_pos ha, h]; simp only; rw [show max (a + 1) (a + m + k) = a + m + k by omega]
theorem unz_end {l out : List UInt8} {a : Nat} (ha : ¬ a < l.length) : unz l a out = some out := by rw [unz, if_neg ha]
/-- What UnpackZeros returns. -/
def unpZ (l : List UInt8) : Option (List UInt8) := match unz l 0 [] with | none => none | some out => if packZ out = l then some out else none
def retUnZ (o : Option (List UInt8)) : Value := .tuple #[.string ⟨(o.getD []).toArray⟩, .bool o.isSome]
theorem unpZ_none {l : List UInt8} (h : unz l 0 [] = none) : unpZ l = none := by unfold unpZ; rw [h]
theorem unpZ_bad {l out : List UInt8} (h : unz l 0 [] = some out) (h2 : packZ out ≠ l) : unpZ l = none := by unfold unpZ; rw [h]; simp only; rw [if_neg h2]
theorem unpZ_good {l out : List UInt8} (h : unz l 0 [] = some out) (h2 : packZ out = l) : unpZ l = some out := by unfold unpZ; rw [h]; simp only; rw [if_pos h2]
end Go.Proofs.YtlagjhgfjaopjaaDoor
