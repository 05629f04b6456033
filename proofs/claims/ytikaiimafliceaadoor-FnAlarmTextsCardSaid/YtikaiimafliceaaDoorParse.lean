/-
  ParseUint: the plain mathematics, the contracts of the model and of the program, the law. Condition: what the given row lists.
-/
import Derived.Test.YtikaiimafliceaaDoorLaidT
import Derived.Lib.AtoiAll
namespace Go.Proofs.YtikaiimafliceaaDoor
open Go.RowKit
set_option linter.all false

def dval : List UInt8 → Nat → Nat
  | [], a => a
  | c :: l, a => dval l (10 * a + (c.toNat - 48))
theorem dval_append (l m : List UInt8) : ∀ a, dval (l ++ m) a = dval m (dval l a) := by
  induction l with
  | nil => intro a; rfl
  | cons c l ih => intro a; simp only [List.cons_append, dval, ih]
theorem dig_val (u : Nat) (h : u < 10) : (UInt8.ofNat (48 + u)).toNat = 48 + u := by simp; omega
theorem dec_big {u : Nat} (h : ¬ u < 10) : Lib.decDigits u = Lib.decDigits (u / 10) ++ [UInt8.ofNat (48 + u % 10)] := by
  conv => lhs; rw [Lib.decDigits, dif_neg h]
theorem dval_dec (u : Nat) : dval (Lib.decDigits u) 0 = u := by
  induction u using Nat.strongRecOn with
  | _ u ih =>
    by_cases h : u < 10
    · rw [Lib.decDigits_one h]; simp only [dval]; rw [dig_val u h]; omega
    · rw [dec_big h, dval_append, ih (u / 10) (by omega)]; simp only [dval]; rw [dig_val _ (by omega)]; omega
theorem dec_dig (u : Nat) : ∀ c ∈ Lib.decDigits u, 48 ≤ c.toNat ∧ c.toNat ≤ 57 := by
  induction u using Nat.strongRecOn with
  | _ u ih =>
    by_cases h : u < 10
    · rw [Lib.decDigits_one h]; intro c hc; simp only [List.mem_singleton] at hc; subst hc; rw [dig_val u h]; omega
    · rw [dec_big h]; intro c hc
      rcases List.mem_append.1 hc with hc | hc
      · exact ih (u / 10) (by omega) c hc
      · simp only [List.mem_singleton] at hc; subst hc; rw [dig_val _ (by omega)]; omega
theorem dec_len (u : Nat) (h : u ≤ 1000000000) : (Lib.decDigits u).length ≤ 10 := by
  rw [Lib.decDigits_length]
  rcases Nat.eq_zero_or_pos u with rfl | h1
  · rw [Lib.nDigits_small (by omega)]; omega
  · exact Nat.le_of_not_lt fun hlt => by
      have hh := Lib.decDigits_length u
      have := Lib.nDigits_unique (Lib.nDigits u - 1) u
      have hp := Lib.nDigits_pos u
      have key : ∀ k v, Lib.nDigits v = k + 1 → 1 ≤ v → 10 ^ k ≤ v := by
        intro k
        induction k with
        | zero => intro v _ hv; simpa using hv
        | succ k ihk =>
          intro v hv h1
          by_cases hs : v < 10
          · rw [Lib.nDigits_small hs] at hv; omega
          · rw [Lib.nDigits_big hs] at hv
            have := ihk (v / 10) (by omega) (by omega)
            rw [Nat.pow_succ]; omega
      have h10 := key (Lib.nDigits u - 1) u (by omega) h1
      have : 10 ^ 10 ≤ 10 ^ (Lib.nDigits u - 1) := Nat.pow_le_pow_right (by omega) (by omega)
      have : (10 : Nat) ^ 10 = 10000000000 := by decide
      omega
theorem dec_ne (u : Nat) : Lib.decDigits u ≠ [] := by
  intro h
  have := Lib.nDigits_pos u
  rw [← Lib.decDigits_length, h] at this
  simp at this
/-- What ParseUint returns. -/
def puL (l : List UInt8) : Option Nat := if dval l 0 ≤ 1000000000 ∧ Lib.decDigits (dval l 0) = l then some (dval l 0) else none
def retPu : Option Nat → Value
  | some n => .tuple #[.int .i64 (n : Int), .bool true]
  | none => .tuple #[.int .i64 0, .bool false]
theorem puL_some {l : List UInt8} {u : Nat} (h : u ≤ 1000000000) (e : Lib.decDigits u = l) : puL l = some u := by
  subst e; unfold puL; rw [dval_dec, if_pos ⟨h, rfl⟩]
theorem puL_of {l : List UInt8} {u : Nat} (h : puL l = some u) : u ≤ 1000000000 ∧ Lib.decDigits u = l := by
  unfold puL at h; split at h
  · rename_i hh; simp only [Option.some.injEq] at h; subst h; exact hh
  · cases h
theorem puL_none {l : List UInt8} (h : ∀ u, u ≤ 1000000000 → Lib.decDigits u ≠ l) : puL l = none := by
  cases e : puL l with
  | none => rfl
  | some u => exact absurd (puL_of e).2 (h u (puL_of e).1)
theorem puL_long {l : List UInt8} (h : 10 < l.length) : puL l = none := puL_none fun u hu e => by have := dec_len u hu; rw [e] at this; omega
theorem puL_bad {l : List UInt8} {k : Nat} (hk : k < l.length) (hb : ¬ (48 ≤ l[k].toNat ∧ l[k].toNat ≤ 57)) : puL l = none := puL_none fun u _ e => hb (dec_dig u _ (by rw [e]; exact List.getElem_mem hk))
theorem dval_take {l : List UInt8} {k : Nat} (hk : k < l.length) : dval (l.take (k + 1)) 0 = 10 * dval (l.take k) 0 + (l[k].toNat - 48) := by
  rw [List.take_succ_eq_append_getElem hk, dval_append]; rfl
theorem dval_lt (l : List UInt8) : (∀ c ∈ l, c.toNat ≤ 57) → ∀ a, dval l a < (a + 1) * 10 ^ l.length := by
  induction l with
  | nil => intro _ a; simp [dval]
  | cons c l ih =>
    intro h a
    have hc := h c (by simp)
    have := ih (fun d hd => h d (by simp [hd])) (10 * a + (c.toNat - 48))
    simp only [dval, List.length_cons, Nat.pow_succ]
    have h2 : (10 * a + (c.toNat - 48) + 1) * 10 ^ l.length ≤ (10 * (a + 1)) * 10 ^ l.length := Nat.mul_le_mul_right _ (by omega)
    have h3 : (10 * (a + 1)) * 10 ^ l.length = (a + 1) * (10 ^ l.length * 10) := by rw [Nat.mul_comm 10 (a + 1), Nat.mul_assoc, Nat.mul_comm 10]
    omega
end Go.Proofs.YtikaiimafliceaaDoor
