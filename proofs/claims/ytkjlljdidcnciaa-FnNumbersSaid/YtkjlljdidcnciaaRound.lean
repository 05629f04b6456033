/-
  Plain mathematics: what was encoded is decoded, whatever stands before and behind it. No program in sight.
-/
import Derived.Test.YtkjlljdidcnciaaText
import Derived.Test.YtkjlljdidcnciaaUnpI
import Derived.Test.YtkjlljdidcnciaaPackI
namespace Go.Proofs.Ytkjlljdidcnciaa
open Go.RowKit
set_option linter.all false

theorem decR_encV : ∀ (f i acc m : Nat) (post : List UInt8), (encV m).length ≤ f → decR f i acc (encV m ++ post) = if 1099511627775 < acc + m * 128 ^ i ∨ (m = 0 ∧ 0 < i) then none else some (acc + m * 128 ^ i, i + (encV m).length)
  | 0, i, acc, m, post, h => by have := encV_pos m; omega
  | f + 1, i, acc, m, post, h => by
    by_cases hm : m < 128
    · rw [encV_lo hm]
      have hb : (UInt8.ofNat m).toNat = m := by have := lo_byte hm; omega
      rw [List.singleton_append, decR, hb, if_neg (by omega), show m % 128 = m by omega]
      simp
    · rw [encV_hi hm] at h ⊢
      have hb : (UInt8.ofNat (m % 128 + 128)).toNat = m % 128 + 128 := by have := hi_byte m; omega
      rw [List.cons_append, decR, hb, if_pos (by omega)]
      simp only [List.length_cons] at h
      rw [decR_encV f (i + 1) _ (m / 128) post (by omega)]
      have e : acc + (m % 128 + 128) % 128 * 128 ^ i + m / 128 * 128 ^ (i + 1) = acc + m * 128 ^ i := by
        rw [show (m % 128 + 128) % 128 = m % 128 by omega, Nat.pow_succ, Nat.add_assoc, Nat.mul_comm (128 ^ i) 128, ← Nat.mul_assoc, ← Nat.add_mul]
        congr 2; omega
      rw [e]
      have e2 : (m / 128 = 0 ∧ 0 < i + 1) ↔ (m = 0 ∧ 0 < i) := by omega
      simp only [e2, List.length_cons]
      congr 3
      omega
theorem decAt_enc {l post : List UInt8} {q m : Nat} (h : l.drop q = encV m ++ post) (hm : m ≤ 1099511627775) : decAt l (q : Int) = some (m, (encV m).length) := by
  unfold decAt
  rw [if_neg (by omega), Int.toNat_natCast, h, decR_encV 6 0 0 m post (encV_len6 hm), if_neg (by simp; omega)]
  simp
theorem signed_signless {x : Int} (h : -549755813888 ≤ x ∧ x ≤ 549755813887) : signedI (signlessI x) = x ∧ 0 ≤ signlessI x ∧ signlessI x ≤ 1099511627775 := by
  by_cases hx : x < 0
  · have e : signlessI x = -2 * x - 1 := by unfold signlessI; rw [if_neg (by omega), if_pos hx]
    rw [e]
    refine ⟨?_, by omega, by omega⟩
    unfold signedI; rw [if_neg (by omega), if_pos (by omega)]; omega
  · have e : signlessI x = 2 * x := by unfold signlessI; rw [if_neg (by omega), if_neg hx]
    rw [e]
    refine ⟨?_, by omega, by omega⟩
    unfold signedI; rw [if_neg (by omega), if_neg (by omega)]; omega
theorem unpR_pack (l post : List UInt8) (q : Nat) : ∀ (xs : List Int) (size : Nat) (bs : List UInt8), (∀ x ∈ xs, -549755813888 ≤ x ∧ x ≤ 549755813887) → packR xs = some bs → l.drop (q + size) = bs ++ post → unpR l q xs.length size = some (xs, size + bs.length)
  | [], size, bs, _, hp, _ => by simp [packR] at hp; subst hp; simp [unpR]
  | x :: xs, size, bs, hx, hp, hd => by
    obtain ⟨h1, h2, h3⟩ := signed_signless (hx x (by simp))
    rw [packR, if_neg (by omega)] at hp
    cases hr : packR xs with
    | none => rw [hr] at hp; cases hp
    | some r =>
      rw [hr] at hp
      simp only [Option.map_some, Option.some.injEq] at hp
      subst hp
      have he : encI (signlessI x) = encV (signlessI x).toNat := by unfold encI; rw [if_neg (by omega)]
      rw [he, List.append_assoc] at hd
      have hdec := decAt_enc hd (by omega)
      have hd2 : l.drop (q + (size + (encV (signlessI x).toNat).length)) = r ++ post := by
        rw [← Nat.add_assoc, ← List.drop_drop, hd, List.drop_left]
      have ih := unpR_pack l post q xs _ r (fun y hy => hx y (by simp [hy])) hr hd2
      rw [List.length_cons, unpR, hdec]
      simp only [ih, Option.map_some, Option.some.injEq, Prod.mk.injEq, List.cons.injEq, and_true]
      rw [Int.toNat_of_nonneg h2]
      refine ⟨h1, ?_⟩
      rw [he, List.length_append]; omega
theorem packR_all : ∀ (xs : List Int), (∀ x ∈ xs, -549755813888 ≤ x ∧ x ≤ 549755813887) → ∃ bs, packR xs = some bs
  | [], _ => ⟨[], rfl⟩
  | x :: xs, h => by
    obtain ⟨bs, hb⟩ := packR_all xs (fun y hy => h y (by simp [hy]))
    have := (signed_signless (h x (by simp))).2.1
    exact ⟨_, by rw [packR, if_neg (by omega), hb]; rfl⟩
theorem unpI_pack {l post : List UInt8} {q : Nat} {xs : List Int} (hx : ∀ x ∈ xs, -549755813888 ≤ x ∧ x ≤ 549755813887) (hn : xs.length ≤ 1099511627775) (hd : l.drop q = packI xs ++ post) : unpI l (q : Int) = some (xs, (packI xs).length) := by
  obtain ⟨bs, hb⟩ := packR_all xs hx
  have hp := packI_some hb
  have he : encI (xs.length : Int) = encV xs.length := by unfold encI; rw [if_neg (by omega), Int.toNat_natCast]
  rw [hp, he, List.append_assoc] at hd
  have hdec := decAt_enc hd hn
  unfold unpI
  rw [hdec]
  simp only [Int.toNat_natCast]
  have hd2 : l.drop (q + (encV xs.length).length) = bs ++ post := by rw [← List.drop_drop, hd, List.drop_left]
  rw [unpR_pack l post q xs _ bs hx hb hd2, hp, he, List.length_append]
theorem unpT_pack {l post s : List UInt8} {q : Nat} (hn : s.length ≤ 1099511627775) (hd : l.drop q = packT s ++ post) : unpT l (q : Int) = some (s, (packT s).length) := by
  have he : encI (s.length : Int) = encV s.length := by unfold encI; rw [if_neg (by omega), Int.toNat_natCast]
  unfold packT at hd ⊢
  rw [he] at hd ⊢
  rw [List.append_assoc] at hd
  have hdec := decAt_enc hd hn
  have hd2 : l.drop (q + (encV s.length).length) = s ++ post := by rw [← List.drop_drop, hd, List.drop_left]
  have hlen : (l.drop (q + (encV s.length).length)).length = (s ++ post).length := by rw [hd2]
  rw [List.length_drop, List.length_append] at hlen
  by_cases hs0 : s.length = 0
  · have : s = [] := List.eq_nil_of_length_eq_zero hs0
    subst this
    unfold unpT; rw [hdec]
    have hq := (decAt_facts hdec).2.2.2.1
    simp only [Int.toNat_natCast, List.length_nil, Nat.add_zero] at hq ⊢
    rw [if_neg (by omega)]; simp
  · rw [unpT_yes hdec (by rw [Int.toNat_natCast]; omega), Int.toNat_natCast, hd2, List.take_left, List.length_append]
end Go.Proofs.Ytkjlljdidcnciaa
