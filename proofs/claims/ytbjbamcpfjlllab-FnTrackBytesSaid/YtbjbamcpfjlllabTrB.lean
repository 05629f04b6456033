/-
  Tracks and their bytes, in plain lists: what PackTrack writes, UnpackTrack reads. No walk of the program.
-/
import Derived.Test.YtbjbamcpfjlllabUnT
namespace Go.Proofs.Ytbjbamcpfjlllab
open Go.RowKit
set_option linter.all false
theorem decR_encV_t : ∀ (f i acc m : Nat) (post : List UInt8), (encV m).length ≤ f → decR f i acc (encV m ++ post) = if 1099511627775 < acc + m * 128 ^ i ∨ (m = 0 ∧ 0 < i) then none else some (acc + m * 128 ^ i, i + (encV m).length)
  | 0, i, acc, m, post, h => by have := encV_pos m; omega
  | f + 1, i, acc, m, post, h => by
    by_cases hm : m < 128
    · rw [encV_lo hm]
      have hb : (UInt8.ofNat m).toNat = m := by have := lo_byte hm; omega
      rw [List.singleton_append, decR, hb, if_neg (by omega), show m % 128 = m by omega]
      simp
    · rw [encV_hi hm] at h ⊢
      have hb : (UInt8.ofNat (m % 128 + 128)).toNat = m % 128 + 128 := by have := hi_byte m; omega
      rw [List.cons_append, decR, hb, if_pos (by omega)]
      simp only [List.length_cons] at h
      rw [decR_encV_t f (i + 1) _ (m / 128) post (by omega)]
      have e : acc + (m % 128 + 128) % 128 * 128 ^ i + m / 128 * 128 ^ (i + 1) = acc + m * 128 ^ i := by
        rw [show (m % 128 + 128) % 128 = m % 128 by omega, Nat.pow_succ, Nat.add_assoc, Nat.mul_comm (128 ^ i) 128, ← Nat.mul_assoc, ← Nat.add_mul]
        congr 2; omega
      rw [e]
      have e2 : (m / 128 = 0 ∧ 0 < i + 1) ↔ (m = 0 ∧ 0 < i) := by omega
      simp only [e2, List.length_cons]
      congr 3
      omega
theorem decAt_enc_t {l post : List UInt8} {q m : Nat} (h : l.drop q = encV m ++ post) (hm : m ≤ 1099511627775) : decAt l (q : Int) = some (m, (encV m).length) := by
  unfold decAt
  rw [if_neg (by omega), Int.toNat_natCast, h, decR_encV_t 6 0 0 m post (encV_len6 hm), if_neg (by simp; omega)]
  simp
theorem runL_split (x : Int) : ∀ l : List Int, l = List.replicate (runL x l) x ++ l.drop (runL x l)
  | [] => rfl
  | y :: ys => by
    unfold runL
    by_cases h : y = x
    · rw [if_pos h, List.replicate_succ, List.cons_append, List.drop_succ_cons, ← runL_split x ys, h]
    · rw [if_neg h]; rfl
theorem unR_pack : ∀ (n f : Nat) (xs : List Int) (pre : List UInt8) (out : List Int), xs.length ≤ n → (∀ x ∈ xs, 0 ≤ x ∧ x ≤ 15) → (packRuns xs).length ≤ f → out.length + xs.length ≤ 400 → unR (pre ++ packRuns xs) f pre.length out = some (out ++ xs)
  | _, f, [], pre, out, _, _, _, _ => by
    rw [show packRuns [] = [] by simp [packRuns], List.append_nil, List.append_nil]
    cases f with
    | zero => rfl
    | succ f => rw [unR, if_neg (by omega)]
  | 0, _, _ :: _, _, _, h, _, _, _ => by simp at h
  | n + 1, f, x :: xs, pre, out, h, hv, hf, ho => by
    obtain ⟨r, hr⟩ : ∃ r, runL x xs = r := ⟨_, rfl⟩
    have hrl : r ≤ xs.length := by rw [← hr]; exact runL_le x xs
    have hsp := runL_split x xs
    rw [hr] at hsp
    obtain ⟨hx0, hx1⟩ := hv x (by simp)
    obtain ⟨c, rfl⟩ : ∃ c : Nat, x = (c : Int) := ⟨x.toNat, by omega⟩
    rw [List.length_cons] at h ho
    obtain ⟨m, hm⟩ : ∃ m, c + 16 * (r + 1) = m := ⟨_, rfl⟩
    have hp : packRuns ((c : Int) :: xs) = encV m ++ packRuns (xs.drop r) := by
      rw [packRuns, hr]
      congr 1
      rw [show (c : Int) + 16 * ((r : Int) + 1) = (m : Int) by omega]
      unfold encI; rw [if_neg (by omega), Int.toNat_natCast]
    rw [hp] at hf ⊢
    have hep := encV_pos m
    rw [List.length_append] at hf
    have hd : decAt (pre ++ (encV m ++ packRuns (xs.drop r))) (pre.length : Int) = some (m, (encV m).length) := decAt_enc_t (post := packRuns (xs.drop r)) (by rw [List.drop_left]) (by omega)
    match f, hf with
    | 0, hf => omega
    | f + 1, hf =>
      rw [unR, if_pos (by rw [List.length_append, List.length_append]; omega), hd]
      simp only
      rw [if_neg (by omega)]
      have ih := unR_pack n f (xs.drop r) (pre ++ encV m) (out ++ List.replicate (m / 16) ((m % 16 : Nat) : Int)) (by rw [List.length_drop]; omega) (fun y hy => hv y (List.mem_cons_of_mem _ (List.mem_of_mem_drop hy))) (by omega) (by rw [List.length_append, List.length_replicate, List.length_drop]; omega)
      rw [List.length_append, List.append_assoc] at ih
      rw [ih, show m / 16 = r + 1 by omega, show m % 16 = c by omega, List.append_assoc, List.replicate_succ, List.cons_append, ← hsp]
/-- What PackTrack writes of a track, UnpackTrack reads as that track. -/
theorem unT_pack {xs : List Int} (h : trkB xs = true) : unT (packTr xs) = some xs := by
  obtain ⟨h400, hv⟩ := trkB_facts h
  have e := packTr_ok h
  have hu := unR_pack xs.length (packRuns xs).length xs [] [] (Nat.le_refl _) (fun y hy => by obtain ⟨k, hk, rfl⟩ := List.mem_iff_getElem.1 hy; exact hv k hk) (Nat.le_refl _) (by simpa using h400)
  rw [List.nil_append, List.nil_append, List.length_nil, ← e] at hu
  unfold unT
  rw [hu]
  simp only [if_true]
/-- What UnpackTrack reads, PackTrack writes as those bytes. -/
theorem packTr_unT {l : List UInt8} {xs : List Int} (h : unT l = some xs) : packTr xs = l := by
  unfold unT at h
  split at h
  · cases h
  · split at h
    · obtain rfl := Option.some.inj h; assumption
    · cases h
end Go.Proofs.Ytbjbamcpfjlllab
