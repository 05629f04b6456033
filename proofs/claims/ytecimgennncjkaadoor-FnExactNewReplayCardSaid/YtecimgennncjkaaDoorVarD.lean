/-
  Contracts of DecodeVarint, and the law on it. Strings of at most 2^46 bytes.
-/
import Derived.Test.YtecimgennncjkaaDoorVarE
import Derived.WalkLawsBesides
import Derived.Deep.RegionWith
namespace Go.Proofs.YtecimgennncjkaaDoor
open Go.RowKit
set_option linter.all false

def decR : Nat → Nat → Nat → List UInt8 → Option (Nat × Nat)
  | 0, _, _, _ => none
  | _ + 1, _, _, [] => none
  | f + 1, i, n, b :: l =>
    if 127 < b.toNat then decR f (i + 1) (n + b.toNat % 128 * 128 ^ i) l
    else if 1099511627775 < n + b.toNat % 128 * 128 ^ i ∨ (b.toNat = 0 ∧ 0 < i) then none
    else some (n + b.toNat % 128 * 128 ^ i, i + 1)
/-- What DecodeVarint reads: the number and its length. -/
def decAt (l : List UInt8) (at_ : Int) : Option (Nat × Nat) := if at_ < 0 then none else decR 6 0 0 (l.drop at_.toNat)
def retDec (o : Option (Nat × Nat)) : Value := .tuple #[.int .i64 ((o.getD (0, 0)).1 : Nat), .int .i64 ((o.getD (0, 0)).2 : Nat), .bool o.isSome]

theorem retDec_some (a b : Nat) : retDec (some (a, b)) = .tuple #[.int .i64 (a : Int), .int .i64 (b : Int), .bool true] := rfl
theorem dec_end (f i n : Nat) : decR f i n [] = none := by cases f <;> rfl
theorem dec_six (n : Nat) (l : List UInt8) : decR (6 - 6) 6 n l = none := rfl
theorem dec_more {k n : Nat} {c : UInt8} {r : List UInt8} (hk : k < 6) (hc : 127 < c.toNat) : decR (6 - k) k n (c :: r) = decR (6 - (k + 1)) (k + 1) (n + c.toNat % 128 * 128 ^ k) r := by
  rw [show 6 - k = (6 - (k + 1)) + 1 by omega, decR, if_pos hc]
theorem dec_bad {k n : Nat} {c : UInt8} {r : List UInt8} (hk : k < 6) (hc : ¬ 127 < c.toNat) (h : 1099511627775 < n + c.toNat % 128 * 128 ^ k ∨ (c.toNat = 0 ∧ 0 < k)) : decR (6 - k) k n (c :: r) = none := by
  rw [show 6 - k = (6 - (k + 1)) + 1 by omega, decR, if_neg hc, if_pos h]
theorem dec_ok {k n : Nat} {c : UInt8} {r : List UInt8} (hk : k < 6) (hc : ¬ 127 < c.toNat) (h : ¬ (1099511627775 < n + c.toNat % 128 * 128 ^ k ∨ (c.toNat = 0 ∧ 0 < k))) : decR (6 - k) k n (c :: r) = some (n + c.toNat % 128 * 128 ^ k, k + 1) := by
  rw [show 6 - k = (6 - (k + 1)) + 1 by omega, decR, if_neg hc, if_neg h]
theorem pow_128 (k : Nat) : (128 : Nat) ^ k = 2 ^ (7 * k) := by rw [Nat.pow_mul]
theorem dec_cast (n c k : Nat) : (((n + c % 128 * 128 ^ k : Nat)) : Int) = (n : Int) + (c : Int) % 128 * 2 ^ (7 * k) := by
  rw [pow_128]; simp
theorem pow_le6 {k : Nat} (hk : k < 6) : (2 : Nat) ^ (7 * k) ≤ 34359738368 := by
  have : (2 : Nat) ^ (7 * k) ≤ 2 ^ 35 := Nat.pow_le_pow_right (by decide) (by omega)
  exact this
theorem dec_bound {n k : Nat} (c : Nat) (hn : n < 128 ^ k) : n + c % 128 * 128 ^ k < 128 ^ (k + 1) := by
  rw [Nat.pow_succ]
  have : c % 128 * 128 ^ k ≤ 127 * 128 ^ k := Nat.mul_le_mul_right _ (by omega)
  omega
theorem dec_term {k : Nat} (c : Nat) (hk : k < 6) : 0 ≤ (c : Int) % 128 * 2 ^ (7 * k) ∧ (c : Int) % 128 * 2 ^ (7 * k) ≤ 4398046511104 := by
  have h : ((c % 128 * 2 ^ (7 * k) : Nat) : Int) = (c : Int) % 128 * 2 ^ (7 * k) := by simp
  rw [← h]
  have : c % 128 * 2 ^ (7 * k) ≤ 127 * 34359738368 := Nat.mul_le_mul (by omega) (pow_le6 hk)
  omega
theorem byte_at {l : List UInt8} {i : Nat} (h : i < (ByteArray.mk l.toArray).size) : (ByteArray.mk l.toArray)[i] = l[i]'h := rfl
theorem drop_at {l : List UInt8} {i : Nat} (h : i < l.length) : l.drop i = l[i] :: l.drop (i + 1) := List.drop_eq_getElem_cons h

set_option maxHeartbeats 400000 in
theorem decodeVarint_impl (l : List UInt8) (p : Int) (w : World) (hs : l.length ≤ 70368744177664) :
    Calls Tryd.prog 111 #[.string ⟨l.toArray⟩, .int .i64 p] w fun e w' => e = .returned (retDec (decAt l p)) ∧ w = w' := by
  by_cases h1 : p < 0
  · have g1 : decide (p < 0) = true := by simpa using h1
    have hf := Lib.hid (show decAt l p = none by unfold decAt; rw [if_pos h1])
    go_enter Tryd.func111, Tryd.ntmps111
    go_wp2
    go_ret3
    exact ⟨by rw [hf.out]; rfl, rfl⟩
  · have g1 : decide (p < 0) = false := by simpa using h1
    obtain ⟨q, rfl⟩ := Int.eq_ofNat_of_zero_le (show 0 ≤ p by omega)
    by_cases h2 : l.length ≤ q
    · have g2 : decide (((l.length : Nat) : Int) ≤ (q : Int)) = true := by simp; omega
      have hf := Lib.hid (show decAt l (q : Int) = none by unfold decAt; rw [if_neg (by omega), Int.toNat_natCast, List.drop_eq_nil_of_le h2]; rfl)
      go_enter Tryd.func111, Tryd.ntmps111
      go_wp2
      go_ret3
      exact ⟨by rw [hf.out]; rfl, rfl⟩
    · have g2 : decide (((l.length : Nat) : Int) ≤ (q : Int)) = false := by simp; omega
      have h3 : q < l.length := by omega
      by_cases h6 : (l.length : Int) - q ≤ 6
      all_goals
        go_enter Tryd.func111, Tryd.ntmps111
        go_wp2
        go_loop [7, 23] (fun x i => ∃ k n : Nat, k ≤ 6 ∧ q + k ≤ l.length ∧ n < 128 ^ k ∧ i = .int .i64 k ∧ x = .int .i64 n ∧ decR (6 - k) k n (l.drop (q + k)) = decAt l q) (fun _ i => 6 - (intOf i).toNat)
        case atStart => exact ⟨0, 0, by omega, by omega, by decide, rfl, rfl, by unfold decAt; rw [if_neg (by omega), Int.toNat_natCast]; rfl⟩
        case round =>
          obtain ⟨k, n, hk6, hkl, hn, rfl, rfl, hd⟩ := hrel
          by_cases hlt : k < 6 ∧ q + k < l.length
          · obtain ⟨hk, hql⟩ := hlt
            rw [drop_at hql] at hd
            obtain ⟨c, hc⟩ : ∃ c, c = l[q + k] := ⟨_, rfl⟩
            rw [← hc] at hd
            have hix : (ByteArray.mk l.toArray)[q + k]'hql = c := hc.symm
            have hc255 : (c.toNat : Int) ≤ 255 := by have := c.toNat_lt; omega
            obtain ⟨ht0, ht1⟩ := dec_term c.toNat hk
            have hn1 : (n : Int) ≤ 34359738368 := by have := pow_le6 hk; rw [← pow_128] at this; omega
            have HN := Lib.hid (dec_bound c.toNat hn)
            have HC := Lib.hid (dec_cast n c.toNat k)
            clear hn hc
            by_cases hb : 127 < (c.toNat : Int)
            · have HD := Lib.hid ((dec_more hk (by omega)).symm.trans hd); clear hd
              go_wp2
              go_round
              case rel => exact ⟨k + 1, _, by omega, by omega, HN.out, by go_num, by rw [HC.out], HD.out⟩
              case measure => simp [intOf]; omega
            · by_cases hN : 1099511627775 < (n : Int) + (c.toNat : Int) % 128 * 2 ^ (7 * k)
              · have HD := Lib.hid (hd.symm.trans (dec_bad hk (by omega) (Or.inl (by have := HC.out; omega)))); clear hd
                have b1 : decide (1099511627775 < (n : Int) + (c.toNat : Int) % 128 * 2 ^ (7 * k)) = true := by simpa using hN
                go_wp2
                go_ret3
                exact ⟨by rw [HD.out]; rfl, rfl⟩
              · have b1 : decide (1099511627775 < (n : Int) + (c.toNat : Int) % 128 * 2 ^ (7 * k)) = false := by simpa using hN
                by_cases hz : (c.toNat : Int) = 0
                · have hz' : c = 0 := by apply UInt8.toNat_inj.1; simp; omega
                  subst hz'
                  by_cases h0 : 0 < k
                  · have HD := Lib.hid (hd.symm.trans (dec_bad hk (by decide) (Or.inr ⟨rfl, h0⟩))); clear hd
                    have b2 : decide (0 < (k : Int)) = true := by simpa using h0
                    go_wp2
                    go_ret3
                    exact ⟨by rw [HD.out]; rfl, rfl⟩
                  · have HD := Lib.hid (hd.symm.trans (dec_ok hk (by decide) (by have := HC.out; omega))); clear hd
                    have b2 : decide (0 < (k : Int)) = false := by simpa using h0
                    go_wp2
                    go_ret3
                    exact ⟨by rw [HD.out]; simp [retDec]; done, rfl⟩
                · have HD := Lib.hid (hd.symm.trans (dec_ok hk (by omega) (by have := HC.out; omega))); clear hd
                  have b2 : ((c.toNat : Int) == 0) = false := by simpa using hz
                  clear hz
                  go_wp2
                  go_ret3
                  exact ⟨by rw [HD.out, retDec_some, HC.out]; rfl, rfl⟩
          · have hf : decAt l q = none := by
              rw [← hd]
              by_cases h : k = 6
              · subst h; exact dec_six _ _
              · rw [List.drop_eq_nil_of_le (by omega)]; exact dec_end _ _ _
            have HF := Lib.hid hf; clear hf hd
            go_wp2
            go_ret3
            exact ⟨by rw [HF.out]; rfl, rfl⟩
end Go.Proofs.YtecimgennncjkaaDoor
