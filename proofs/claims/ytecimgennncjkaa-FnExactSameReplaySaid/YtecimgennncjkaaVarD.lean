/-
  Contracts of DecodeVarint, and the law on it. Strings of at most 2^46 bytes.
-/
import Derived.Test.YtecimgennncjkaaVarE
import Derived.WalkLawsBesides
import Derived.Deep.RegionWith
namespace Go.Proofs.Ytecimgennncjkaa
open Go.RowKit
set_option linter.all false

def decR : Nat → Nat → Nat → List UInt8 → Option (Nat × Nat)
  | 0, _, _, _ => none
  | _ + 1, _, _, [] => none
  | f + 1, i, n, b :: l =>
    if 127 < b.toNat then decR f (i + 1) (n + b.toNat % 128 * 128 ^ i) l
    else if 1099511627775 < n + b.toNat % 128 * 128 ^ i ∨ (b.toNat = 0 ∧ 0 < i) then none
    else some (n + b.toNat % 128 * 128 ^ i, i + 1)
/-- What DecodeVarint reads: the number and its length. -/
def decAt (l : List UInt8) (at_ : Int) : Option (Nat × Nat) := if at_ < 0 then none else decR 6 0 0 (l.drop at_.toNat)
def retDec (o : Option (Nat × Nat)) : Value := .tuple #[.int .i64 ((o.getD (0, 0)).1 : Nat), .int .i64 ((o.getD (0, 0)).2 : Nat), .bool o.isSome]

theorem retDec_some (a b : Nat) : retDec (some (a, b)) = .tuple #[.int .i64 (a : Int), .int .i64 (b : Int), .bool true] := rfl
theorem dec_end (f i n : Nat) : decR f i n [] = none := by cases f <;> rfl
theorem dec_six (n : Nat) (l : List UInt8) : decR (6 - 6) 6 n l = none := rfl
theorem dec_more {k n : Nat} {c : UInt8} {r : List UInt8} (hk : k < 6) (hc : 127 < c.toNat) : decR (6 - k) k n (c :: r) = decR (6 - (k + 1)) (k + 1) (n + c.toNat % 128 * 128 ^ k) r := by
  rw [show 6 - k = (6 - (k + 1)) + 1 by omega, decR, if_pos hc]
theorem dec_bad {k n : Nat} {c : UInt8} {r : List UInt8} (hk : k < 6) (hc : ¬ 127 < c.toNat) (h : 1099511627775 < n + c.toNat % 128 * 128 ^ k ∨ (c.toNat = 0 ∧ 0 < k)) : decR (6 - k) k n (c :: r) = none := by
  rw [show 6 - k = (6 - (k + 1)) + 1 by omega, decR, if_neg hc, if_pos h]
theorem dec_ok {k n : Nat} {c : UInt8} {r : List UInt8} (hk : k < 6) (hc : ¬ 127 < c.toNat) (h : ¬ (1099511627775 < n + c.toNat % 128 * 128 ^ k ∨ (c.toNat = 0 ∧ 0 < k))) : decR (6 - k) k n (c :: r) = some (n + c.toNat % 128 * 128 ^ k, k + 1) := by
  rw [show 6 - k = (6 - (k + 1)) + 1 by omega, decR, if_neg hc, if_neg h]
theorem pow_128 (k : Nat) : (128 : Nat) ^ k = 2 ^ (7 * k) := by rw [Nat.pow_mul]
theorem dec_cast (n c k : Nat) : (((n + c % 128 * 128 ^ k : Nat)) : Int) = (n : Int) + (c : Int) % 128 * 2 ^ (7 * k) := by
  rw [pow_128]; simp
theorem pow_le6 {k : Nat} (hk : k < 6) : (2 : Nat) ^ (7 * k) ≤ 34359738368 := by
  have : (2 : Nat) ^ (7 * k) ≤ 2 ^ 35 := Nat.pow_le_pow_right (by decide) (by omega)
  exact this
theorem dec_bound {n k : Nat} (c : Nat) (hn : n < 128 ^ k) : n + c % 128 * 128 ^ k < 128 ^ (k + 1) := by
  rw [Nat.pow_succ]
  have : c % 128 * 128 ^ k ≤ 127 * 128 ^ k := Nat.mul_le_mul_right _ (by omega)
  omega
theorem dec_term {k : Nat} (c : Nat) (hk : k < 6) : 0 ≤ (c : Int) % 128 * 2 ^ (7 * k) ∧ (c : Int) % 128 * 2 ^ (7 * k) ≤ 4398046511104 := by
  have h : ((c % 128 * 2 ^ (7 * k) : Nat) : Int) = (c : Int) % 128 * 2 ^ (7 * k) := by simp
  rw [← h]
  have : c % 128 * 2 ^ (7 * k) ≤ 127 * 34359738368 := Nat.mul_le_mul (by omega) (pow_le6 hk)
  omega
theorem byte_at {l : List UInt8} {i : Nat} (h : i < (ByteArray.mk l.toArray).size) : (ByteArray.mk l.toArray)[i] = l[i]'h := rfl
theorem drop_at {l : List UInt8} {i : Nat} (h : i < l.length) : l.drop i = l[i] :: l.drop (i + 1) := List.drop_eq_getElem_cons h

set_option maxHeartbeats 400000 in
theorem decodeVarint_impl (l : List UInt8) (p : Int) (w : World) (hs : l.length ≤ 70368744177664) :
    Calls Try.prog 80 #[.string ⟨l.toArray⟩, .int .i64 p] w fun e w' => e = .returned (retDec (decAt l p)) ∧ w = w' := by
  by_cases h1 : p < 0
  · have g1 : decide (p < 0) = true := by simpa using h1
    have hf := Lib.hid (show decAt l p = none by unfold decAt; rw [if_pos h1])
    go_enter Try.func80, Try.ntmps80
    go_wp2
    go_ret3
    exact ⟨by rw [hf.out]; rfl, rfl⟩
  · have g1 : decide (p < 0) = false := by simpa using h1
    obtain ⟨q, rfl⟩ := Int.eq_ofNat_of_zero_le (show 0 ≤ p by omega)
    by_cases h2 : l.length ≤ q
    · have g2 : decide (((l.length : Nat) : Int) ≤ (q : Int)) = true := by simp; omega
      have hf := Lib.hid (show decAt l (q : Int) = none by unfold decAt; rw [if_neg (by omega), Int.toNat_natCast, List.drop_eq_nil_of_le h2]; rfl)
      go_enter Try.func80, Try.ntmps80
      go_wp2
      go_ret3
      exact ⟨by rw [hf.out]; rfl, rfl⟩
    · have g2 : decide (((l.length : Nat) : Int) ≤ (q : Int)) = false := by simp; omega
      have h3 : q < l.length := by omega
      by_cases h6 : (l.length : Int) - q ≤ 6
      all_goals
        go_enter Try.func80, Try.ntmps80
        go_wp2
        go_loop [7, 23] (fun x i => ∃ k n : Nat, k ≤ 6 ∧ q + k ≤ l.length ∧ n < 128 ^ k ∧ i = .int .i64 k ∧ x = .int .i64 n ∧ decR (6 - k) k n (l.drop (q + k)) = decAt l q) (fun _ i => 6 - (intOf i).toNat)
        case atStart => exact ⟨0, 0, by omega, by omega, by decide, rfl, rfl, by unfold decAt; rw [if_neg (by omega), Int.toNat_natCast]; rfl⟩
        case round =>
          obtain ⟨k, n, hk6, hkl, hn, rfl, rfl, hd⟩ := hrel
          by_cases hlt : k < 6 ∧ q + k < l.length
          · obtain ⟨hk, hql⟩ := hlt
            rw [drop_at hql] at hd
            obtain ⟨c, hc⟩ : ∃ c, c = l[q + k] := ⟨_, rfl⟩
            rw [← hc] at hd
            have hix : (ByteArray.mk l.toArray)[q + k]'hql = c := hc.symm
            have hc255 : (c.toNat : Int) ≤ 255 := by have := c.toNat_lt; omega
            obtain ⟨ht0, ht1⟩ := dec_term c.toNat hk
            have hn1 : (n : Int) ≤ 34359738368 := by have := pow_le6 hk; rw [← pow_128] at this; omega
            have HN := Lib.hid (dec_bound c.toNat hn)
            have HC := Lib.hid (dec_cast n c.toNat k)
            clear hn hc
            by_cases hb : 127 < (c.toNat : Int)
            · have HD := Lib.hid ((dec_more hk (by omega)).symm.trans hd); clear hd
              go_wp2
              go_round
              case rel => exact ⟨k + 1, _, by omega, by omega, HN.out, by go_num, by rw [HC.out], HD.out⟩
              case measure => simp [intOf]; omega
            · by_cases hN : 1099511627775 < (n : Int) + (c.toNat : Int) % 128 * 2 ^ (7 * k)
              · have HD := Lib.hid (hd.symm.trans (dec_bad hk (by omega) (Or.inl (by have := HC.out; omega)))); clear hd
                have b1 : decide (1099511627775 < (n : Int) + (c.toNat : Int) % 128 * 2 ^ (7 * k)) = true := by simpa using hN
                go_wp2
                go_ret3
                exact ⟨by rw [HD.out]; rfl, rfl⟩
              · have b1 : decide (1099511627775 < (n : Int) + (c.toNat : Int) % 128 * 2 ^ (7 * k)) = false := by simpa using hN
                by_cases hz : (c.toNat : Int) = 0
                · have hz' : c = 0 := by apply UInt8.toNat_inj.1; simp; omega
                  subst hz'
                  by_cases h0 : 0 < k
                  · have HD := Lib.hid (hd.symm.trans (dec_bad hk (by decide) (Or.inr ⟨rfl, h0⟩))); clear hd
                    have b2 : decide (0 < (k : Int)) = true := by simpa using h0
                    go_wp2
                    go_ret3
                    exact ⟨by rw [HD.out]; rfl, rfl⟩
                  · have HD := Lib.hid (hd.symm.trans (dec_ok hk (by decide) (by have := HC.out; omega))); clear hd
                    have b2 : decide (0 < (k : Int)) = false := by simpa using h0
                    go_wp2
                    go_ret3
                    exact ⟨by rw [HD.out]; simp [retDec]; done, rfl⟩
                · have HD := Lib.hid (hd.symm.trans (dec_ok hk (by omega) (by have := HC.out; omega))); clear hd
                  have b2 : ((c.toNat : Int) == 0) = false := by simpa using hz
                  clear hz
                  go_wp2
                  go_ret3
                  exact ⟨by rw [HD.out, retDec_some, HC.out]; rfl, rfl⟩
          · have hf : decAt l q = none := by
              rw [← hd]
              by_cases h : k = 6
              · subst h; exact dec_six _ _
              · rw [List.drop_eq_nil_of_le (by omega)]; exact dec_end _ _ _
            have HF := Lib.hid hf; clear hf hd
            go_wp2
            go_ret3
            exact ⟨by rw [HF.out]; rfl, rfl⟩
/-- The k bytes read so far make n: whatever follows is put before. -/
def EncPre (k n : Nat) (pre : List UInt8) : Prop := pre.length = k ∧ ∀ m : Nat, (0 < m ∨ k = 0) → encV (n + m * 128 ^ k) = pre ++ encV m
theorem EncPre.zero : EncPre 0 0 [] := ⟨rfl, fun m _ => by simp⟩
theorem EncPre.more {k n : Nat} {pre : List UInt8} {c : UInt8} (h : EncPre k n pre) (hc : 127 < c.toNat) : EncPre (k + 1) (n + c.toNat % 128 * 128 ^ k) (pre ++ [c]) := by
  refine ⟨by simp [h.1], fun m hm => ?_⟩
  have hm' : 0 < m := by omega
  have e : n + c.toNat % 128 * 128 ^ k + m * 128 ^ (k + 1) = n + (c.toNat % 128 + m * 128) * 128 ^ k := by
    rw [Nat.pow_succ, Nat.add_mul, Nat.mul_assoc, Nat.mul_comm 128 (128 ^ k), Nat.add_assoc]
  have hlt := c.toNat_lt
  rw [e, h.2 _ (Or.inl (by omega)), encV_hi (by omega)]
  have e1 : (c.toNat % 128 + m * 128) % 128 + 128 = c.toNat := by omega
  have e2 : (c.toNat % 128 + m * 128) / 128 = m := by omega
  rw [e1, e2]; simp
theorem encV_zero : ∀ (f n : Nat) (pre : List UInt8), n ≤ f → encV n = pre ++ [0] → pre = []
  | f, n, pre, hf, h => by
    by_cases hn : n < 128
    · rw [encV_lo hn] at h
      have e := congrArg List.length h
      rw [List.length_append] at e
      simp only [List.length_cons, List.length_nil] at e
      exact List.eq_nil_of_length_eq_zero (by omega)
    · rw [encV_hi hn] at h
      match pre, h with
      | [], h => rfl
      | b :: pre', h =>
        exfalso
        simp only [List.cons_append, List.cons.injEq] at h
        match f, hf with
        | f + 1, hf =>
          have := encV_zero f (n / 128) pre' (by omega) h.2
          subst this
          have h2 := h.2
          by_cases h3 : n / 128 < 128
          · rw [encV_lo h3] at h2
            simp only [List.nil_append, List.cons.injEq, and_true] at h2
            have := congrArg UInt8.toNat h2
            simp at this; omega
          · rw [encV_hi h3] at h2
            have e := congrArg List.length h2
            simp only [List.length_cons, List.nil_append, List.length_nil] at e
            have := encV_pos (n / 128 / 128)
            omega
        | 0, hf => omega
theorem encI_at (n : Nat) (h : n ≤ 1099511627775) : encI (n : Int) = encV n := by unfold encI; rw [if_neg (by omega), Int.toNat_natCast]
theorem enc_yes {k n : Nat} {pre : List UInt8} {c : UInt8} (h : EncPre k n pre) (hc : ¬ 127 < c.toNat) (hg : ¬ (1099511627775 < n + c.toNat % 128 * 128 ^ k ∨ (c.toNat = 0 ∧ 0 < k))) : encI ((n + c.toNat % 128 * 128 ^ k : Nat) : Int) = pre ++ [c] := by
  rw [encI_at _ (by omega), h.2 _ (by omega), encV_lo (by omega)]
  have : c.toNat % 128 = c.toNat := by omega
  rw [this]; simp
theorem enc_no {k n : Nat} {pre : List UInt8} {c : UInt8} (h : EncPre k n pre) (hc : ¬ 127 < c.toNat) (hg : 1099511627775 < n + c.toNat % 128 * 128 ^ k ∨ (c.toNat = 0 ∧ 0 < k)) : encI ((n + c.toNat % 128 * 128 ^ k : Nat) : Int) ≠ pre ++ [c] := by
  intro e
  by_cases h1 : 1099511627775 < n + c.toNat % 128 * 128 ^ k
  · unfold encI at e
    rw [if_pos (by omega)] at e
    have := congrArg List.length e
    simp at this
  · rcases hg with hg | ⟨hz, hk⟩
    · exact h1 hg
    · have hc0 : c = 0 := by apply UInt8.toNat_inj.1; simpa using hz
      subst hc0
      rw [encI_at _ (by omega)] at e
      have := encV_zero _ _ _ (Nat.le_refl _) e
      have := h.1
      subst_vars
      simp at hk
theorem and127_u8 (c : UInt8) : bits .and .u8 (c.toNat : Int) 127 = (c.toNat : Int) % 128 := by
  have := u8_and_nat c.toNat 127 c.toNat_lt (by decide)
  rw [show ((127 : Nat) : Int) = 127 from rfl] at this
  rw [this, nat_mask7]; omega
theorem or_shift {n k c : Nat} (hk : k < 6) (hn : n < 128 ^ k) : bits .or .i64 (n : Int) ((c : Int) % 128 * 2 ^ (7 * k)) = (n : Int) + (c : Int) % 128 * 2 ^ (7 * k) := by
  have hp := pow_le6 hk
  rw [pow_128] at hn
  have ht : c % 128 * 2 ^ (7 * k) ≤ 127 * 34359738368 := Nat.mul_le_mul (by omega) hp
  have h := i64_or_nat n (c % 128 * 2 ^ (7 * k)) (by omega) (by omega)
  have e : ((c % 128 * 2 ^ (7 * k) : Nat) : Int) = (c : Int) % 128 * 2 ^ (7 * k) := by simp
  rw [← e, h, Nat.or_comm, nat_join (7 * k) _ n (Nat.mul_mod_left _ _) hn]; omega
set_option maxRecDepth 100000 in
set_option maxHeartbeats 1000000 in
theorem decodeVarint_spec (l : List UInt8) (p : Int) (w : World) (hs : l.length ≤ 70368744177664) (hp : p ≤ 9223372036854775807) :
    Calls Try.prog 65 #[.string ⟨l.toArray⟩, .int .i64 p] w fun e w' => e = .returned (retDec (decAt l p)) ∧ Below w.heap.size w w' := by
  by_cases h1 : p < 0
  · have g1 : decide (p < 0) = true := by simpa using h1
    have hf := Lib.hid (show decAt l p = none by unfold decAt; rw [if_pos h1])
    go_enter Try.func65, Try.ntmps65
    go_wp2_with (fail)
    go_ret3
    exact ⟨by rw [hf.out]; rfl, Below.refl _ _⟩
  · have g1 : decide (p < 0) = false := by simpa using h1
    obtain ⟨q, rfl⟩ := Int.eq_ofNat_of_zero_le (show 0 ≤ p by omega)
    clear h1
    go_enter Try.func65, Try.ntmps65
    go_wp2_with (fail)
    go_loop [7, 8] (fun x i => ∃ k n : Nat, k ≤ 6 ∧ (k = 0 ∨ q + k ≤ l.length) ∧ n < 128 ^ k ∧ i = .int .i64 k ∧ x = .int .i64 n ∧ decR (6 - k) k n (l.drop (q + k)) = decAt l q ∧ EncPre k n ((l.drop q).take k)) (fun _ i => 6 - (intOf i).toNat)
    case atStart => exact ⟨0, 0, by omega, Or.inl rfl, by decide, rfl, rfl, by unfold decAt; rw [if_neg (by omega), Int.toNat_natCast]; rfl, EncPre.zero⟩
    case round =>
      obtain ⟨k, n, hk6, hkl, hn, rfl, rfl, hd, henc⟩ := hrel
      by_cases hlt : k < 6 ∧ q + k < l.length
      · obtain ⟨hk, hql⟩ := hlt
        have hq : (q : Int) < (l.length : Int) := by omega
        rw [drop_at hql] at hd
        obtain ⟨c, hc⟩ : ∃ c, c = l[q + k] := ⟨_, rfl⟩
        rw [← hc] at hd
        have hix : (ByteArray.mk l.toArray)[q + k]'hql = c := hc.symm
        have htk : (l.drop q).take (k + 1) = (l.drop q).take k ++ [c] := by
          rw [List.take_succ_eq_append_getElem (by rw [List.length_drop]; omega), hc]; simp
        have hx : ∀ W, (Instr.slice 9 (.string ⟨l.toArray⟩) (some (.int .i64 (q : Int))) (some (.int .i64 ((q : Int) + (k : Int) + 1))) none).run Try.prog W = .ok (.string ⟨((l.drop q).take (k + 1)).toArray⟩) W := fun W => by
          rw [run_slice_string W 9 _ .i64 .i64 _ _ Try.underlying9 (by omega) (by omega) (by simp [ByteArray.size]; omega), ByteArray.extract_mk]
          rw [show ((q : Int) + (k : Int) + 1).toNat - (q : Int).toNat = k + 1 by omega, Int.toNat_natCast]
        have hw1 : IntKind.i64.wrap ((q : Int) + (k : Int)) = (q : Int) + (k : Int) := IntWalk.i64_in _ (by omega)
        have hw2 : IntKind.i64.wrap ((q : Int) + (k : Int) + 1) = (q : Int) + (k : Int) + 1 := IntWalk.i64_in _ (by omega)
        have HW1 := Lib.hid hw1
        have HW2 := Lib.hid hw2
        have HX := Lib.hid hx
        clear hx hw1 hw2
        have hc255 : (c.toNat : Int) ≤ 255 := by have := c.toNat_lt; omega
        obtain ⟨ht0, ht1⟩ := dec_term c.toNat hk
        have hn1 : (n : Int) ≤ 34359738368 := by have := pow_le6 hk; rw [← pow_128] at this; omega
        have HN := Lib.hid (dec_bound c.toNat hn)
        have HC := Lib.hid (dec_cast n c.toNat k)
        have hand := and127_u8 c
        have hor := or_shift (c := c.toNat) hk hn
        have HE := Lib.hid henc
        have HT := Lib.hid htk
        clear hn hc hkl henc htk
        by_cases hb : 127 < (c.toNat : Int)
        · have HD := Lib.hid ((dec_more hk (by omega)).symm.trans hd); clear hd
          go_wp2_with (fail)
          go_round
          case rel => exact ⟨k + 1, _, by omega, Or.inr (by omega), HN.out, by go_num, by rw [HC.out], HD.out, by rw [HT.out]; exact HE.out.more (by omega)⟩
          case measure => simp [intOf]; omega
        · by_cases hg : 1099511627775 < n + c.toNat % 128 * 128 ^ k ∨ (c.toNat = 0 ∧ 0 < k)
          · have HD := Lib.hid (hd.symm.trans (dec_bad hk (by omega) hg)); clear hd
            have b1 : (encI ((n : Int) + (c.toNat : Int) % 128 * 2 ^ (7 * k)) == (l.drop q).take (k + 1)) = false := by
              rw [← HC.out, HT.out]; simpa using enc_no HE.out (by omega) hg
            clear hg
            go_wp2_with (fail)
            have hx := HX.out
            have hw1 := HW1.out
            have hw2 := HW2.out
            go_region_with (go_at_call 54; refine (encodeVarint_spec _ _).mono ?_; rintro e w1 ⟨rfl, hb1⟩)
            all_goals
              go_wp2_with (fail)
              go_ret3
              exact ⟨by rw [HD.out]; rfl, (Below.drew (Below.refl w.heap.size w)).trans hb1⟩
          · have HD := Lib.hid (hd.symm.trans (dec_ok hk (by omega) hg)); clear hd
            have b1 : (encI ((n : Int) + (c.toNat : Int) % 128 * 2 ^ (7 * k)) == (l.drop q).take (k + 1)) = true := by
              rw [← HC.out, HT.out]; simpa using enc_yes HE.out (by omega) hg
            clear hg
            go_wp2_with (fail)
            have hx := HX.out
            have hw1 := HW1.out
            have hw2 := HW2.out
            go_region_with (go_at_call 54; refine (encodeVarint_spec _ _).mono ?_; rintro e w1 ⟨rfl, hb1⟩)
            all_goals
              go_wp2_with (fail)
              go_ret3
              exact ⟨by rw [HD.out, retDec_some, HC.out]; rfl, (Below.drew (Below.refl w.heap.size w)).trans hb1⟩
      · have hf : decAt l q = none := by
          rw [← hd]
          by_cases h : k = 6
          · subst h; exact dec_six _ _
          · rw [List.drop_eq_nil_of_le (by omega)]; exact dec_end _ _ _
        have HF := Lib.hid hf; clear hf hd
        by_cases a1 : (k : Int) < 6
        · have b1 : decide ((k : Int) < 6) = true := by simpa using a1
          by_cases a2 : (q : Int) < (l.length : Int)
          · have b2 : decide ((q : Int) < (l.length : Int)) = true := by simpa using a2
            have b3 : decide ((q : Int) + (k : Int) < (l.length : Int)) = false := by simp; omega
            go_wp2_with (fail)
            go_ret3
            exact ⟨by rw [HF.out]; rfl, Below.refl _ _⟩
          · have b2 : decide ((q : Int) < (l.length : Int)) = false := by simpa using a2
            go_wp2_with (fail)
            go_ret3
            exact ⟨by rw [HF.out]; rfl, Below.refl _ _⟩
        · have b1 : decide ((k : Int) < 6) = false := by simpa using a1
          go_wp2_with (fail)
          go_ret3
          exact ⟨by rw [HF.out]; rfl, Below.refl _ _⟩
end Go.Proofs.Ytecimgennncjkaa
