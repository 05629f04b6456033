/-
  The law on differences: a text can be made from another one and their difference, and the difference of equal texts is short.
-/
import Derived.Test.YtalfmeedffbllaaDelta
import Derived.Test.YtalfmeedffbllaaSealed
namespace Go.Proofs.Ytalfmeedffbllaa
open Go.RowKit
set_option linter.all false
theorem decR_encV : ∀ (f i acc m : Nat) (post : List UInt8), (encV m).length ≤ f → decR f i acc (encV m ++ post) = if 1099511627775 < acc + m * 128 ^ i ∨ (m = 0 ∧ 0 < i) then none else some (acc + m * 128 ^ i, i + (encV m).length)
  | 0, i, acc, m, post, h => by have := encV_pos m; omega
  | f + 1, i, acc, m, post, h => by
    by_cases hm : m < 128
    · rw [encV_lo hm]
      have hb : (UInt8.ofNat m).toNat = m := by have := lo_byte hm; omega
      rw [List.singleton_append, decR, hb, if_neg (by omega), show m % 128 = m by omega]
      simp
    · rw [encV_hi hm] at h ⊢
      have hb : (UInt8.ofNat (m % 128 + 128)).toNat = m % 128 + 128 := by have := hi_byte m; omega
      rw [List.cons_append, decR, hb, if_pos (by omega)]
      simp only [List.length_cons] at h
      rw [decR_encV f (i + 1) _ (m / 128) post (by omega)]
      have e : acc + (m % 128 + 128) % 128 * 128 ^ i + m / 128 * 128 ^ (i + 1) = acc + m * 128 ^ i := by
        rw [show (m % 128 + 128) % 128 = m % 128 by omega, Nat.pow_succ, Nat.add_assoc, Nat.mul_comm (128 ^ i) 128, ← Nat.mul_assoc, ← Nat.add_mul]
        congr 2; omega
      rw [e]
      have e2 : (m / 128 = 0 ∧ 0 < i + 1) ↔ (m = 0 ∧ 0 < i) := by omega
      simp only [e2, List.length_cons]
      congr 3
      omega
theorem decAt_enc {l post : List UInt8} {q m : Nat} (h : l.drop q = encV m ++ post) (hm : m ≤ 1099511627775) : decAt l (q : Int) = some (m, (encV m).length) := by
  unfold decAt
  rw [if_neg (by omega), Int.toNat_natCast, h, decR_encV 6 0 0 m post (encV_len6 hm), if_neg (by simp; omega)]
  simp
theorem unpT_pack {l post s : List UInt8} {q : Nat} (hn : s.length ≤ 1099511627775) (hd : l.drop q = packT s ++ post) : unpT l (q : Int) = some (s, (packT s).length) := by
  have he : encI (s.length : Int) = encV s.length := by unfold encI; rw [if_neg (by omega), Int.toNat_natCast]
  unfold packT at hd ⊢
  rw [he] at hd ⊢
  rw [List.append_assoc] at hd
  have hdec := decAt_enc hd hn
  have hd2 : l.drop (q + (encV s.length).length) = s ++ post := by rw [← List.drop_drop, hd, List.drop_left]
  have hlen : (l.drop (q + (encV s.length).length)).length = (s ++ post).length := by rw [hd2]
  rw [List.length_drop, List.length_append] at hlen
  by_cases hs0 : s.length = 0
  · have : s = [] := List.eq_nil_of_length_eq_zero hs0
    subst this
    unfold unpT; rw [hdec]
    have hq := (decAt_facts hdec).2.2.2.1
    simp only [Int.toNat_natCast, List.length_nil, Nat.add_zero] at hq ⊢
    rw [if_neg (by omega)]; simp
  · rw [unpT_yes hdec (by rw [Int.toNat_natCast]; omega), Int.toNat_natCast, hd2, List.take_left, List.length_append]
theorem zrun_zeros (x : List UInt8) : zrun x = List.replicate (zrun x).length 0 := by
  apply List.eq_replicate_of_mem
  intro b hb
  have h := List.all_takeWhile (p := fun c : UInt8 => c == 0) (l := x)
  have := List.all_eq_true.1 h b hb
  simpa using this
theorem encI_enc {n : Nat} (h : n ≤ 1099511627775) : encI (n : Int) = encV n := by unfold encI; rw [if_neg (by omega), Int.toNat_natCast]
theorem unz_pack : ∀ (f : Nat) (x pre out : List UInt8), x.length ≤ f → out.length + x.length ≤ 20000 → unz (pre ++ packZ x) pre.length out = some (out ++ x)
  | f, x, pre, out, hf, ho => by
    by_cases hx : x = []
    · subst hx
      rw [packZ_nil, List.append_nil, unz_end (by omega), List.append_nil]
    · have hlt := orest_lt hx
      have hr := runs_eq x
      have hrl := congrArg List.length hr
      simp only [List.length_append] at hrl
      have hp := packZ_cons hx
      have hz1 : (zrun x).length ≤ 1099511627775 := by omega
      rw [encI_enc hz1] at hp
      have hev := encV_pos (zrun x).length
      have hdrop : (pre ++ packZ x).drop pre.length = encV (zrun x).length ++ (packT (orun x) ++ packZ (orest x)) := by rw [List.drop_left, hp, List.append_assoc]
      have hdec := decAt_enc hdrop hz1
      have hdrop2 : (pre ++ packZ x).drop (pre.length + (encV (zrun x).length).length) = packT (orun x) ++ packZ (orest x) := by rw [← List.drop_drop, hdrop, List.drop_left]
      have hu := unpT_pack (s := orun x) (by omega) hdrop2
      rw [Int.natCast_add] at hu
      have hlen : pre.length < (pre ++ packZ x).length := by
        rw [List.length_append, hp, List.length_append, List.length_append]; omega
      rw [unz_yes hlen (stepZ_yes hdec hu (by omega)) (by omega)]
      have e1 : pre ++ packZ x = (pre ++ encV (zrun x).length ++ packT (orun x)) ++ packZ (orest x) := by rw [hp]; simp only [List.append_assoc]
      have e2 : pre.length + (encV (zrun x).length).length + (packT (orun x)).length = (pre ++ encV (zrun x).length ++ packT (orun x)).length := by simp only [List.length_append]
      rw [e2, e1]
      match f, hf with
      | 0, hf => exact absurd (List.eq_nil_of_length_eq_zero (by omega)) hx
      | f + 1, hf =>
        rw [unz_pack f (orest x) _ _ (by omega) (by simp only [List.length_append, List.length_replicate]; omega)]
        congr 1
        rw [← zrun_zeros, List.append_assoc, List.append_assoc, ← hr]
theorem unpZ_pack {x : List UInt8} (h : x.length ≤ 20000) : unpZ (packZ x) = some x := by
  have := unz_pack x.length x [] [] (Nat.le_refl _) (by simpa using h)
  exact unpZ_good (by simpa using this) rfl
theorem xorL_back : ∀ a b : List UInt8, xorL a (xorL a b) = b
  | [], b => rfl
  | _ :: _, [] => rfl
  | x :: a, y :: b => by
    simp only [xorL]
    rw [xorL_back a b, UInt8.xor_assoc, UInt8.xor_self, UInt8.xor_zero]
theorem applyL_delta {a b : List UInt8} (h : b.length ≤ 20000) : applyL a (deltaL a b) = some b := by
  have he : encI (b.length : Int) = encV b.length := encI_enc (by omega)
  have hd : decAt (deltaL a b) ((0 : Nat) : Int) = some (b.length, (encV b.length).length) := decAt_enc (post := packZ (xorL a b)) (by unfold deltaL; rw [List.drop_zero, he]) (by omega)
  have hdrop : (deltaL a b).drop (encV b.length).length = packZ (xorL a b) := by unfold deltaL; rw [he, List.drop_left]
  have hu := unpZ_pack (x := xorL a b) (by rw [xorL_len]; exact h)
  rw [← hdrop] at hu
  rw [applyL_yes hd hu (xorL_len a b), xorL_back]
theorem xorL_self : ∀ a : List UInt8, xorL a a = List.replicate a.length 0
  | [] => rfl
  | x :: a => by simp only [xorL, xorL_self a, UInt8.xor_self, List.length_cons, List.replicate_succ]
theorem packZ_zeros (n : Nat) : packZ (List.replicate (n + 1) 0) = encI ((n + 1 : Nat) : Int) ++ [0] := by
  have := packZ_runs (l := List.replicate (n + 1) 0) (zs := List.replicate (n + 1) 0) (os := []) (rest := []) (by simp) (by intro x hx; exact (List.mem_replicate.1 hx).2) (by simp) (by simp [List.replicate_succ]) (by simp) (by simp)
  have h0 : packT [] = [0] := by
    unfold packT
    rw [List.append_nil]
    show encI ((0 : Nat) : Int) = [0]
    rw [encI_enc (by omega), encV_lo (by omega)]
    rfl
  rw [this, packZ_nil, List.length_replicate, List.append_nil, h0]
theorem delta_short (a : List UInt8) : (deltaL a a).length ≤ 2 * (encI (a.length : Int)).length + 1 := by
  unfold deltaL
  rw [xorL_self]
  match a with
  | [] => simp [packZ_nil]; omega
  | x :: a =>
    rw [List.length_cons, packZ_zeros, List.length_append, List.length_append, List.length_singleton]
    omega
set_option maxRecDepth 100000 in
set_option maxHeartbeats 4000000 in
theorem lawDeltas (a : Option Addr) (len cap : Nat) (zs : List Int) (w : World) (hr : IsRow .u8 w a len cap zs) :
    Calls Try.prog 3 #[.slice a len cap] w fun e w' => e = .returned (.bool true) ∧ Below w.heap.size w w' := by
  obtain ⟨hrd, hl⟩ := RdC.of_row hr
  clear hr
  by_cases h : 1048576 < (len : Int)
  · have b1 : decide (1048576 < (len : Int)) = true := by simpa using h
    go_enter Try.func3, Try.ntmps3
    go_wp2_with (go_at_call 10; refine (big_any hrd hl).mono ?_; rintro e w' ⟨rfl, rfl⟩)
    go_ret
    exact ⟨rfl, Below.refl _ _⟩
  · have b1 : decide (1048576 < (len : Int)) = false := by simpa using h
    go_enter Try.func3, Try.ntmps3
    go_wp2_with (first
      | (go_at_call 10; refine (big_any hrd hl).mono ?_; rintro e w' ⟨rfl, rfl⟩)
      | (go_at_call 11; refine (drawTwins_any hrd (by omega)).mono ?_; rintro e w1 ⟨l, y, hll, hy, rfl, hb⟩))
    have hxl := xorL_len l y
    have hvl := xorL_len (xorL l y) y
    have HA := Lib.hid (applyL_delta (a := l) (b := y) (by omega))
    have HU := Lib.hid (unpZ_pack (x := y) (by omega))
    have HX := Lib.hid (xorL_back (xorL l y) y)
    have hsh := delta_short l
    have hdl : (deltaL l y).length ≤ 2000 := by
      unfold deltaL
      have h1 := packZ_len _ (xorL l y) (Nat.le_refl _)
      have h2 := encI_len6 (y.length : Int)
      rw [List.length_append]; omega
    have hdd : (deltaL l l).length ≤ 2000 := by have := encI_len6 (l.length : Int); omega
    have hev := encI_len6 (l.length : Int)
    have hzl := packZ_len _ y (Nat.le_refl _)
    have C1 := fun W => deltaText_impl l y W (by omega) (by omega)
    have C2 := fun W => applyDelta_impl l (deltaL l y) W (by omega) (by omega)
    have C3 := fun W => packZeros_impl y W (by omega)
    have C4 := fun W => unpackZeros_impl (packZ y) W (by omega)
    have C5 := fun W => xorText_impl l y W (by omega) (by omega)
    have C6 := fun W => xorText_impl (xorL l y) y W (by omega) (by omega)
    have C7 := fun W => xorText_impl (xorL l y) (xorL (xorL l y) y) W (by omega) (by omega)
    have C8 := fun W => deltaText_impl l l W (by omega) (by omega)
    have C9 := fun W => encodeVarint_impl (l.length : Int) W
    rw [HA.out] at C2
    rw [HU.out] at C4
    rw [HX.out] at C7
    generalize deltaL l y = d at C1 C2 hdl
    generalize packZ y = z at C3 C4 hzl
    generalize xorL (xorL l y) y = v at C6 C7 hvl
    generalize xorL l y = x at C5 C6 C7 hxl
    generalize deltaL l l = dd at C8 hsh hdd
    generalize encI (l.length : Int) = ev at C9 hsh hev
    unfold retUnZ at C2 C4
    clear HA HU HX
    have hle : decide ((dd.length : Int) ≤ 2 * (ev.length : Int) + 1) = true := by simp; omega
    have m1 : True := trivial
    have m2 : True := trivial
    have m3 : True := trivial
    go_wp2_with (first
      | (go_at_call 12; clear m1; refine (C1 _).mono ?_; rintro e w2 ⟨rfl, hb2⟩; replace hb := hb.trans (hb2.mono hb.size))
      | (go_at_call 13; refine (C2 _).mono ?_; rintro e w3 ⟨rfl, hb3⟩; replace hb := hb.trans (hb3.mono hb.size))
      | (go_at_call 14; refine (C3 _).mono ?_; rintro e w4 ⟨rfl, hb4⟩; replace hb := hb.trans (hb4.mono hb.size))
      | (go_at_call 15; refine (C4 _).mono ?_; rintro e w5 ⟨rfl, hb5⟩; replace hb := hb.trans (hb5.mono hb.size))
      | (go_at_call 16; clear m2; refine (C5 _).mono ?_; rintro e w6 ⟨rfl, hb6⟩; replace hb := hb.trans (hb6.mono hb.size))
      | (go_at_call 16; clear m3; refine (C6 _).mono ?_; rintro e w7 ⟨rfl, hb7⟩; replace hb := hb.trans (hb7.mono hb.size))
      | (go_at_call 16; refine (C7 _).mono ?_; rintro e w8 ⟨rfl, hb8⟩; replace hb := hb.trans (hb8.mono hb.size))
      | (go_at_call 12; refine (C8 _).mono ?_; rintro e w9 ⟨rfl, hb9⟩; replace hb := hb.trans (hb9.mono hb.size))
      | (go_at_call 17; refine (C9 _).mono ?_; rintro e w10 ⟨rfl, hb10⟩; replace hb := hb.trans (hb10.mono hb.size)))
    go_ret
    exact ⟨rfl, hb⟩
end Go.Proofs.Ytalfmeedffbllaa
