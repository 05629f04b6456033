/-
  The law on sealed texts: what is sealed can be opened, and not if one byte is changed.
-/
import Derived.Test.YtalfmeedffbllaaTwins
import Derived.Test.YtalfmeedffbllaaSealC
namespace Go.Proofs.Ytalfmeedffbllaa
open Go.RowKit
set_option linter.all false
theorem u8_inj {a b : Nat} (ha : a < 256) (hb : b < 256) (h : UInt8.ofNat a = UInt8.ofNat b) : a = b := by
  have := congrArg UInt8.toNat h
  simp at this; omega
theorem seal4_inj {n m : Nat} (hn : n < 4294967296) (hm : m < 4294967296) (h : seal4 n = seal4 m) : n = m := by
  unfold seal4 at h
  simp only [List.cons.injEq, and_true] at h
  obtain ⟨h0, h1, h2, h3⟩ := h
  have e0 := u8_inj (by omega) (by omega) h0
  have e1 := u8_inj (by omega) (by omega) h1
  have e2 := u8_inj (by omega) (by omega) h2
  have e3 := u8_inj (by omega) (by omega) h3
  omega
theorem chk_lt (l : List UInt8) : chk l < 4294967296 := by
  have := ckA_lt l; have := ckB_lt l; unfold chk; omega
theorem sumA_set : ∀ (l : List UInt8) (i : Nat) (h : i < l.length) (c : UInt8), sumA (l.set i c) + l[i].toNat = sumA l + c.toNat
  | x :: l, 0, _, c => by simp only [List.set_cons_zero, sumA, List.getElem_cons_zero]; omega
  | x :: l, i + 1, h, c => by
    have := sumA_set l i (by simpa using h) c
    simp only [List.set_cons_succ, sumA, List.getElem_cons_succ]; omega
theorem chk_set {l : List UInt8} {i : Nat} (h : i < l.length) {c : UInt8} (hc : c ≠ l[i]) : chk (l.set i c) ≠ chk l := by
  intro e
  have hA : ckA (l.set i c) = ckA l := by
    have a1 := ckA_lt l; have a2 := ckA_lt (l.set i c)
    unfold chk at e; omega
  have hs := sumA_set l i h c
  have h1 := c.toNat_lt; have h2 := l[i].toNat_lt
  have hne : c.toNat ≠ l[i].toNat := fun e => hc (UInt8.toNat_inj.1 e)
  unfold ckA at hA
  omega
theorem openL_seal (l : List UInt8) : openL (sealL l) = some l := by
  unfold openL sealL
  have h4 := seal4_len (chk l)
  rw [List.take_left' h4, List.drop_left' h4, if_pos ⟨by rw [List.length_append, h4]; omega, rfl⟩]
theorem openL_spoiled {l : List UInt8} {k : Nat} (hk : k < (sealL l).length) {c : UInt8} (hc : c ≠ (sealL l)[k]) : openL ((sealL l).take k ++ [c] ++ (sealL l).drop (k + 1)) = none := by
  have h4 := seal4_len (chk l)
  have e : (sealL l).take k ++ [c] ++ (sealL l).drop (k + 1) = (sealL l).set k c := by
    rw [List.set_eq_take_append_cons_drop, if_pos hk]; simp
  rw [e]
  unfold openL
  rw [if_neg]
  rintro ⟨-, h⟩
  have hd : sealL l = seal4 (chk l) ++ l := rfl
  by_cases h1 : k < 4
  · have e1 : (sealL l).set k c = (seal4 (chk l)).set k c ++ l := by rw [hd, List.set_append_left _ _ (by rw [h4]; exact h1)]
    have e4 : ((seal4 (chk l)).set k c).length = 4 := by rw [List.length_set, h4]
    rw [e1, List.take_left' e4, List.drop_left' e4] at h
    have hk4 : k < (seal4 (chk l)).length := by rw [h4]; exact h1
    have := congrArg (fun x => x[k]?) h
    simp only [List.getElem?_set_self hk4, List.getElem?_eq_getElem hk4, Option.some.injEq] at this
    apply hc
    rw [this]
    simp only [hd]
    rw [List.getElem_append_left hk4]
  · have hkl : k - 4 < l.length := by rw [hd, List.length_append, h4] at hk; omega
    have e1 : (sealL l).set k c = seal4 (chk l) ++ l.set (k - 4) c := by rw [hd, List.set_append_right _ _ (by rw [h4]; omega), h4]
    rw [e1, List.take_left' h4, List.drop_left' h4] at h
    have hcl : c ≠ l[k - 4] := by
      intro e2
      apply hc
      rw [e2]
      simp only [hd]
      rw [List.getElem_append_right (by rw [h4]; omega)]
      simp only [h4]
    exact chk_set hkl hcl (seal4_inj (chk_lt _) (chk_lt _) h).symm
theorem grown_below2 {B : Nat} {w w' : World} {c : Nat} (hg : w.grownBy w' (some c)) (hB : B ≤ c) (hs : B ≤ w.heap.size) : Below B w w' := (Below.refl B w).grown hg hs fun k hk => by injection hk with hk; omega
def TwoTexts (w : World) (e : Ending) (w' : World) : Prop := ∃ a b : List UInt8, a.length ≤ 28 ∧ b.length ≤ 56 ∧ e = .returned (.tuple #[.string ⟨a.toArray⟩, .string ⟨b.toArray⟩]) ∧ Below w.heap.size w w'
theorem drawTwins_any {w : World} {v : Value} {len : Nat} (hrd : RdC w v len) (hl : len ≤ 1048576) :
    Calls Try.prog 11 #[v] w (TwoTexts w) := by
  have hrd' := hrd
  obtain ⟨a, cap, rfl, _⟩ := hrd
  go_enter Try.func11, Try.ntmps11
  go_wp2_with (fail)
  refine (new_any hrd' hl).mono ?_
  intro e w1 hm
  have cur1 := hm.cur hrd'
  obtain ⟨h, rfl, rfl⟩ := hm
  generalize hW : w.alloc (.cells #[.slice a len cap, .int .i64 0, .int .i64 h] 61) = w1 at *
  have hb1 : Below w.heap.size w w1 := by rw [← hW]; exact (Below.refl _ _).alloc (Nat.le_refl _) _
  clear hW
  have hs1 := hb1.size
  go_wp2_with (fail)
  refine (twins_any cur1 hl).mono ?_
  rintro e w2 ⟨x, y, hx, hy, rfl, cur2, g2⟩
  have hb2 := hb1.trans (grown_below2 g2 (Nat.le_refl _) hs1)
  go_wp2_with (fail)
  go_ret2
  exact ⟨x, y, hx, hy, rfl, hb2⟩
theorem run_idx2 {l : List UInt8} {k : Nat} {c : UInt8} (W : World) (hk : k < l.length) (hc : (ByteArray.mk l.toArray)[k]'hk = c) : (Instr.index 9 (.string ⟨l.toArray⟩) (.int .i64 (k : Int))).run Try.prog W = .ok (.int .u8 (c.toNat : Int)) W := by
  rw [run_index_string W 9 _ .i64 _ Try.underlying9]
  rw [dif_pos ⟨by omega, by show (k : Int) < (l.toArray.size : Int); simp; exact hk⟩]
  simp only [Int.toNat_natCast]
  rw [hc]
/-- One byte in a row of its own, read back as a string. -/
theorem conv_one (W : World) (n : Int) (c : UInt8) (hn : n = (c.toNat : Int)) : (convert 22 9 (.slice (some ⟨W.heap.size, 0, none⟩) 1 1)).run Try.prog (W.alloc (.cells #[.int .u8 n] 5)) = .ok (.string ⟨[c].toArray⟩) (W.alloc (.cells #[.int .u8 n] 5)) := by
  subst hn
  refine run_convert_bytes_back (P := Try.prog) _ 22 9 5 ⟨W.heap.size, 0, none⟩ 1 [c] Try.underlying22 Try.underlying5 Try.underlying9 fun j hj => ?_
  obtain rfl : j = 0 := by simpa using hj
  exact one_cell W _ _ 0 _ rfl
theorem spoil_byte (c0 : UInt8) (x : Nat) : ∃ c : UInt8, c ≠ c0 ∧ bits .xor .u8 (c0.toNat : Int) (IntKind.u8.wrap (IntKind.i64.wrap (1 + (x : Int).tmod 255))) = (c.toNat : Int) := by
  have h0 := c0.toNat_lt
  have hd : 1 + x % 255 < 256 := by omega
  have hx : c0.toNat ^^^ (1 + x % 255) < 2 ^ 8 := Nat.xor_lt_two_pow (by omega) (by omega)
  refine ⟨UInt8.ofNat (c0.toNat ^^^ (1 + x % 255)), ?_, ?_⟩
  · intro e
    have e1 := congrArg UInt8.toNat e
    rw [UInt8.toNat_ofNat'] at e1
    have e2 : c0.toNat ^^^ (1 + x % 255) = c0.toNat := by omega
    have e3 := congrArg (c0.toNat ^^^ ·) e2
    simp only [← Nat.xor_assoc, Nat.xor_self, Nat.zero_xor] at e3
    omega
  · have e1 : (x : Int).tmod 255 = ((x % 255 : Nat) : Int) := by rw [Int.tmod_eq_emod_of_nonneg (by omega)]; rfl
    have e2 : IntKind.i64.wrap (1 + ((x % 255 : Nat) : Int)) = ((1 + x % 255 : Nat) : Int) := by rw [IntKind.wrap_i64]; omega
    have e3 : IntKind.u8.wrap ((1 + x % 255 : Nat) : Int) = ((1 + x % 255 : Nat) : Int) := by
      show (((1 + x % 255 : Nat) : Int)) % 256 = _
      omega
    rw [e1, e2, e3, u8_xor_nat _ _ (by omega) hd, UInt8.toNat_ofNat']
    omega
set_option maxRecDepth 100000 in
set_option maxHeartbeats 2000000 in
theorem lawSealed (a : Option Addr) (len cap : Nat) (zs : List Int) (w : World) (hr : IsRow .u8 w a len cap zs) :
    Calls Try.prog 4 #[.slice a len cap] w fun e w' => e = .returned (.bool true) ∧ Below w.heap.size w w' := by
  obtain ⟨hrd, hl⟩ := RdC.of_row hr
  clear hr
  by_cases h : 1048576 < (len : Int)
  · have b1 : decide (1048576 < (len : Int)) = true := by simpa using h
    go_enter Try.func4, Try.ntmps4
    go_wp2_with (go_at_call 10; refine (big_any hrd hl).mono ?_; rintro e w' ⟨rfl, rfl⟩)
    go_ret
    exact ⟨rfl, Below.refl _ _⟩
  · have b1 : decide (1048576 < (len : Int)) = false := by simpa using h
    go_enter Try.func4, Try.ntmps4
    go_wp2_with (first
      | (go_at_call 10; refine (big_any hrd hl).mono ?_; rintro e w' ⟨rfl, rfl⟩)
      | (go_at_call 11; refine (drawTwins_any hrd (by omega)).mono ?_; rintro e w1 ⟨l, y, hll, hy, rfl, hb1⟩; have hrd1 := hrd.keep hb1))
    have hsl : (sealL l).length = l.length + 4 := by unfold sealL; rw [List.length_append, seal4_len]; omega
    have HO := Lib.hid (openL_seal l)
    have HB0 : ∀ (k : Nat) (hk : k < (sealL l).length) (c : UInt8), c ≠ (sealL l)[k] → openL ((sealL l).take k ++ [c] ++ (sealL l).drop (k + 1)) = none := fun k hk c hc => openL_spoiled hk hc
    have HB := Lib.hid HB0
    clear HB0
    have HS := fun W => sealText_impl l W (by omega)
    generalize sealL l = s at hsl HO HB HS
    go_wp2_with (first
      | (go_at_call 18; refine (HS _).mono ?_; rintro e w2 ⟨rfl, hb2⟩)
      | (go_at_call 19; refine (openText_impl _ _ (by omega)).mono ?_; rintro e w3 ⟨rfl, hb3⟩; rw [HO.out]; unfold retOpt))
    have hrd3 := (hrd1.keep hb2).keep hb3
    have hpos : 0 < (s.length : Int) := by omega
    refine (at_any hrd3 hl 0 (by omega) (by omega)).mono ?_
    rintro e w' ⟨x0, hx0, rfl, rfl⟩
    obtain ⟨k, hk⟩ : ∃ k, k = x0 % s.length := ⟨_, rfl⟩
    have hkl : k < s.length := by rw [hk]; exact Nat.mod_lt _ (by omega)
    have hkk : (x0 : Int) % ((l.length : Int) + 4) = (k : Int) := by
      rw [show ((l.length : Int) + 4) = (s.length : Int) by omega, hk]; rfl
    clear hk
    obtain ⟨c0, hc0⟩ : ∃ c, c = s[k] := ⟨_, rfl⟩
    have hix : (ByteArray.mk s.toArray)[k]'hkl = c0 := hc0.symm
    have hidx : ∀ W, (Instr.index 9 (.string ⟨s.toArray⟩) (.int .i64 (k : Int))).run Try.prog W = .ok (.int .u8 (c0.toNat : Int)) W := fun W => run_idx2 W hkl hix
    have hx1 := fun W => run_slice_to (l := s) (k := k) (by omega) W
    have hx2 : ∀ W, (Instr.slice 9 (.string ⟨s.toArray⟩) (some (.int .i64 ((k : Int) + 1))) none none).run Try.prog W = .ok (.string ⟨(s.drop (k + 1)).toArray⟩) W := fun W => by
      have := slice_from s (k + 1) (by omega) W; rw [show ((k + 1 : Nat) : Int) = (k : Int) + 1 by omega] at this; exact this
    have hwk : IntKind.i64.wrap ((k : Int) + 1) = (k : Int) + 1 := by rw [IntKind.wrap_i64]; omega
    have HC := Lib.hid (fun c hc => HB.out k hkl c (by rw [← hc0]; exact hc) : ∀ c, c ≠ c0 → openL (s.take k ++ [c] ++ s.drop (k + 1)) = none)
    have hks : k < 32 := by omega
    have htk : (s.take k).length = k := by rw [List.length_take]; omega
    have hdk : (s.drop (k + 1)).length = s.length - (k + 1) := by rw [List.length_drop]
    clear hix hc0
    generalize s.take k = p at hx1 HC htk
    generalize s.drop (k + 1) = q at hx2 HC hdk
    go_wp2_with (fail)
    go_region_with (go_at_call 20; refine (at_any (hrd3.keep (below_drewN (Below.refl _ _) 1)) hl 1 (by omega) (by omega)).mono ?_; rintro e w' ⟨x1, hx1', rfl, rfl⟩; obtain ⟨c1, hc1, hxor⟩ := spoil_byte c0 x1; have hcv : (convert 22 9 (.slice (some ⟨w3.heap.size, 0, none⟩) 1 1)).run Try.prog ((w3.drewN 1).alloc (.cells #[.int .u8 (c1.toNat : Int)] 5)) = .ok (.string ⟨[c1].toArray⟩) ((w3.drewN 1).alloc (.cells #[.int .u8 (c1.toNat : Int)] 5)) := conv_one (w3.drewN 1) _ c1 rfl)
    all_goals
      have HD := Lib.hid (HC.out c1 hc1)
      have hq : (p ++ [c1] ++ q == s) = false := by
        simp only [beq_eq_false_iff_ne, ne_eq]
        intro e
        have h1 := HD.out
        rw [e, HO.out] at h1
        cases h1
      have hlt : (p ++ [c1] ++ q).length ≤ 32 := by simp only [List.length_append, List.length_singleton]; omega
      go_wp2_with (fail)
      try rw [ByteArray.mk_append_mk, ByteArray.mk_append_mk]
      generalize p ++ [c1] ++ q = t at HD hq hlt ⊢
      go_wp2_with (first
        | (go_at_call 19; refine (openText_impl _ _ (by omega)).mono ?_; rintro e w4 ⟨rfl, hb4⟩; rw [HD.out]; unfold retOpt)
        | (go_at_call 21; refine (checksum_impl _ _ (by simp [ByteArray.size]; omega)).mono ?_; rintro e w5 ⟨rfl, rfl⟩))
      go_ret
      have hB2 := hb1.trans (hb2.mono hb1.size)
      have hB3 := hB2.trans (hb3.mono hB2.size)
      have hB4 := (below_drewN hB3 1).alloc (by have := hB3.size; simpa using this) (.cells #[.int .u8 (c1.toNat : Int)] 5)
      exact ⟨rfl, hB4.trans (hb4.mono hB4.size)⟩
end Go.Proofs.Ytalfmeedffbllaa
