/-
  The law FnNumbers. At most maxLen drawn bytes, as every slice has.
-/
import Derived.Test.YtkjlljdidcnciaaRound
import Derived.Test.YtkjlljdidcnciaaCode
namespace Go.Proofs.Ytkjlljdidcnciaa
open Go.RowKit
set_option linter.all false

set_option maxHeartbeats 400000 in
theorem sameInts_same {w : World} {v v' : Value} {xs : List Int} (h : RdI w v xs) (h' : RdI w v' xs) (hn : xs.length ≤ 1099511627776) :
    Calls Try.prog 19 #[v, v'] w fun e w' => e = .returned (.bool true) ∧ ∃ n, w' = w.drewN n := by
  obtain ⟨a, cap, rfl, h⟩ := h
  obtain ⟨a', cap', rfl, h'⟩ := h'
  by_cases hx : xs = []
  · subst hx
    go_enter Try.func19, Try.ntmps19
    go_wp2
    refine wp_loop_once ?_
    go_wp2
    go_ret
    exact ⟨rfl, 0, rfl⟩
  · obtain ⟨b, off, rfl, hc⟩ := h.resolve_left hx
    obtain ⟨b', off', rfl, hc'⟩ := h'.resolve_left hx
    go_enter Try.func19, Try.ntmps19
    go_wp2
    go_loopw [5] (fun i wr => ∃ k n : Nat, k ≤ xs.length ∧ i = .int .i64 k ∧ wr = w.drewN n) (fun i _ => xs.length - (intOf i).toNat)
    case atStart => exact ⟨0, 0, Nat.zero_le _, rfl, rfl⟩
    case round =>
      obtain ⟨k, n, hk, rfl, rfl⟩ := hrel
      by_cases hkl : k < xs.length
      · have c1 := hc k hkl
        have c2 := hc' k hkl
        have hl1 : (k : Int) < (xs.length : Int) := by omega
        clear h h'
        go_wp2
        go_quiet (fail)
        go_wp2
        go_roundw
        case rel => exact ⟨k + 1, _, by omega, by go_num, rfl⟩
        case measure => simp [intOf]; omega
      · go_wp2
        go_ret
        exact ⟨rfl, n, rfl⟩
theorem RdI.new {w : World} {b n : Nat} {xs : List Int} (hn : xs.length = n) (C : Array Value) (hC : C = (xs.map (Value.int .i64)).toArray) (t : TypeId) (hb : b = w.heap.size) : RdI (w.alloc (.cells C t)) (.slice (some ⟨b, 0, none⟩) n n) xs := by
  subst hn hC hb
  refine ⟨_, _, rfl, .inr ⟨_, 0, rfl, fun j hj => ?_⟩⟩
  rw [World.cell?_alloc_mark]; simp [hj]
theorem encI_val {n : Nat} (h : n ≤ 1099511627775) : encI (n : Int) = encV n := by unfold encI; rw [if_neg (by omega), Int.toNat_natCast]
set_option maxRecDepth 100000 in
set_option maxHeartbeats 2000000 in
theorem lawNumbers (a : Option Addr) (len cap : Nat) (zs : List Int) (w : World) (hr : IsRow .u8 w a len cap zs) :
    Calls Try.prog 3 #[.slice a len cap] w fun e w' => e = .returned (.bool true) ∧ Below w.heap.size w w' := by
  obtain ⟨hrd, hl⟩ := RdC.of_row hr
  clear hr
  by_cases h : 1048576 < (len : Int)
  · have b1 : decide (1048576 < (len : Int)) = true := by simpa using h
    go_enter Try.func3, Try.ntmps3
    go_wp2_with (go_at_call 11; refine (big_any hrd hl).mono ?_; rintro e w' ⟨rfl, rfl⟩)
    go_ret
    exact ⟨rfl, Below.refl _ _⟩
  · have b1 : decide (1048576 < (len : Int)) = false := by simpa using h
    go_enter Try.func3, Try.ntmps3
    go_wp2_with (go_at_call 11; refine (big_any hrd hl).mono ?_; rintro e w' ⟨rfl, rfl⟩)
    refine (at_any hrd hl _ (by omega) (by omega)).mono ?_
    rintro e w' ⟨x0, hx0, rfl, rfl⟩
    go_wp2_with (fail)
    refine (at_any hrd hl _ (by omega) (by omega)).mono ?_
    rintro e w' ⟨x1, hx1, rfl, rfl⟩
    have p0 : 0 ≤ (x0 : Int) * (x1 : Int) := Int.mul_nonneg (by omega) (by omega)
    have p1 : (x0 : Int) * (x1 : Int) ≤ 65025 := Int.le_trans (Int.mul_le_mul (show (x0 : Int) ≤ 255 by omega) (show (x1 : Int) ≤ 255 by omega) (by omega) (by omega)) (by omega)
    go_wp2_with (fail)
    refine (at_any hrd hl _ (by omega) (by omega)).mono ?_
    rintro e w' ⟨x2, hx2, rfl, rfl⟩
    have q0 : 0 ≤ (x0 : Int) * (x1 : Int) * (x2 : Int) := Int.mul_nonneg p0 (by omega)
    have q1 : (x0 : Int) * (x1 : Int) * (x2 : Int) ≤ 16581375 := Int.le_trans (Int.mul_le_mul p1 (show (x2 : Int) ≤ 255 by omega) (by omega) (by omega)) (by omega)
    go_wp2_with (fail)
    refine (at_any hrd hl _ (by omega) (by omega)).mono ?_
    rintro e w' ⟨x3, hx3, rfl, rfl⟩
    go_wp2_with (fail)
    have n0 : 0 ≤ (x0 : Int) * (x1 : Int) * (x2 : Int) * 256 + (x3 : Int) := by omega
    have n1 : (x0 : Int) * (x1 : Int) * (x2 : Int) * 256 + (x3 : Int) ≤ 4300000000 := by omega
    generalize (x0 : Int) * (x1 : Int) * (x2 : Int) * 256 + (x3 : Int) = n at *
    clear p0 p1 q0 q1
    obtain ⟨m, rfl⟩ := Int.eq_ofNat_of_zero_le n0
    have he : encI (m : Int) = encV m := encI_val (by omega)
    have hsl := encI_len (m : Int)
    have hs1 := (signed_signless (x := -(m : Int)) (by omega)).1
    have hs2 : signlessI (m : Int) = 2 * (m : Int) := by unfold signlessI; rw [if_neg (by omega), if_neg (by omega)]
    have HS1 := Lib.hid hs1
    have HS2 := Lib.hid hs2
    clear hs1 hs2
    refine (encodeVarint_impl _ _).mono ?_
    rintro e w1 ⟨rfl, hb1⟩
    rw [he] at *
    have hD1 : decAt ([120] ++ encV m ++ [128]) 1 = some (m, (encV m).length) := decAt_enc (q := 1) (post := [128]) (by simp) (by omega)
    have hU3 : unpT (packT (encV m) ++ [122, 122]) 0 = some (encV m, (packT (encV m)).length) := unpT_pack (q := 0) (post := [122, 122]) (by omega) (by simp)
    have hpl : (packT (encV m)).length ≤ 12 := by unfold packT; have := encI_len ((encV m).length : Int); rw [List.length_append]; omega
    generalize encV m = s at *
    clear he
    obtain ⟨M1, hM1⟩ : ∃ M1, M1 = [120] ++ s := ⟨_, rfl⟩
    obtain ⟨L1, hL1⟩ : ∃ L1, L1 = M1 ++ [128] := ⟨_, rfl⟩
    have hl1 : M1.length ≤ 7 := by rw [hM1]; simp; omega
    have hl2 : L1.length ≤ 8 := by rw [hL1]; simp; omega
    rw [← hM1, ← hL1] at hD1
    have k1 : ByteArray.mk #[120] ++ ByteArray.mk s.toArray = ByteArray.mk M1.toArray := by rw [hM1]; exact ByteArray.mk_append_mk [120] s
    have k2 : ByteArray.mk M1.toArray ++ ByteArray.mk #[128] = ByteArray.mk L1.toArray := by rw [hL1]; exact ByteArray.mk_append_mk M1 [128]
    have HD1 := Lib.hid hD1
    clear hM1 hL1 hD1
    go_wp2_with (fail)
    refine (decodeVarint_impl L1 1 _ (by omega)).mono ?_
    rintro e w' ⟨rfl, rfl⟩
    rw [HD1.out, retDec_some]
    clear k1 k2
    go_wp2_with (fail)
    have hrd1 := hrd.keep hb1
    refine (at_any hrd1 hl _ (by omega) (by omega)).mono ?_
    rintro e w' ⟨x4, hx4, rfl, rfl⟩
    go_wp2_with (fail)
    obtain ⟨xs, hxs⟩ : ∃ xs : List Int, xs = [(m : Int), -(m : Int), (x4 : Int), -1] := ⟨_, rfl⟩
    have hxn : xs.length = 4 := by rw [hxs]; rfl
    have hxr : ∀ x ∈ xs, -549755813888 ≤ x ∧ x ≤ 549755813887 := by
      rw [hxs]; intro x hx
      simp at hx
      rcases hx with rfl | rfl | rfl | rfl <;> omega
    have hrdx := RdI.new (w := w1) (b := w1.heap.size) (n := 4) hxn #[.int .i64 (m : Int), .int .i64 (-(m : Int)), .int .i64 (x4 : Int), .int .i64 (-1)] (by rw [hxs]; rfl) 3 rfl
    have htl : (packI xs).length ≤ 30 := by
      obtain ⟨bs, hb⟩ := packR_all xs hxr
      rw [packI_some hb, List.length_append]
      have := packR_len xs bs hb
      have := encI_len (xs.length : Int)
      omega
    have hU2 : unpI ([97, 98] ++ packI xs ++ [99]) 2 = some (xs, (packI xs).length) := unpI_pack (q := 2) (post := [99]) hxr (by omega) (by simp)
    clear hxs
    refine (packInts_impl hrdx (by omega)).mono ?_
    rintro e w2 ⟨rfl, hb2⟩
    have hrdx2 := hrdx.keep hb2
    have hB2 : Below w.heap.size w w2 := (hb1.alloc hb1.size _).trans (hb2.mono (by have := hb1.size; simp; omega))
    generalize packI xs = t at *
    obtain ⟨M2, hM2⟩ : ∃ M2, M2 = [97, 98] ++ t := ⟨_, rfl⟩
    obtain ⟨L2, hL2⟩ : ∃ L2, L2 = M2 ++ [99] := ⟨_, rfl⟩
    have hl3 : M2.length ≤ 32 := by rw [hM2]; simp; omega
    have hl4 : L2.length ≤ 33 := by rw [hL2]; simp; omega
    rw [← hM2, ← hL2] at hU2
    have k3 : ByteArray.mk #[97, 98] ++ ByteArray.mk t.toArray = ByteArray.mk M2.toArray := by rw [hM2]; exact ByteArray.mk_append_mk [97, 98] t
    have k4 : ByteArray.mk M2.toArray ++ ByteArray.mk #[99] = ByteArray.mk L2.toArray := by rw [hL2]; exact ByteArray.mk_append_mk M2 [99]
    have HU2 := Lib.hid hU2
    clear hM2 hL2 hU2 hxr
    go_wp2_with (fail)
    refine (unpackInts_impl L2 2 _ (by omega)).mono ?_
    intro e w3 hu
    obtain ⟨v3, rfl, o3, b3⟩ := hu
    rw [HU2.out] at o3 ⊢
    clear k3 k4
    simp only [Option.getD_some, Option.isSome_some] at o3 ⊢
    have hB3 := hB2.trans (b3.mono hB2.size)
    go_wp2_with (fail)
    refine (packText_impl s _ (by omega)).mono ?_
    rintro e w4 ⟨rfl, b4⟩
    have hB4 := hB3.trans (b4.mono hB3.size)
    generalize packT s = u at *
    obtain ⟨L3, hL3⟩ : ∃ L3, L3 = u ++ [122, 122] := ⟨_, rfl⟩
    have hl5 : L3.length ≤ 14 := by rw [hL3]; simp; omega
    rw [← hL3] at hU3
    have k5 : ByteArray.mk u.toArray ++ ByteArray.mk #[122, 122] = ByteArray.mk L3.toArray := by rw [hL3]; exact ByteArray.mk_append_mk u [122, 122]
    have HU3 := Lib.hid hU3
    clear hL3 hU3
    go_wp2_with (fail)
    refine (unpackText_impl L3 0 _ (by omega)).mono ?_
    rintro e w' ⟨rfl, rfl⟩
    rw [HU3.out, retUnpT_some]
    clear k5
    have hrdx4 := (hrdx2.keep b3).keep b4
    have o4 := o3.keep b4
    go_wp2_with (fail)
    refine (sameInts_same o4.rd hrdx4 (by omega)).mono ?_
    rintro e w5 ⟨rfl, n5, rfl⟩
    go_wp2_with (fail)
    refine (signless_impl _ _).mono ?_
    rintro e w' ⟨rfl, rfl⟩
    go_wp2_with (fail)
    refine (signed_impl _ _).mono ?_
    rintro e w' ⟨rfl, rfl⟩
    rw [HS1.out]
    go_wp2_with (fail)
    refine (signless_impl _ _).mono ?_
    rintro e w' ⟨rfl, rfl⟩
    rw [HS2.out]
    go_wp2_with (fail)
    go_ret
    exact ⟨by simp, below_drewN hB4 _⟩
end Go.Proofs.Ytkjlljdidcnciaa
