/-
  The contract of the program's UnpackZeros.
-/
import Derived.Test.YtalfmeedffbllaaUnz
import Derived.Test.YtalfmeedffbllaaZerosP
namespace Go.Proofs.Ytalfmeedffbllaa
open Go.RowKit
set_option linter.all false
set_option maxHeartbeats 16000000 in
theorem unpackZeros_impl (l : List UInt8) (w : World) (hs : l.length ≤ 70368744177664) :
    Calls Try.prog 15 #[.string ⟨l.toArray⟩] w fun e w' => e = .returned (retUnZ (unpZ l)) ∧ Below w.heap.size w w' := by
  go_enter Try.func15, Try.ntmps15
  go_wp2_with (fail)
  go_loopw [4, 5] (fun v i wr => ∃ (a : Nat) (out : List UInt8), i = .int .i64 a ∧ a ≤ l.length ∧ out.length ≤ 20000 ∧ unz l a out = unz l 0 [] ∧ OwnB wr w.heap.size v out ∧ Below w.heap.size w wr ∧ w.heap.size ≤ wr.heap.size)
    (fun _ i _ => l.length - (intOf i).toNat)
  case atStart => exact ⟨0, [], rfl, Nat.zero_le _, by simp, rfl, OwnB.nil _ _, Below.refl _ _, Nat.le_refl _⟩
  case round =>
    obtain ⟨a, out, rfl, hal, hol, hun, hown, hbel, hsw⟩ := hrel
    obtain ⟨ao, cap, rfl⟩ := hown.shape
    by_cases ha : a < l.length
    · cases hd : decAt l (a : Int) with
      | none =>
        have HF := Lib.hid (unpZ_none (hun.symm.trans (unz_no ha (stepZ_no1 hd))))
        have HD := Lib.hid hd; clear hd hun
        go_wp2_with (go_at_call 33; refine (decodeVarint_impl _ _ _ hs).mono ?_; rintro e w1 ⟨rfl, rfl⟩; rw [HD.out, retDec_none])
        go_ret2
        exact ⟨by rw [HF.out]; rfl, hbel⟩
      | some x =>
        obtain ⟨n, m⟩ := x
        obtain ⟨-, hm1, hm6, hpm, hn⟩ := decAt_facts hd
        rw [Int.toNat_natCast] at hpm
        cases hu : unpT l ((a : Int) + (m : Int)) with
        | none =>
          have HF := Lib.hid (unpZ_none (hun.symm.trans (unz_no ha (stepZ_no2 hd hu))))
          have HD := Lib.hid hd; have HU := Lib.hid hu; clear hd hun hu
          go_wp2_with (first
            | (go_at_call 33; refine (decodeVarint_impl _ _ _ hs).mono ?_; rintro e w1 ⟨rfl, rfl⟩; rw [HD.out, retDec_some])
            | (go_at_call 36; refine (unpackText_impl _ _ _ hs).mono ?_; rintro e w1 ⟨rfl, rfl⟩; rw [HU.out]; unfold retUnpT))
          go_ret2
          exact ⟨by rw [HF.out]; rfl, hbel⟩
        | some y =>
          obtain ⟨t, k⟩ := y
          obtain ⟨-, hk1, hpk, htl⟩ := unpT_facts hu
          rw [show ((a : Int) + (m : Int)).toNat = a + m by omega] at hpk
          by_cases hlong : 20000 < out.length + n + t.length
          · have HF := Lib.hid (unpZ_none (hun.symm.trans (unz_no ha (stepZ_no3 hd hu hlong))))
            have HD := Lib.hid hd; have HU := Lib.hid hu; clear hd hun hu
            have hsz : (ByteArray.mk t.toArray).size = t.length := by simp [ByteArray.size]
            go_wp2_with (first
              | (go_at_call 33; refine (decodeVarint_impl _ _ _ hs).mono ?_; rintro e w1 ⟨rfl, rfl⟩; rw [HD.out, retDec_some])
              | (go_at_call 36; refine (unpackText_impl _ _ _ hs).mono ?_; rintro e w1 ⟨rfl, rfl⟩; rw [HU.out, retUnpT_some]))
            go_ret2
            exact ⟨by rw [HF.out]; rfl, hbel⟩
          · have HF := Lib.hid ((unz_yes ha (stepZ_yes hd hu hlong) (by omega)).symm.trans hun)
            have HD := Lib.hid hd; have HU := Lib.hid hu; clear hd hun hu
            have hsz : (ByteArray.mk t.toArray).size = t.length := by simp [ByteArray.size]
            go_wp2_with (first
              | (go_at_call 33; refine (decodeVarint_impl _ _ _ hs).mono ?_; rintro e w1 ⟨rfl, rfl⟩; rw [HD.out, retDec_some])
              | (go_at_call 36; refine (unpackText_impl _ _ _ hs).mono ?_; rintro e w1 ⟨rfl, rfl⟩; rw [HU.out, retUnpT_some])
              | (at_builtin; refine app_zeros rfl _ _ rfl w.heap.size _ out rfl hown n rfl (by omega) hsw ?_; intro v1 w1 hown1 hb1)
              | (at_builtin; refine app_string rfl _ _ rfl w.heap.size _ (out ++ List.replicate n 0) rfl hown1 t rfl (by simp; omega) (by have := hb1.size; omega) ?_; intro v2 w2 hown2 hb2))
            have hs1 := hb1.size
            have hs2 := hb2.size
            have hbel2 := (hbel.trans hb1).trans hb2
            go_roundw
            case rel => exact ⟨a + m + k, _, by go_num, by omega, by simp only [List.length_append, List.length_replicate]; omega, HF.out, hown2, hbel2, by omega⟩
            case measure => simp [intOf]; omega
    · have hend := hun.symm.trans (unz_end ha)
      have hstr := fun W => @run_str_own Try.prog 22 9 5 Try.underlying22 Try.underlying5 Try.underlying9 W w.heap.size
      have hol2 : out.length ≤ 1099511627776 := by omega
      by_cases hg : packZ out = l
      · have HF := Lib.hid (unpZ_good hend hg)
        have hq : (packZ out == l) = true := by simpa using hg
        clear hend hun hg
        have hstr0 := hstr wr hown
        go_wp2_with (go_at_call 14; refine (packZeros_impl _ _ hol2).mono ?_; rintro e w1 ⟨rfl, hb1⟩)
        go_ret2
        exact ⟨by rw [HF.out]; rfl, hbel.trans (hb1.mono hsw)⟩
      · have HF := Lib.hid (unpZ_bad hend hg)
        clear hend hun
        have hstr0 := hstr wr hown
        have hq : (packZ out == l) = false := by simpa using hg
        clear hg
        go_wp2_with (go_at_call 14; refine (packZeros_impl _ _ hol2).mono ?_; rintro e w1 ⟨rfl, hb1⟩)
        go_ret2
        exact ⟨by rw [HF.out]; rfl, hbel.trans (hb1.mono hsw)⟩
end Go.Proofs.Ytalfmeedffbllaa
