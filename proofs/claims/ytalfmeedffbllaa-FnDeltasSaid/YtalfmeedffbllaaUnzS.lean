/-
  The contract of UnpackZeros that the specification writes.
-/
import Derived.Test.YtalfmeedffbllaaUnz
import Derived.Test.YtalfmeedffbllaaZerosS
namespace Go.Proofs.Ytalfmeedffbllaa
open Go.RowKit
set_option linter.all false
theorem run_str_zeros (W : World) (n : Nat) : (convert 22 9 (.slice (some ⟨W.heap.size, 0, none⟩) n n)).run Try.prog (W.alloc (.cells (madeCells #[.int .u8 0] n) 5)) = .ok (.string ⟨(List.replicate n (0 : UInt8)).toArray⟩) (W.alloc (.cells (madeCells #[.int .u8 0] n) 5)) := by
  have h := run_convert_bytes_back (P := Try.prog) (W.alloc (.cells (madeCells #[.int .u8 0] n) 5)) 22 9 5 ⟨W.heap.size, 0, none⟩ n (List.replicate n (0 : UInt8)) Try.underlying22 Try.underlying5 Try.underlying9 ?_
  · rw [List.length_replicate] at h; exact h
  · intro j hj
    have hadd : (⟨W.heap.size, 0, none⟩ : Addr).add j = ⟨W.heap.size, j, none⟩ := by unfold Addr.add; split <;> simp_all
    rw [List.length_replicate] at hj
    rw [hadd, World.cell?_alloc_mark, ← Array.getElem?_toList, toList_madeCells_one, List.getElem_replicate, List.getElem?_replicate, if_pos hj]
    rfl
set_option maxHeartbeats 16000000 in
theorem unpackZeros_spec (l : List UInt8) (w : World) (hs : l.length ≤ 70368744177664) :
    Calls Try.prog 28 #[.string ⟨l.toArray⟩] w fun e w' => e = .returned (retUnZ (unpZ l)) ∧ Below w.heap.size w w' := by
  go_enter Try.func28, Try.ntmps28
  go_wp2_with (fail)
  go_loopw [4, 5] (fun v i wr => ∃ (a : Nat) (out : List UInt8), i = .int .i64 a ∧ v = .string ⟨out.toArray⟩ ∧ a ≤ l.length ∧ out.length ≤ 20000 ∧ unz l a out = unz l 0 [] ∧ Below w.heap.size w wr ∧ w.heap.size ≤ wr.heap.size)
    (fun _ i _ => l.length - (intOf i).toNat)
  case atStart => exact ⟨0, [], rfl, rfl, Nat.zero_le _, by simp, rfl, Below.refl _ _, Nat.le_refl _⟩
  case round =>
    obtain ⟨a, out, rfl, rfl, hal, hol, hun, hbel, hsw⟩ := hrel
    have hso : (ByteArray.mk out.toArray).size = out.length := by simp [ByteArray.size]
    by_cases ha : a < l.length
    · cases hd : decAt l (a : Int) with
      | none =>
        have HF := Lib.hid (unpZ_none (hun.symm.trans (unz_no ha (stepZ_no1 hd))))
        have HD := Lib.hid hd; clear hd hun
        go_wp2_with (first
          | (go_at_call 42; refine (decodeVarint_spec _ _ _ hs (by omega)).mono ?_; rintro e w1 ⟨rfl, hb1⟩; rw [HD.out, retDec_none])
          | (go_at_call 43; refine (unpackText_spec _ _ _ hs (by omega)).mono ?_; rintro e w2 ⟨rfl, hb2⟩; unfold retUnpT))
        have hbel2 := hbel.trans ((hb1.trans (hb2.mono hb1.size)).mono hsw)
        go_ret2
        exact ⟨by rw [HF.out]; rfl, hbel2⟩
      | some x =>
        obtain ⟨n, m⟩ := x
        obtain ⟨-, hm1, hm6, hpm, hn⟩ := decAt_facts hd
        rw [Int.toNat_natCast] at hpm
        cases hu : unpT l ((a : Int) + (m : Int)) with
        | none =>
          have HF := Lib.hid (unpZ_none (hun.symm.trans (unz_no ha (stepZ_no2 hd hu))))
          have HD := Lib.hid hd; have HU := Lib.hid hu; clear hd hun hu
          go_wp2_with (first
            | (go_at_call 42; refine (decodeVarint_spec _ _ _ hs (by omega)).mono ?_; rintro e w1 ⟨rfl, hb1⟩; rw [HD.out, retDec_some])
            | (go_at_call 43; refine (unpackText_spec _ _ _ hs (by omega)).mono ?_; rintro e w2 ⟨rfl, hb2⟩; rw [HU.out]; unfold retUnpT))
          have hbel2 := hbel.trans ((hb1.trans (hb2.mono hb1.size)).mono hsw)
          go_ret2
          exact ⟨by rw [HF.out]; rfl, hbel2⟩
        | some y =>
          obtain ⟨t, k⟩ := y
          obtain ⟨-, hk1, hpk, htl⟩ := unpT_facts hu
          rw [show ((a : Int) + (m : Int)).toNat = a + m by omega] at hpk
          have hsz : (ByteArray.mk t.toArray).size = t.length := by simp [ByteArray.size]
          by_cases hlong : 20000 < out.length + n + t.length
          · have HF := Lib.hid (unpZ_none (hun.symm.trans (unz_no ha (stepZ_no3 hd hu hlong))))
            have HD := Lib.hid hd; have HU := Lib.hid hu; clear hd hun hu
            have b1 : decide ((20000 : Int) - out.length < (n : Int) + t.length) = true := by simp; omega
            go_wp2_with (first
              | (go_at_call 42; refine (decodeVarint_spec _ _ _ hs (by omega)).mono ?_; rintro e w1 ⟨rfl, hb1⟩; rw [HD.out, retDec_some])
              | (go_at_call 43; refine (unpackText_spec _ _ _ hs (by omega)).mono ?_; rintro e w2 ⟨rfl, hb2⟩; rw [HU.out, retUnpT_some]))
            have hbel2 := hbel.trans ((hb1.trans (hb2.mono hb1.size)).mono hsw)
            go_ret2
            exact ⟨by rw [HF.out]; rfl, hbel2⟩
          · have HF := Lib.hid ((unz_yes ha (stepZ_yes hd hu hlong) (by omega)).symm.trans hun)
            have HD := Lib.hid hd; have HU := Lib.hid hu; clear hd hun hu
            have b1 : decide ((20000 : Int) - out.length < (n : Int) + t.length) = false := by simp; omega
            have hmk := fun W => run_make_bytes W n (by omega)
            have hst := fun W => run_str_zeros W n
            go_wp2_with (first
              | (go_at_call 42; refine (decodeVarint_spec _ _ _ hs (by omega)).mono ?_; rintro e w1 ⟨rfl, hb1⟩; rw [HD.out, retDec_some])
              | (go_at_call 43; refine (unpackText_spec _ _ _ hs (by omega)).mono ?_; rintro e w2 ⟨rfl, hb2⟩; rw [HU.out, retUnpT_some]))
            have hbel2 := hbel.trans ((hb1.trans (hb2.mono hb1.size)).mono hsw)
            have hs2 := hbel2.size
            have hbel3 := hbel2.alloc (by omega : w.heap.size ≤ w2.heap.size) (.cells (madeCells #[.int .u8 0] n) 5)
            have hs3 := hbel3.size
            go_roundw
            case rel => exact ⟨a + m + k, out ++ List.replicate n 0 ++ t, by go_num, by first | rfl | (rw [ByteArray.mk_append_mk, ByteArray.mk_append_mk]) | (simp [ByteArray.mk_append_mk]), by omega, by simp only [List.length_append, List.length_replicate]; omega, HF.out, hbel3, by omega⟩
            case measure => simp [intOf]; omega
    · have hend := hun.symm.trans (unz_end ha)
      have hol2 : out.length ≤ 1099511627776 := by omega
      by_cases hg : packZ out = l
      · have HF := Lib.hid (unpZ_good hend hg)
        have hq : (packZ out == l) = true := by simpa using hg
        clear hend hun hg
        go_wp2_with (go_at_call 27; refine (packZeros_spec _ _ hol2).mono ?_; rintro e w1 ⟨rfl, hb1⟩)
        go_ret2
        exact ⟨by rw [HF.out]; rfl, hbel.trans (hb1.mono hsw)⟩
      · have HF := Lib.hid (unpZ_bad hend hg)
        have hq : (packZ out == l) = false := by simpa using hg
        clear hend hun hg
        go_wp2_with (go_at_call 27; refine (packZeros_spec _ _ hol2).mono ?_; rintro e w1 ⟨rfl, hb1⟩)
        go_ret2
        exact ⟨by rw [HF.out]; rfl, hbel.trans (hb1.mono hsw)⟩
end Go.Proofs.Ytalfmeedffbllaa
