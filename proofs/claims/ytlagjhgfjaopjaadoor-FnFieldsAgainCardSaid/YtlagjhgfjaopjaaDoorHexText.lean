/-
  The law on hexadecimal texts. Condition: what the given row lists.
-/
import Derived.Test.YtlagjhgfjaopjaaDoorLaidT
import Derived.Test.YtlagjhgfjaopjaaDoorLong
import Derived.Test.YtlagjhgfjaopjaaDoorTexts
import Derived.Test.YtlagjhgfjaopjaaDoorUnhex
import Derived.Test.YtlagjhgfjaopjaaDoorCode
namespace Go.Proofs.YtlagjhgfjaopjaaDoor
open Go.RowKit
set_option linter.all false
theorem grown_below3 {w0 w w' : World} {c : Nat} (h : w.grownBy w' (some c)) (hc : w0.heap.size ≤ c) (hs : w0.heap.size ≤ w.heap.size) : Below w0.heap.size w w' :=
  ⟨h.os, h.tape, h.output, h.size, fun k hk => h.block k (by omega) (fun e => by injection e with e; omega)⟩
/-- A text came out, at most n bytes long. -/
def OneText (w : World) (n : Nat) (e : Ending) (w' : World) : Prop := ∃ t : List UInt8, t.length ≤ n ∧ e = .returned (.string ⟨t.toArray⟩) ∧ Below w.heap.size w w'
set_option maxHeartbeats 1000000 in
theorem drawEncodeHex_any {w : World} {v : Value} {len : Nat} (hrd : RdC w v len) (hl : len ≤ 1048576) :
    Calls Tryd.prog 8 #[v] w (OneText w 20001) := by
  have hrd' := hrd
  obtain ⟨a, cap, rfl, _⟩ := hrd
  go_enter Tryd.func8, Tryd.ntmps8
  go_wp2_with (fail)
  refine (new_any hrd' hl).mono ?_
  intro e w1 hm
  have cur1 := hm.cur hrd'
  obtain ⟨h, rfl, rfl⟩ := hm
  generalize hW : w.alloc (.cells #[.slice a len cap, .int .i64 0, .int .i64 h] 51) = w1 at *
  have hb1 : Below w.heap.size w w1 := by rw [← hW]; exact (Below.refl _ _).alloc (Nat.le_refl _) _
  clear hW
  have hs1 := hb1.size
  go_wp2_with (fail)
  refine (once_any cur1 hl 60 (by omega)).mono ?_
  rintro e w2 ⟨x, rfl, cur2, g2⟩
  have hb2 := hb1.trans (grown_below3 g2 (Nat.le_refl _) hs1)
  have hs2 := hb2.size
  cases x
  · go_wp2_with (fail)
    refine (below_any cur2 hl 30 (by omega)).mono ?_
    rintro e w3 ⟨y, ⟨hy0, hy1, -⟩, rfl, cur3, g3⟩
    have hb3 := hb2.trans (grown_below3 g3 (Nat.le_refl _) hs2)
    have hs3 := hb3.size
    go_wp2_with (fail)
    refine (text_any cur3 hl y (by omega)).mono ?_
    rintro e w4 ⟨t, ht, rfl, cur4, g4⟩
    have hb4 := hb3.trans (grown_below3 g4 (Nat.le_refl _) hs3)
    go_wp2_with (fail)
    go_ret
    exact ⟨t, by omega, rfl, hb4⟩
  · go_wp2_with (fail)
    refine (below_any cur2 hl 2 (by omega)).mono ?_
    rintro e w3 ⟨y, ⟨hy0, hy1, -⟩, rfl, cur3, g3⟩
    have hb3 := hb2.trans (grown_below3 g3 (Nat.le_refl _) hs2)
    have hs3 := hb3.size
    obtain ⟨m, hm, hm2⟩ : ∃ m : Nat, 20000 + y = (m : Int) ∧ m ≤ 20001 := ⟨(20000 + y).toNat, by omega, by omega⟩
    have hy2 : y ≤ 1 := by omega
    clear hy1
    go_wp2_with (fail)
    try rw [hm]
    refine (long_any m 200 _ (by omega)).mono ?_
    rintro e w4 ⟨t, ht, rfl, hb⟩
    go_wp2_with (fail)
    go_ret
    exact ⟨t, by omega, rfl, hb3.trans (hb.mono hs3)⟩
theorem unhex_hexD : ∀ n : Fin 256, hexB (hexD (n.val / 16)) (hexD (n.val % 16)) = UInt8.ofNat n.val ∧ ¬ valH (hexD (n.val / 16)) < 0 ∧ ¬ valH (hexD (n.val % 16)) < 0 := by decide +kernel
theorem unhex_hexL (l : List UInt8) : unhex (hexL l) = some l := by
  induction l with
  | nil => rfl
  | cons c l ih =>
    have := unhex_hexD ⟨c.toNat, c.toNat_lt⟩
    simp only [UInt8.ofNat_toNat] at this
    simp only [hexL, unhex]
    rw [if_neg (by rintro (h | h); exact this.2.1 h; exact this.2.2 h), ih, this.1]; rfl
theorem decHex_hexL (l : List UInt8) (h : l.length ≤ 20000) : decHex (hexL l) = some l := by
  unfold decHex; rw [hexL_len, if_neg (by omega)]; exact unhex_hexL l
set_option maxHeartbeats 2000000 in
theorem lawHexText (a : Option Addr) (len cap : Nat) (zs : List Int) (w : World) (hr : IsRow .u8 w a len cap zs) (hL : laidMetH Tryd.prog Rows.fnHexTextRow.laid w) :
    Calls Tryd.prog 3 #[.slice a len cap] w fun e w' => e = .returned (.bool true) ∧ Below w.heap.size w w' := by
  rw [MakeChecks.laidMetH_plain _ _ _ (by kernel_rfl)] at hL
  have hT0 : laidMet Tryd.prog [("math/bits.deBruijn32tab", Rows.laid_math_bits_deBruijn32tab), ("math/bits.deBruijn64tab", Rows.laid_math_bits_deBruijn64tab), ("internal/strconv.uint64pow10", Rows.laid_internal_strconv_uint64pow10)] w := hL
  have hT := Tab.mk hT0.tail.tail
  clear hT0 hL
  obtain ⟨hrd, hl⟩ := RdC.of_row hr
  clear hr
  by_cases h : 1048576 < (len : Int)
  · have b1 : decide (1048576 < (len : Int)) = true := by simpa using h
    go_enter Tryd.func3, Tryd.ntmps3
    go_wp2_with (go_at_call 7; refine (big_any hrd hl).mono ?_; rintro e w' ⟨rfl, rfl⟩)
    go_ret
    exact ⟨rfl, Below.refl _ _⟩
  · have b1 : decide (1048576 < (len : Int)) = false := by simpa using h
    go_enter Tryd.func3, Tryd.ntmps3
    go_wp2_with (first
      | (go_at_call 7; refine (big_any hrd hl).mono ?_; rintro e w' ⟨rfl, rfl⟩)
      | (go_at_call 8; refine (drawEncodeHex_any hrd (by omega)).mono ?_; rintro e w1 ⟨l, hll, rfl, hb1⟩; have hT1 := hT.below hb1))
    have hs1 := hb1.size
    have EI := fun W => encodeHex_impl l W (by omega)
    by_cases hlong : 20000 < l.length
    · have HE := Lib.hid (show encHex l = none by unfold encHex; rw [if_pos hlong])
      have b2 : decide ((20000 : Int) < (l.length : Int)) = true := by simp; omega
      have h10 : Lib.itoa 10 = [49, 48] := by decide +kernel
      have hF := fun W h => formatInt_impl 10 W (by omega) (by omega) h
      rw [h10] at hF
      clear h10
      go_wp2_with (first
        | (go_at_call 9; refine (EI _).mono ?_; rintro e w2 ⟨rfl, hb2⟩; have hT2 := hT1.below hb2; rw [HE.out]; unfold retOptS)
        | (go_at_call 10; refine (hF _ hT2).mono ?_; rintro e w3 ⟨rfl, hb3⟩))
      go_ret
      exact ⟨rfl, (hb1.trans (hb2.mono hs1)).trans (hb3.mono (by have := hb2.size; omega))⟩
    · have HE := Lib.hid (show encHex l = some (hexL l) by unfold encHex; rw [if_neg hlong])
      have b2 : decide ((20000 : Int) < (l.length : Int)) = false := by simp; omega
      have HD := Lib.hid (decHex_hexL l (by omega))
      have hx : (hexL l).length = 2 * l.length := hexL_len l
      generalize hexL l = x at HE HD hx
      have DI := fun W => decodeHex_impl x W (by omega)
      have hxx : (x.length : Int) = 2 * (l.length : Int) := by omega
      have hl2 : l.length ≤ 20000 := by omega
      clear hx
      go_wp2_with (first
        | (go_at_call 9; refine (EI _).mono ?_; rintro e w2 ⟨rfl, hb2⟩; rw [HE.out]; unfold retOptS)
        | (go_at_call 11; refine (DI _).mono ?_; rintro e w3 ⟨rfl, hb3⟩; rw [HD.out]; unfold retOptS))
      go_ret
      exact ⟨rfl, (hb1.trans (hb2.mono hs1)).trans (hb3.mono (by have := hb2.size; omega))⟩
end Go.Proofs.YtlagjhgfjaopjaaDoor
