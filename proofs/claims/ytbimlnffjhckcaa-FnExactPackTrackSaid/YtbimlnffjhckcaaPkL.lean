/-
  The law on PackTrack. No condition.
-/
import Derived.Test.YtbimlnffjhckcaaPkT
namespace Go.Proofs.Ytbimlnffjhckcaa
open Go.RowKit
set_option linter.all false
set_option maxHeartbeats 1000000 in
theorem lawPackTrack (a : Option Addr) (len cap : Nat) (zs : List Int) (w : World) (hr : IsRow .i64 w a len cap zs) :
    Calls Try.prog 11 #[.slice a len cap] w fun e w' => e = .returned (.bool true) ∧ Below w.heap.size w w' := by
  obtain ⟨hrd, hl, _⟩ := RdI.of_row hr
  have hm : len ≤ maxLen := by
    rcases hr with ⟨_, rfl, _⟩ | ⟨x, _, h1, h2, _⟩
    · exact Nat.zero_le _
    · exact Nat.le_trans h1 h2
  unfold maxLen at hm
  clear hr
  by_cases h : 1048576 < len
  · go_enter Try.func11, Try.ntmps11
    go_wp2_with (fail)
    go_ret
    exact ⟨rfl, Below.refl _ _⟩
  · generalize zs.take len = xs at hrd hl
    have hn : xs.length ≤ 1099511627776 := by omega
    have hle : (len : Int) ≤ 1048576 := by omega
    have HL := Lib.hid hl
    clear hl h
    go_enter Try.func11, Try.ntmps11
    go_wp2_with (fail)
    refine (toIntS_any hrd hn).mono ?_
    rintro e w1 ⟨v1, rfl, r1, b1⟩
    go_wp2_with (fail)
    refine (packTrack_spec r1 hn).mono ?_
    rintro e w2 ⟨rfl, b2⟩
    go_wp2_with (fail)
    have q2 := b1.trans (b2.mono b1.size)
    have hrd2 := hrd.keep q2
    refine (toIntS_cap hrd2 hn).mono ?_
    rintro e w3 ⟨v3, rfl, o3, hc3, b3⟩
    have r3 := o3.rd
    go_wp2_with (fail)
    refine (packTrack_impl r3 hc3 hn).mono ?_
    rintro e w4 ⟨rfl, b4⟩
    go_wp2_with (fail)
    have r3' := r3.keep b4
    have q4 := (q2.trans (b3.mono q2.size)).trans (b4.mono (Nat.le_trans q2.size b3.size))
    have hrd4 := hrd.keep q4
    refine (toIntS_any hrd4 hn).mono ?_
    rintro e w5 ⟨v5, rfl, r5, b5⟩
    go_wp2_with (fail)
    refine (eqIntS_same (r3'.keep b5) r5 hn).mono ?_
    rintro e w6 ⟨rfl, n6, rfl⟩
    go_wp2_with (fail)
    go_ret
    exact ⟨rfl, below_drewN (q4.trans (b5.mono q4.size)) _⟩
end Go.Proofs.Ytbimlnffjhckcaa
