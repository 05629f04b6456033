/-
  Drawn twins: l01Twins and DrawTwins. At most 2^20 drawn bytes.
-/
import Derived.Test.YtalfmeedffbllaaTexts
import Derived.Test.YtalfmeedffbllaaZerosP
namespace Go.Proofs.Ytalfmeedffbllaa
open Go.RowKit
set_option linter.all false
theorem grown_drew {w W : World} {c : Nat} (h : w.grownBy W (some c)) : w.grownBy W.drew (some c) := ⟨h.os, h.tape, h.output, h.size, h.block⟩
/-- What a draw of two texts leaves. -/
def DrawnTwo (w : World) (B c len : Nat) (e : Ending) (w' : World) : Prop := ∃ a b : List UInt8, a.length ≤ 28 ∧ b.length ≤ 56 ∧ e = .returned (.tuple #[.string ⟨a.toArray⟩, .string ⟨b.toArray⟩]) ∧ Cur w' B c len ∧ w.grownBy w' (some c)
theorem run_slice_to {l : List UInt8} {k : Nat} (hk : k ≤ l.length) (W : World) : (Instr.slice 9 (.string ⟨l.toArray⟩) none (some (.int .i64 (k : Int))) none).run Try.prog W = .ok (.string ⟨(l.take k).toArray⟩) W := by
  have hsz : (ByteArray.mk l.toArray).size = l.length := by simp [ByteArray.size]
  rw [run_slice_string_to_if W 9 _ .i64 _ Try.underlying9, if_pos ⟨by omega, by rw [hsz]; omega⟩, ByteArray.extract_mk, Int.toNat_natCast]
  simp
set_option maxHeartbeats 4000000 in
theorem twins_any {w : World} {B c len : Nat} (hcu : Cur w B c len) (hl : len ≤ 1048576) :
    Calls Try.prog 31 #[.pointer (some ⟨c, 0, none⟩)] w (DrawnTwo w B c len) := by
  go_enter Try.func31, Try.ntmps31
  go_wp2_with (go_at_call 45; refine (holes_any hcu hl).mono ?_; clear hcu; rintro e w1 ⟨a, ha, rfl, hcu, hgr⟩; have hsa : (ByteArray.mk a.toArray).size = a.length := by simp [ByteArray.size])
  · rename_i hpos
    have m1 : True := trivial
    go_wp2_with (go_at_call 46; clear m1; refine (once_any (B := B) ?_ hl 3 (by omega)).mono ?_; exact hcu; rintro e w2 ⟨y, rfl, hcu2, hg2⟩; have hgr2 := grown_trans hgr hg2)
    · go_wp2_with (go_at_call 47; refine (below_any (B := B) ?_ hl _ (by omega)).mono ?_; exact hcu2; rintro e w3 ⟨k, ⟨hk0, hk1, -⟩, rfl, hcu3, hg3⟩; obtain ⟨k, rfl⟩ := Int.eq_ofNat_of_zero_le hk0; have hgr3 := grown_trans hgr2 hg3; have hx1 := fun W => run_slice_to (l := a) (k := k) (by omega) W; have hx2 : ∀ W, (Instr.slice 9 (.string ⟨a.toArray⟩) (some (.int .i64 ((k : Int) + 1))) none none).run Try.prog W = .ok (.string ⟨(a.drop (k + 1)).toArray⟩) W := fun W => by have := slice_from a (k + 1) (by omega) W; rw [show ((k + 1 : Nat) : Int) = (k : Int) + 1 by omega] at this; exact this)
      have hcd3 : Cur w3.drew B c len := hcu3
      have hkl : k < a.length := by omega
      have hwk : IntKind.i64.wrap ((k : Int) + 1) = (k : Int) + 1 := by rw [IntKind.wrap_i64]; omega
      have htk : (a.take k).length = k := by rw [List.length_take]; omega
      have hdk : (a.drop (k + 1)).length = a.length - (k + 1) := by rw [List.length_drop]
      generalize a.take k = p at hx1 htk
      generalize a.drop (k + 1) = q at hx2 hdk
      have hsp : (ByteArray.mk p.toArray).size = p.length := by simp [ByteArray.size]
      go_region_with (go_at_call 48; refine (text_any (B := B) ?_ hl 1 (by omega)).mono ?_; exact hcd3; rintro e w4 ⟨r, hr, rfl, hcu4, hg4⟩; have hgr4 := grown_trans (grown_drew hgr3) hg4; have hr1 : r.length ≤ 1 := by simpa using hr)
      all_goals
        go_wp2_with (fail)
        try rw [ByteArray.mk_append_mk, ByteArray.mk_append_mk]
        have hb : (p ++ r ++ q).length ≤ 28 := by simp only [List.length_append]; omega
        generalize p ++ r ++ q = b at hb ⊢
        have m3 : True := trivial
        go_wp2_with (go_at_call 46; clear m3; refine (once_any (B := B) ?_ hl 3 (by omega)).mono ?_; exact hcu4; rintro e xc ⟨y, rfl, hcy, hgy⟩; have hgry : w.grownBy xc (some c) := (by first | exact grown_trans hgr4 hgy | exact grown_trans (grown_drew hgr4) hgy))
        · have m5 : True := trivial
          go_wp2_with (go_at_call 45; clear m5; refine (holes_any (B := B) ?_ hl).mono ?_; exact hcy; rintro e yc ⟨t, ht, rfl, hct, hgt⟩; have hgrt : w.grownBy yc (some c) := grown_trans hgry hgt)
          try rw [ByteArray.mk_append_mk]
          have hbt : (b ++ t).length ≤ 56 := by rw [List.length_append]; omega
          generalize b ++ t = bt at hbt ⊢
          have m4 : True := trivial
          go_wp2_with (go_at_call 46; clear m4; refine (once_any (B := B) ?_ hl 4 (by omega)).mono ?_; exact hct; rintro e vca ⟨z, rfl, hcz, hgz⟩; have hgrz : w.grownBy vca (some c) := (by first | exact grown_trans hgrt hgz | exact grown_trans (grown_drew hgrt) hgz))
          · go_wp2_with (fail)
            have hcd : Cur vca.drew B c len := hcz
            have hszb : (ByteArray.mk bt.toArray).size = bt.length := by simp [ByteArray.size]
            · go_wp2_with (go_at_call 47; refine (below_any (B := B) ?_ hl _ (by omega)).mono ?_; exact hcz; rintro e uca ⟨j, ⟨hj0, hj1, -⟩, rfl, hcj, hgj⟩; obtain ⟨j, rfl⟩ := Int.eq_ofNat_of_zero_le hj0; have hxj := fun W => run_slice_to (l := bt) (k := j) (by omega) W)
              go_ret2
              exact ⟨a, bt.take j, ha, by rw [List.length_take]; omega, rfl, hcj, grown_trans hgrz hgj⟩
          · go_wp2_with (fail)
            go_ret2
            exact ⟨a, bt, ha, by omega, rfl, hcz, hgrz⟩
        · have hb56 : b.length ≤ 56 := by omega
          have m4 : True := trivial
          go_wp2_with (go_at_call 46; clear m4; refine (once_any (B := B) ?_ hl 4 (by omega)).mono ?_; exact hcy; rintro e vcb ⟨z, rfl, hcz, hgz⟩; have hgrz : w.grownBy vcb (some c) := (by first | exact grown_trans hgry hgz | exact grown_trans (grown_drew hgry) hgz))
          · go_wp2_with (fail)
            have hcd : Cur vcb.drew B c len := hcz
            have hszb : (ByteArray.mk b.toArray).size = b.length := by simp [ByteArray.size]
            · go_wp2_with (go_at_call 47; refine (below_any (B := B) ?_ hl _ (by omega)).mono ?_; exact hcz; rintro e ucb ⟨j, ⟨hj0, hj1, -⟩, rfl, hcj, hgj⟩; obtain ⟨j, rfl⟩ := Int.eq_ofNat_of_zero_le hj0; have hxj := fun W => run_slice_to (l := b) (k := j) (by omega) W)
              go_ret2
              exact ⟨a, b.take j, ha, by rw [List.length_take]; omega, rfl, hcj, grown_trans hgrz hgj⟩
          · go_wp2_with (fail)
            go_ret2
            exact ⟨a, b, ha, by omega, rfl, hcz, hgrz⟩
    · have ha' := ha
      have m3 : True := trivial
      go_wp2_with (go_at_call 46; clear m3; refine (once_any (B := B) ?_ hl 3 (by omega)).mono ?_; exact hcu2; rintro e xd ⟨y, rfl, hcy, hgy⟩; have hgry : w.grownBy xd (some c) := (by first | exact grown_trans hgr2 hgy | exact grown_trans (grown_drew hgr2) hgy))
      · have m5 : True := trivial
        go_wp2_with (go_at_call 45; clear m5; refine (holes_any (B := B) ?_ hl).mono ?_; exact hcy; rintro e yd ⟨t, ht, rfl, hct, hgt⟩; have hgrt : w.grownBy yd (some c) := grown_trans hgry hgt)
        try rw [ByteArray.mk_append_mk]
        have hbt : (a ++ t).length ≤ 56 := by rw [List.length_append]; omega
        generalize a ++ t = bt at hbt ⊢
        have m4 : True := trivial
        go_wp2_with (go_at_call 46; clear m4; refine (once_any (B := B) ?_ hl 4 (by omega)).mono ?_; exact hct; rintro e vda ⟨z, rfl, hcz, hgz⟩; have hgrz : w.grownBy vda (some c) := (by first | exact grown_trans hgrt hgz | exact grown_trans (grown_drew hgrt) hgz))
        · go_wp2_with (fail)
          have hcd : Cur vda.drew B c len := hcz
          have hszb : (ByteArray.mk bt.toArray).size = bt.length := by simp [ByteArray.size]
          · go_wp2_with (go_at_call 47; refine (below_any (B := B) ?_ hl _ (by omega)).mono ?_; exact hcz; rintro e uda ⟨j, ⟨hj0, hj1, -⟩, rfl, hcj, hgj⟩; obtain ⟨j, rfl⟩ := Int.eq_ofNat_of_zero_le hj0; have hxj := fun W => run_slice_to (l := bt) (k := j) (by omega) W)
            go_ret2
            exact ⟨a, bt.take j, ha, by rw [List.length_take]; omega, rfl, hcj, grown_trans hgrz hgj⟩
        · go_wp2_with (fail)
          go_ret2
          exact ⟨a, bt, ha, by omega, rfl, hcz, hgrz⟩
      · have hb56 : a.length ≤ 56 := by omega
        have m4 : True := trivial
        go_wp2_with (go_at_call 46; clear m4; refine (once_any (B := B) ?_ hl 4 (by omega)).mono ?_; exact hcy; rintro e vdb ⟨z, rfl, hcz, hgz⟩; have hgrz : w.grownBy vdb (some c) := (by first | exact grown_trans hgry hgz | exact grown_trans (grown_drew hgry) hgz))
        · go_wp2_with (fail)
          have hcd : Cur vdb.drew B c len := hcz
          have hszb : (ByteArray.mk a.toArray).size = a.length := by simp [ByteArray.size]
          · go_wp2_with (go_at_call 47; refine (below_any (B := B) ?_ hl _ (by omega)).mono ?_; exact hcz; rintro e udb ⟨j, ⟨hj0, hj1, -⟩, rfl, hcj, hgj⟩; obtain ⟨j, rfl⟩ := Int.eq_ofNat_of_zero_le hj0; have hxj := fun W => run_slice_to (l := a) (k := j) (by omega) W)
            go_ret2
            exact ⟨a, a.take j, ha, by rw [List.length_take]; omega, rfl, hcj, grown_trans hgrz hgj⟩
        · go_wp2_with (fail)
          go_ret2
          exact ⟨a, a, ha, by omega, rfl, hcz, hgrz⟩
  · have ha' := ha
    have m3 : True := trivial
    go_wp2_with (go_at_call 46; clear m3; refine (once_any (B := B) ?_ hl 3 (by omega)).mono ?_; exact hcu; rintro e xe ⟨y, rfl, hcy, hgy⟩; have hgry : w.grownBy xe (some c) := (by first | exact grown_trans hgr hgy | exact grown_trans (grown_drew hgr) hgy))
    · have m5 : True := trivial
      go_wp2_with (go_at_call 45; clear m5; refine (holes_any (B := B) ?_ hl).mono ?_; exact hcy; rintro e ye ⟨t, ht, rfl, hct, hgt⟩; have hgrt : w.grownBy ye (some c) := grown_trans hgry hgt)
      try rw [ByteArray.mk_append_mk]
      have hbt : (a ++ t).length ≤ 56 := by rw [List.length_append]; omega
      generalize a ++ t = bt at hbt ⊢
      have m4 : True := trivial
      go_wp2_with (go_at_call 46; clear m4; refine (once_any (B := B) ?_ hl 4 (by omega)).mono ?_; exact hct; rintro e vea ⟨z, rfl, hcz, hgz⟩; have hgrz : w.grownBy vea (some c) := (by first | exact grown_trans hgrt hgz | exact grown_trans (grown_drew hgrt) hgz))
      · go_wp2_with (fail)
        have hcd : Cur vea.drew B c len := hcz
        have hszb : (ByteArray.mk bt.toArray).size = bt.length := by simp [ByteArray.size]
        · go_wp2_with (go_at_call 47; refine (below_any (B := B) ?_ hl _ (by omega)).mono ?_; exact hcz; rintro e uea ⟨j, ⟨hj0, hj1, -⟩, rfl, hcj, hgj⟩; obtain ⟨j, rfl⟩ := Int.eq_ofNat_of_zero_le hj0; have hxj := fun W => run_slice_to (l := bt) (k := j) (by omega) W)
          go_ret2
          exact ⟨a, bt.take j, ha, by rw [List.length_take]; omega, rfl, hcj, grown_trans hgrz hgj⟩
      · go_wp2_with (fail)
        go_ret2
        exact ⟨a, bt, ha, by omega, rfl, hcz, hgrz⟩
    · have hb56 : a.length ≤ 56 := by omega
      have m4 : True := trivial
      go_wp2_with (go_at_call 46; clear m4; refine (once_any (B := B) ?_ hl 4 (by omega)).mono ?_; exact hcy; rintro e veb ⟨z, rfl, hcz, hgz⟩; have hgrz : w.grownBy veb (some c) := (by first | exact grown_trans hgry hgz | exact grown_trans (grown_drew hgry) hgz))
      · go_wp2_with (fail)
        have hcd : Cur veb.drew B c len := hcz
        have hszb : (ByteArray.mk a.toArray).size = a.length := by simp [ByteArray.size]
        · go_wp2_with (go_at_call 47; refine (below_any (B := B) ?_ hl _ (by omega)).mono ?_; exact hcz; rintro e ueb ⟨j, ⟨hj0, hj1, -⟩, rfl, hcj, hgj⟩; obtain ⟨j, rfl⟩ := Int.eq_ofNat_of_zero_le hj0; have hxj := fun W => run_slice_to (l := a) (k := j) (by omega) W)
          go_ret2
          exact ⟨a, a.take j, ha, by rw [List.length_take]; omega, rfl, hcj, grown_trans hgrz hgj⟩
      · go_wp2_with (fail)
        go_ret2
        exact ⟨a, a, ha, by omega, rfl, hcz, hgrz⟩
end Go.Proofs.Ytalfmeedffbllaa
