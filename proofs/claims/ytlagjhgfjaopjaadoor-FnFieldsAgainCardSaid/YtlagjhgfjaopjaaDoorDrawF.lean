/-
  The drawn line of fields (DrawSplitFields). At most 2^20 drawn bytes.
-/
import Derived.Test.YtlagjhgfjaopjaaDoorHexText
import Derived.Test.YtlagjhgfjaopjaaDoorFmt
import Derived.Test.YtlagjhgfjaopjaaDoorStrs
namespace Go.Proofs.YtlagjhgfjaopjaaDoor
open Go.RowKit
set_option linter.all false
/-- The cursor of this call lies in its first block; of what was there nothing has turned. -/
def St (w : World) (len : Nat) (W : World) : Prop := Cur W w.heap.size w.heap.size len ∧ Below w.heap.size w W
theorem St.step {w W W2 : World} {len : Nat} (h : St w len W) (hc : Cur W2 w.heap.size w.heap.size len) (g : W.grownBy W2 (some w.heap.size)) : St w len W2 :=
  ⟨hc, h.2.trans (grown_below3 g (Nat.le_refl _) h.2.size)⟩
theorem St.on {w W W2 : World} {len : Nat} (h : St w len W) (hb : Below W.heap.size W W2) : St w len W2 :=
  ⟨h.1.below hb h.1.lt, h.2.trans (hb.mono h.2.size)⟩
theorem St.alloc {w W : World} {len : Nat} (h : St w len W) (o : Obj) : St w len (W.alloc o) := h.on ((Below.refl _ _).alloc (Nat.le_refl _) _)
theorem cat_mk (a b : List UInt8) : (ByteArray.mk a.toArray) ++ (ByteArray.mk b.toArray) = ByteArray.mk (a ++ b).toArray := by rw [ByteArray.mk_append_mk]
set_option maxHeartbeats 1000000 in
theorem pick_any {w : World} {B c len : Nat} (hcur : Cur w B c len) (hl : len ≤ 1048576) (b n cap : Nat) (hn : 0 < n) (hn2 : n ≤ 1000000) (hb : b ≠ c) (hcells : ∀ j, j < n → ∃ x : List UInt8, x.length ≤ 2 ∧ w.cell? ⟨b, j, none⟩ = some (.string ⟨x.toArray⟩)) :
    Calls Tryd.prog 26 #[.pointer (some ⟨c, 0, none⟩), .slice (some ⟨b, 0, none⟩) n cap] w (DrawnStr w B c len 2) := by
  go_enter Tryd.func26, Tryd.ntmps26
  go_wp2_with (fail)
  refine (below_any hcur hl _ (by omega)).mono ?_
  rintro e w1 ⟨j, ⟨hj0, hj1, _⟩, rfl, cur1, g1⟩
  obtain ⟨k, rfl⟩ := Int.eq_ofNat_of_zero_le hj0
  have hkn : k < n := by omega
  obtain ⟨x, hx0, hcx⟩ := hcells k hkn
  have hc1 : w1.cell? ⟨b, k, none⟩ = some (.string ⟨x.toArray⟩) := by
    rw [← hcx]
    exact World.cell?_of_block (w := w) (g1.block b (World.block_lt_of_cell? w _ hcx) (fun e => hb (by injection e)))
  have hk' : (k : Int) < (n : Int) := by omega
  go_wp2_with (fail)
  go_ret
  exact ⟨x, hx0, rfl, cur1, g1⟩
def odds6 : List (List UInt8) := [[32], [32, 32], [9], [10], [127], [233]]
theorem odds6_cell (w : World) (t : TypeId) : ∀ j, j < 6 → ∃ x : List UInt8, x.length ≤ 2 ∧ (w.alloc (.cells (odds6.map strV).toArray t)).cell? ⟨w.heap.size, j, none⟩ = some (.string ⟨x.toArray⟩) := by
  intro j hj
  have hm : ∀ x ∈ odds6, x.length ≤ 2 := by decide
  have hj' : j < odds6.length := hj
  refine ⟨odds6[j], hm _ (List.getElem_mem _), ?_⟩
  rw [World.cell?_alloc_mark]; simp [hj', strV]
set_option maxHeartbeats 8000000 in
theorem drawSplit_any {w : World} {v : Value} {len : Nat} (hrd : RdC w v len) (hl : len ≤ 1048576) :
    Calls Tryd.prog 12 #[v] w (OneText w 100000) := by
  have hrd' := hrd
  obtain ⟨a, cap, rfl, _⟩ := hrd
  go_enter Tryd.func12, Tryd.ntmps12
  go_wp2_with (fail)
  refine (new_any hrd' hl).mono ?_
  intro e w1 hm
  have cur1 := hm.cur hrd'
  obtain ⟨h, rfl, rfl⟩ := hm
  have st1 : St w len (w.alloc (.cells #[.slice a len cap, .int .i64 0, .int .i64 h] 51)) := ⟨cur1, (Below.refl _ _).alloc (Nat.le_refl _) _⟩
  clear cur1
  generalize w.alloc (.cells #[.slice a len cap, .int .i64 0, .int .i64 h] 51) = w1 at st1 ⊢
  go_wp2_with (fail)
  refine (below_any st1.1 hl 9 (by omega)).mono ?_
  rintro e w2 ⟨n0, ⟨hn0, hn1, -⟩, rfl, cur2, g2⟩
  have st2 := st1.step cur2 g2
  clear cur2 g2
  go_wp2_with (fail)
  refine (once_any st2.1 hl 15 (by omega)).mono ?_
  rintro e w3 ⟨x, rfl, cur3, g3⟩
  have st3 := st2.step cur3 g3
  clear cur3 g3
  cases x
  case' false =>
    obtain ⟨n, hn⟩ := Int.eq_ofNat_of_zero_le hn0
    have hn25 : n ≤ 25 := by omega
    subst hn
    have stA := st3; clear st3
    go_wp2_with (fail)
  case' true =>
    go_wp2_with (fail)
    refine (below_any st3.1 hl 2 (by omega)).mono ?_
    rintro e w4 ⟨y, ⟨hy0, hy1, -⟩, rfl, cur4, g4⟩
    have st4 := st3.step cur4 g4
    clear cur4 g4 st3
    have stA := st4; clear st4
    obtain ⟨n, hn, hn25⟩ : ∃ n : Nat, 24 + y = (n : Int) ∧ n ≤ 25 := ⟨(24 + y).toNat, by omega, by omega⟩
    have hy2 : y ≤ 1 := by omega
    clear hy1
    go_wp2_with (fail)
    try rw [hn]
    clear hn
  all_goals
    go_loopw [5, 6] (fun s i wr => ∃ (k : Nat) (t : List UInt8), k ≤ n ∧ i = .int .i64 (k : Int) ∧ s = .string ⟨t.toArray⟩ ∧ t.length ≤ 10 * k ∧ St w len wr) (fun _ i _ => n - (intOf i).toNat)
    case atStart => exact ⟨0, [], Nat.zero_le _, rfl, rfl, Nat.zero_le _, stA⟩
    case round =>
      obtain ⟨k, t, hk, rfl, rfl, ht, st⟩ := hrel
      have hB := st.2.size
      by_cases hkn : k < n
      · have z1 : decide ((k : Int) < (n : Int)) = true := by simp; omega
        by_cases h0 : k = 0
        · subst h0
          go_wp2_with (fail)
          refine (once_any st.1 hl 5 (by omega)).mono ?_
          rintro e w4 ⟨x4, rfl, cur4, g4⟩
          have st4 := st.step cur4 g4
          clear cur4 g4 st
          cases x4
          · go_wp2_with (fail)
            have hs0 : t.length ≤ 10 * 0 + 3 := by omega
            go_loopw [5, 7] (fun s j wr => ∃ (q : Nat) (x : List UInt8), q ≤ 5 ∧ j = .int .i64 (q : Int) ∧ s = .string ⟨x.toArray⟩ ∧ x.length ≤ 10 * 0 + 3 + q ∧ St w len wr) (fun _ j _ => 6 - (intOf j).toNat)
            case atStart => exact ⟨0, t, Nat.zero_le _, rfl, rfl, hs0, st4⟩
            case round =>
              obtain ⟨q, x, hq, rfl, rfl, hx, sti⟩ := hrel
              have hxl : x.length ≤ 270 := by omega
              go_wp2_with (fail)
              refine (below_any sti.1 hl 5 (by omega)).mono ?_
              rintro e w8 ⟨y3, ⟨ha0, ha1, -⟩, rfl, cur8, g8⟩
              have st8 := sti.step cur8 g8
              clear cur8 g8 sti
              by_cases hqy : (q : Int) ≤ y3
              · have zq : decide ((q : Int) ≤ y3) = true := by simpa using hqy
                have hq4 : q ≤ 4 := by omega
                clear hqy ha1
                go_wp2_with (fail)
                refine (below_any st8.1 hl 94 (by omega)).mono ?_
                rintro e w9 ⟨z, ⟨hb0, hb1, -⟩, rfl, cur9, g9⟩
                have st9 := st8.step cur9 g9
                clear cur9 g9 st8
                obtain ⟨zz, rfl⟩ := Int.eq_ofNat_of_zero_le hb0
                have hzz : zz ≤ 93 := by omega
                have hcv := conv_one (33 + zz) (by omega)
                rw [show ((33 + zz : Nat) : Int) = 33 + (zz : Int) by omega] at hcv
                have hw1 : IntKind.u8.wrap (33 + (zz : Int)) = 33 + (zz : Int) := by rw [IntKind.wrap_u8']; omega
                have hzi : (zz : Int) ≤ 93 := by omega
                have hsz9 := st9.2.size
                clear hb1
                go_wp2_with (fail)
                go_roundw
                case rel => exact ⟨q + 1, _, by omega, by go_num, by rw [cat_mk], by simp; omega, st9.alloc _⟩
                case measure => simp [intOf]; omega
              · have zq : decide ((q : Int) ≤ y3) = false := by simpa using hqy
                clear hqy
                go_wp2_with (fail)
                go_roundw
                case rel => exact ⟨0 + 1, x, by omega, by go_num, rfl, by omega, st8⟩
                case measure => simp [intOf]; omega
          · have hkz : (0 : Nat) ≤ 0 := Nat.le_refl _
            go_wp2_with (fail)
            refine (below_any st4.1 hl 2 (by omega)).mono ?_
            rintro e w5 ⟨y1, ⟨hy0, hy1, -⟩, rfl, cur5, g5⟩
            have st5 := st4.step cur5 g5
            clear cur5 g5
            go_wp2_with (fail)
            refine (below_any st5.1 hl 3 (by omega)).mono ?_
            rintro e w6 ⟨y2, ⟨hz0, hz1, -⟩, rfl, cur6, g6⟩
            have st6 := st5.step cur6 g6
            clear cur6 g6
            obtain ⟨m1, hm1, hm2⟩ : ∃ m1 : Nat, y1 * y2 = (m1 : Int) ∧ m1 ≤ 2 := by
              rcases (by omega : y1 = 0 ∨ y1 = 1) with rfl | rfl
              · exact ⟨0, by simp, by omega⟩
              · exact ⟨y2.toNat, by omega, by omega⟩
            obtain ⟨m2, hm3, hm4⟩ : ∃ m2 : Nat, 1 + (m1 : Int) = (m2 : Int) ∧ m2 ≤ 3 := ⟨1 + m1, by omega, by omega⟩
            have hm1' : (m1 : Int) ≤ 2 := by omega
            clear hy1 hz1
            go_wp2_with (fail)
            try rw [hm1]
            try rw [hm3]
            refine (long_any m2 32 _ (by omega)).mono ?_
            rintro e w7 ⟨u, hu, rfl, hb7⟩
            have stB := st6.on hb7
            clear st4 st5 st6 hb7 hm1 hm3
            have hs0 : (t ++ u).length ≤ 10 * 0 + 3 := by simp; omega
            have hul : u.length ≤ 3 := by omega
            have htl : t.length ≤ 250 := by omega
            clear hu
            go_wp2_with (fail)
            try rw [cat_mk]
            have hs1 : (t ++ u).length ≤ 260 := by simp; omega
            generalize t ++ u = s0 at hs0 hs1 ⊢
            go_loopw [5, 7] (fun s j wr => ∃ (q : Nat) (x : List UInt8), q ≤ 5 ∧ j = .int .i64 (q : Int) ∧ s = .string ⟨x.toArray⟩ ∧ x.length ≤ 10 * 0 + 3 + q ∧ St w len wr) (fun _ j _ => 6 - (intOf j).toNat)
            case atStart => exact ⟨0, s0, Nat.zero_le _, rfl, rfl, hs0, stB⟩
            case round =>
              obtain ⟨q, x, hq, rfl, rfl, hx, sti⟩ := hrel
              have hxl : x.length ≤ 270 := by omega
              go_wp2_with (fail)
              refine (below_any sti.1 hl 5 (by omega)).mono ?_
              rintro e w8 ⟨y3, ⟨ha0, ha1, -⟩, rfl, cur8, g8⟩
              have st8 := sti.step cur8 g8
              clear cur8 g8 sti
              by_cases hqy : (q : Int) ≤ y3
              · have zq : decide ((q : Int) ≤ y3) = true := by simpa using hqy
                have hq4 : q ≤ 4 := by omega
                clear hqy ha1
                go_wp2_with (fail)
                refine (below_any st8.1 hl 94 (by omega)).mono ?_
                rintro e w9 ⟨z, ⟨hb0, hb1, -⟩, rfl, cur9, g9⟩
                have st9 := st8.step cur9 g9
                clear cur9 g9 st8
                obtain ⟨zz, rfl⟩ := Int.eq_ofNat_of_zero_le hb0
                have hzz : zz ≤ 93 := by omega
                have hcv := conv_one (33 + zz) (by omega)
                rw [show ((33 + zz : Nat) : Int) = 33 + (zz : Int) by omega] at hcv
                have hw1 : IntKind.u8.wrap (33 + (zz : Int)) = 33 + (zz : Int) := by rw [IntKind.wrap_u8']; omega
                have hzi : (zz : Int) ≤ 93 := by omega
                have hsz9 := st9.2.size
                clear hb1
                go_wp2_with (fail)
                go_roundw
                case rel => exact ⟨q + 1, _, by omega, by go_num, by rw [cat_mk], by simp; omega, st9.alloc _⟩
                case measure => simp [intOf]; omega
              · have zq : decide ((q : Int) ≤ y3) = false := by simpa using hqy
                clear hqy
                go_wp2_with (fail)
                go_roundw
                case rel => exact ⟨0 + 1, x, by omega, by go_num, rfl, by omega, st8⟩
                case measure => simp [intOf]; omega
        · have p0 : 0 < k := by omega
          have p1 : decide (0 < (k : Int)) = true := by simp; omega
          clear h0
          go_wp2_with (fail)
          refine (below_any st.1 hl 2 (by omega)).mono ?_
          rintro e w5 ⟨y1, ⟨hy0, hy1, -⟩, rfl, cur5, g5⟩
          have st5 := st.step cur5 g5
          clear cur5 g5
          go_wp2_with (fail)
          refine (below_any st5.1 hl 3 (by omega)).mono ?_
          rintro e w6 ⟨y2, ⟨hz0, hz1, -⟩, rfl, cur6, g6⟩
          have st6 := st5.step cur6 g6
          clear cur6 g6
          obtain ⟨m1, hm1, hm2⟩ : ∃ m1 : Nat, y1 * y2 = (m1 : Int) ∧ m1 ≤ 2 := by
            rcases (by omega : y1 = 0 ∨ y1 = 1) with rfl | rfl
            · exact ⟨0, by simp, by omega⟩
            · exact ⟨y2.toNat, by omega, by omega⟩
          obtain ⟨m2, hm3, hm4⟩ : ∃ m2 : Nat, 1 + (m1 : Int) = (m2 : Int) ∧ m2 ≤ 3 := ⟨1 + m1, by omega, by omega⟩
          have hm1' : (m1 : Int) ≤ 2 := by omega
          clear hy1 hz1
          go_wp2_with (fail)
          try rw [hm1]
          try rw [hm3]
          refine (long_any m2 32 _ (by omega)).mono ?_
          rintro e w7 ⟨u, hu, rfl, hb7⟩
          have stB := st6.on hb7
          clear st st5 st6 hb7 hm1 hm3
          have hs0 : (t ++ u).length ≤ 10 * k + 3 := by simp; omega
          have hul : u.length ≤ 3 := by omega
          have htl : t.length ≤ 250 := by omega
          clear hu
          go_wp2_with (fail)
          try rw [cat_mk]
          have hs1 : (t ++ u).length ≤ 260 := by simp; omega
          generalize t ++ u = s0 at hs0 hs1 ⊢
          go_loopw [5, 7] (fun s j wr => ∃ (q : Nat) (x : List UInt8), q ≤ 5 ∧ j = .int .i64 (q : Int) ∧ s = .string ⟨x.toArray⟩ ∧ x.length ≤ 10 * k + 3 + q ∧ St w len wr) (fun _ j _ => 6 - (intOf j).toNat)
          case atStart => exact ⟨0, s0, Nat.zero_le _, rfl, rfl, hs0, stB⟩
          case round =>
            obtain ⟨q, x, hq, rfl, rfl, hx, sti⟩ := hrel
            have hxl : x.length ≤ 270 := by omega
            go_wp2_with (fail)
            refine (below_any sti.1 hl 5 (by omega)).mono ?_
            rintro e w8 ⟨y3, ⟨ha0, ha1, -⟩, rfl, cur8, g8⟩
            have st8 := sti.step cur8 g8
            clear cur8 g8 sti
            by_cases hqy : (q : Int) ≤ y3
            · have zq : decide ((q : Int) ≤ y3) = true := by simpa using hqy
              have hq4 : q ≤ 4 := by omega
              clear hqy ha1
              go_wp2_with (fail)
              refine (below_any st8.1 hl 94 (by omega)).mono ?_
              rintro e w9 ⟨z, ⟨hb0, hb1, -⟩, rfl, cur9, g9⟩
              have st9 := st8.step cur9 g9
              clear cur9 g9 st8
              obtain ⟨zz, rfl⟩ := Int.eq_ofNat_of_zero_le hb0
              have hzz : zz ≤ 93 := by omega
              have hcv := conv_one (33 + zz) (by omega)
              rw [show ((33 + zz : Nat) : Int) = 33 + (zz : Int) by omega] at hcv
              have hw1 : IntKind.u8.wrap (33 + (zz : Int)) = 33 + (zz : Int) := by rw [IntKind.wrap_u8']; omega
              have hzi : (zz : Int) ≤ 93 := by omega
              have hsz9 := st9.2.size
              clear hb1
              go_wp2_with (fail)
              go_roundw
              case rel => exact ⟨q + 1, _, by omega, by go_num, by rw [cat_mk], by simp; omega, st9.alloc _⟩
              case measure => simp [intOf]; omega
            · have zq : decide ((q : Int) ≤ y3) = false := by simpa using hqy
              clear hqy
              go_wp2_with (fail)
              go_roundw
              case rel => exact ⟨k + 1, x, by omega, by go_num, rfl, by omega, st8⟩
              case measure => simp [intOf]; omega
      · have e : k = n := by omega
        subst e
        have htl : t.length ≤ 250 := by omega
        have hti : (t.length : Int) ≤ 250 := by omega
        have z1 : decide ((k : Int) < (k : Int)) = false := by simp
        go_wp2_with (fail)
        refine (below_any st.1 hl 12 (by omega)).mono ?_
        rintro e w5 ⟨y, ⟨hy0, hy1, -⟩, rfl, cur5, g5⟩
        have st5 := st.step cur5 g5
        clear cur5 g5 st
        by_cases c0 : y = 0
        · subst c0
          have hlt := st5.1.lt
          go_wp2_with (fail)
          have st6 := st5.alloc (.cells (odds6.map strV).toArray 9)
          refine (pick_any st6.1 hl w5.heap.size 6 6 (by omega) (by omega) (by omega) (odds6_cell w5 9)).mono ?_
          rintro e w6 ⟨u, hu, rfl, cur7, g7⟩
          have st7 := st6.step cur7 g7
          clear cur7 g7
          go_wp2_with (fail)
          go_ret
          exact ⟨t ++ u, by simp; omega, by rw [cat_mk]; rfl, st7.2⟩
        · have z0 : (y == 0) = false := by simpa using c0
          by_cases c1 : y = 1
          · subst c1
            have z2 : decide ((t.length : Int) < 600) = true := by simp; omega
            go_wp2_with (fail)
            refine (below_any st5.1 hl 2 (by omega)).mono ?_
            rintro e w6 ⟨y2, ⟨hz0, hz1, -⟩, rfl, cur6, g6⟩
            have st6 := st5.step cur6 g6
            clear cur6 g6
            obtain ⟨m2, hm3, hm4⟩ : ∃ m2 : Nat, 600 - (t.length : Int) + y2 = (m2 : Int) ∧ m2 ≤ 601 := ⟨(600 - (t.length : Int) + y2).toNat, by omega, by omega⟩
            have hy2 : y2 ≤ 1 := by omega
            clear hz1
            go_wp2_with (fail)
            try rw [hm3]
            refine (long_any m2 32 _ (by omega)).mono ?_
            rintro e w7 ⟨u, hu, rfl, hb7⟩
            have stB := st6.on hb7
            have hul : u.length ≤ 601 := by omega
            clear hm3 hu
            go_wp2_with (fail)
            go_ret
            exact ⟨t ++ u, by simp; omega, by rw [cat_mk]; rfl, stB.2⟩
          · have z2 : (y == 1) = false := by simpa using c1
            go_wp2_with (fail)
            go_ret
            exact ⟨t, by omega, rfl, st5.2⟩
end Go.Proofs.YtlagjhgfjaopjaaDoor
