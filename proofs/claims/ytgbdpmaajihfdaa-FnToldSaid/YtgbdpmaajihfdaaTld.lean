/-
  FnTold: packets made from acknowledged numbers bring everything across. No condition.
-/
import Derived.Test.YtgbdpmaajihfdaaTldP
import Derived.Test.YtgbdpmaajihfdaaTkC
import Derived.Test.YtgbdpmaajihfdaaMpC
import Derived.Test.YtgbdpmaajihfdaaTrL
import Derived.Test.YtgbdpmaajihfdaaCode
import Derived.Test.YtgbdpmaajihfdaaReg
import Derived.Deep.RegionHeld3
namespace Go.Proofs.Ytgbdpmaajihfdaa
open Go.RowKit
set_option linter.all false
theorem few_of {X : Rowi} (hT : Trs X) (h4 : X.length ≤ 4) : Few X := ⟨by omega, fun x hx => by have := (hT x hx).2; omega⟩
theorem nones_next (k : Nat) : nones k ++ [[]] = nones (k + 1) := by unfold nones; rw [List.replicate_succ']
def thereX (X : Rowi) (m j : Nat) : Rowi := if j = 0 then nones X.length else (nones X.length).set m (X.getD m [])
theorem there_len (X : Rowi) (m j : Nat) : (thereX X m j).length = X.length := by unfold thereX; split <;> simp [nones]
theorem there_few {X : Rowi} (hT : Trs X) (h4 : X.length ≤ 4) {m : Nat} (hm : m < X.length) (j : Nat) : Few (thereX X m j) := by
  refine ⟨by rw [there_len]; omega, fun y hy => ?_⟩
  unfold thereX at hy
  split at hy
  · rw [(List.mem_replicate.1 hy).2]; exact Nat.zero_le _
  · rcases List.mem_or_eq_of_mem_set hy with h | h
    · rw [(List.mem_replicate.1 h).2]; exact Nat.zero_le _
    · rw [h]; have := (told_row hT hm).2; omega
theorem there_at {X : Rowi} {m : Nat} (hm : m < X.length) (j : Nat) (h : m < (thereX X m j).length) : (thereX X m j)[m] = if j = 0 then [] else X[m] := by
  unfold thereX at *
  by_cases e : j = 0
  · simp only [if_pos e]; simp [nones]
  · simp only [if_neg e]; rw [List.getElem_set_self]; exact told_get hm
set_option maxRecDepth 100000 in
set_option maxHeartbeats 8000000 in
theorem lawTold (a : Option Addr) (len cap : Nat) (zs : List Int) (w : World) (hr : IsRow .u8 w a len cap zs) :
    Calls Try.prog 3 #[.slice a len cap] w fun e w' => e = .returned (.bool true) ∧ Below w.heap.size w w' := by
  obtain ⟨hrd, hl⟩ := RdC.of_row hr
  clear hr
  by_cases h : 1048576 < (len : Int)
  · have b1 : decide (1048576 < (len : Int)) = true := by simpa using h
    go_enter Try.func3, Try.ntmps3
    go_wp2_with (go_at_call 4; refine (big_any hrd hl).mono ?_; rintro e w' ⟨rfl, rfl⟩)
    go_ret
    exact ⟨rfl, Below.refl _ _⟩
  have b1 : decide (1048576 < (len : Int)) = false := by simpa using h
  go_enter Try.func3, Try.ntmps3
  go_wp2_with (go_at_call 4; refine (big_any hrd hl).mono ?_; rintro e w' ⟨rfl, rfl⟩)
  refine (drawTracks_any hrd (by omega)).mono ?_
  rintro e w1 ⟨v, X, rfl, hown, hcr, hT, h1, h4, ht, hb1⟩
  have hn := few_of hT h4
  obtain ⟨aL, cL, e0, -⟩ := id hown.rd
  subst e0
  have h1i : (1 : Int) ≤ (X.length : Int) := by omega
  have h4i : (X.length : Int) ≤ 4 := by omega
  have zn : ((X.length : Int) == 0) = false := beq_eq_false_iff_ne.2 (by omega)
  go_wp2_with (fail)
  refine (at_any (hrd.keep hb1) hl 0 (by omega) (by omega)).mono ?_
  rintro e w' ⟨y0, hy0, rfl, rfl⟩
  obtain ⟨m, hm0⟩ : ∃ m, m = y0 % X.length := ⟨_, rfl⟩
  have hm : m < X.length := by rw [hm0]; exact Nat.mod_lt _ (by omega)
  have e1 : (y0 : Int) % (X.length : Int) = (m : Int) := by rw [hm0]; exact (Int.natCast_emod y0 X.length).symm
  have e2 : (y0 : Int).tmod (X.length : Int) = (m : Int) := by rw [hm0]; rfl
  clear hm0 hy0
  go_upto_region 6 with (fail)
  obtain ⟨w2, hw2, o2, k2, hb2⟩ : ∃ W, w1.alloc (.cells #[] 29) = W ∧ OwnTT W w1.heap.size W.heap.size (.slice (some ⟨w1.heap.size, 0, none⟩) 0 0) (nones 0) ∧ CapR W (.slice (some ⟨w1.heap.size, 0, none⟩) 0 0) (nones 0) ∧ Below w1.heap.size w1 W := ⟨_, rfl, OwnTT.made w1 w1.heap.size #[] (Nat.le_refl _) (by unfold maxLen; simp), .inl rfl, below1 w1 _⟩
  rw [hw2]
  clear hw2
  go_wp2_with (fail)
  go_loopw [5, 6] (fun c i wr => ∃ k : Nat, k ≤ X.length ∧ i = .int .i64 (k : Int) ∧ OwnTT wr w1.heap.size wr.heap.size c (nones k) ∧ CapR wr c (nones k) ∧ Below w1.heap.size w1 wr) (fun _ i _ => X.length - (intOf i).toNat)
  case atStart => exact ⟨0, Nat.zero_le _, rfl, o2, k2, hb2⟩
  case round =>
    clear o2 k2 hb2
    obtain ⟨k, hk, rfl, ho, hc, hbr⟩ := hrel
    by_cases hkl : k < X.length
    · have hki : (k : Int) < (X.length : Int) := by omega
      have hrd1 := ho.rd
      obtain ⟨ac, cc, e0, -⟩ := id hrd1
      subst e0
      have hz : OwnI wr wr.heap.size (.slice none 0 0) [] := ⟨none, 0, rfl, .inl rfl⟩
      have hnl : (nones k).length + 1 ≤ 1000000000 := by simp [nones]; omega
      clear hrd1
      go_wp2_with (at_builtin; refine app_trackC rfl _ _ rfl w1.heap.size wr.heap.size _ (nones k) rfl ho (.slice none 0 0) [] hz rfl hnl ?_; intro v' w4 ho4 hb4 hcc)
      go_roundw
      case rel => exact ⟨k + 1, by omega, by go_num, by rw [← nones_next]; exact ho4, by rw [← nones_next]; exact hcc hc ⟨none, 0, 0, rfl, Nat.le_refl _⟩, hbr.trans hb4⟩
      case measure => simp [intOf]; omega
    · have hki : ¬ (k : Int) < (X.length : Int) := by omega
      have hkx : k = X.length := by omega
      subst hkx
      have hz0 : Hid (thereX X m 0 = nones X.length) := Lib.hid (if_pos rfl)
      rw [← hz0.out] at ho hc
      obtain ⟨bL, oL, cL', aL', cLx, e0, crL0, hlcL, rxL0⟩ := row_cap hown.rd hcr hm
      obtain ⟨rfl, -, rfl⟩ := Value.slice.inj e0
      clear e0
      have HG := Lib.hid (told_get hm)
      have hxr := told_row hT hm
      rw [HG.out] at hxr
      have hmp := fun {W : World} (h1' : RdR W (.slice (some ⟨bL, oL, none⟩) X.length cL) X) (h2' : CapR W (.slice (some ⟨bL, oL, none⟩) X.length cL) X) => makePacket_cap h1' h2' hn (m : Int) 0
      unfold RetMpC at hmp
      rw [(told_mp hT ht hm).1, (told_mp hT ht hm).2] at hmp
      have htk1 := fun {W : World} {v vi va : Value} (h1' : RdR W v (thereX X m 0)) (h2' : CapR W v (thereX X m 0)) (h3' : RdP W (toldP X m) vi va) (h4' : CapI vi) => takePacket_cap h1' h2' (there_few hT h4 hm 0) (fr := (m : Int)) (tick := 0) (first := 0) (ins := X.getD m []) (acks := lens X) (sumTick := 0) (sum := 0) (time := 0) (echo := 0) h3' h4' ⟨by show (X.getD m []).length ≤ 1048576; rw [HG.out]; omega, by show (lens X).length ≤ 1048576; simp [lens]; omega⟩
      have htk2 := fun {W : World} {v vi va : Value} (h1' : RdR W v (thereX X m 1)) (h2' : CapR W v (thereX X m 1)) (h3' : RdP W (toldP X m) vi va) (h4' : CapI vi) => takePacket_cap h1' h2' (there_few hT h4 hm 1) (fr := (m : Int)) (tick := 0) (first := 0) (ins := X.getD m []) (acks := lens X) (sumTick := 0) (sum := 0) (time := 0) (echo := 0) h3' h4' ⟨by show (X.getD m []).length ≤ 1048576; rw [HG.out]; omega, by show (lens X).length ≤ 1048576; simp [lens]; omega⟩
      unfold RetTkC at htk1 htk2
      have hb1' : tkB (thereX X m 0) ⟨(m : Int), 0, 0, X.getD m [], lens X, 0, 0, 0, 0⟩ = true := by rw [hz0.out]; exact (told_first hT h1 h4 ht hm).1
      have hb2' : tkT (thereX X m 0) ⟨(m : Int), 0, 0, X.getD m [], lens X, 0, 0, 0, 0⟩ = thereX X m 1 := by rw [hz0.out]; exact (told_first hT h1 h4 ht hm).2
      have hb3' : tkB (thereX X m 1) ⟨(m : Int), 0, 0, X.getD m [], lens X, 0, 0, 0, 0⟩ = true := told_second hT h1 h4 ht hm
      rw [hb1', hb2'] at htk1
      rw [hb3'] at htk2
      unfold toldP at hmp htk1 htk2
      unfold pkC at hmp htk1 htk2
      dsimp only at hmp htk1 htk2
      clear hb1' hb2' hb3'
      obtain ⟨v0, hv0⟩ : ∃ W, W = wr := ⟨_, rfl⟩
      subst hv0
      have hmi : (m : Int) < (X.length : Int) := by omega
      go_wp2_with (fail)
      go_loopw [5, 7] (fun th i wr => ∃ j : Nat, j ≤ 1 ∧ (j = 1 → 0 < X[m].length) ∧ i = .int .i64 (j : Int) ∧ OwnTT wr w1.heap.size wr.heap.size th (thereX X m j) ∧ CapR wr th (thereX X m j) ∧ Below w1.heap.size w1 wr) (fun _ i _ => 2 - (intOf i).toNat)
      case atStart => exact ⟨0, by omega, fun h => (by cases h), rfl, ho, hc, hbr⟩
      case round =>
        clear ho hc hbr
        obtain ⟨j, hj, hpos, rfl, ho, hc, hbr⟩ := hrel
        have hle := there_len X m j
        have hmt : m < (thereX X m j).length := by omega
        obtain ⟨bT, oT, cT, aT, cTx, e0, crT, hlcT, rxT⟩ := row_cap ho.rd hc hmt
        subst e0
        have crL : wr.cell? ⟨bL, oL + m, none⟩ = some (.slice aL' X[m].length cLx) := (hbr.cell (World.block_lt_of_cell? w1 _ crL0)).trans crL0
        have rxL := rxL0.keep hbr
        have bwr := hb1.trans (hbr.mono hb1.size)
        have HAT := Lib.hid (there_at hm j hmt)
        generalize (thereX X m j)[m] = y at *
        rw [hle]
        have zj : decide ((j : Int) < 12) = true := decide_eq_true (by omega)
        obtain ⟨LY, hLY⟩ : ∃ n, n = y.length := ⟨_, rfl⟩
        have HLY := Lib.hid hLY
        rw [← hLY] at crT hlcT
        obtain ⟨LX, hLX⟩ : ∃ n, n = X[m].length := ⟨_, rfl⟩
        have HLX := Lib.hid hLX
        rw [← hLX] at crL hlcL
        have hLX35 : LX ≤ 35 := by omega
        have HLE := Lib.hid hle
        clear hLY hLX hle
        by_cases hj0 : j = 0
        · obtain rfl : j = 0 := by omega
          have hy0 : y = [] := HAT.out
          have hLY0 : LY = 0 := by rw [HLY.out, hy0]; rfl
          by_cases hx0 : 0 < LX
          · have zc : decide ((LY : Int) < (LX : Int)) = true := decide_eq_true (by omega)
            have hLYb : LY ≤ 35 := by omega
            have zcN : decide (LY < LX) = true := decide_eq_true (by omega)
            skip
            go_upto_region 11 with (fail)
            have bs_0 : Below wr.heap.size wr wr.drew := belowDrew wr 1
            refine wp_region_held_drew (S := (fun w' => w'.cell? ⟨bT, oT + m, none⟩ = some (.slice aT LY cTx) ∧ w'.cell? ⟨bL, oL + m, none⟩ = some (.slice aL' LX cLx))) (by kernel_rfl) ?_ (fun hHeld => ?_)
            · exact ⟨(bs_0.cell (World.block_lt_of_cell? wr _ crT)).trans crT, (bs_0.cell (World.block_lt_of_cell? wr _ crL)).trans crL⟩
            refine take_on (i := 0) (v := ?_) (some 34) rfl (by kernel_rfl) (by kernel_rfl) (by kernel_rfl) rfl (fun _ _ _ h => h) (by rfl) ?_ (by assumption) ?_
            rotate_left
            · intro w hSw; (try dsimp only at hSw); go_simp; (try with_reducible rfl)
            (try simp only [Act.put, List.setIfInBounds_toArray, List.set_cons_zero, List.set_cons_succ])
            refine take_on (i := 1) (v := ?_) (some 35) rfl (by kernel_rfl) (by kernel_rfl) (by kernel_rfl) rfl (fun _ _ _ h => h) (by rfl) ?_ (by assumption) ?_
            rotate_left
            · intro w hSw; (try dsimp only at hSw); go_simp; (try with_reducible rfl)
            (try simp only [Act.put, List.setIfInBounds_toArray, List.set_cons_zero, List.set_cons_succ])
            refine take_on (i := 2) (v := ?_) (some 36) rfl (by kernel_rfl) (by kernel_rfl) (by kernel_rfl) rfl (fun _ _ _ h => h) (by rfl) ?_ (by assumption) ?_
            rotate_left
            · intro w hSw; (try dsimp only at hSw); go_simp; (try with_reducible rfl)
            (try simp only [Act.put, List.setIfInBounds_toArray, List.set_cons_zero, List.set_cons_succ])
            refine take_on (i := 3) (v := ?_) (some 37) rfl (by kernel_rfl) (by kernel_rfl) (by kernel_rfl) rfl (fun _ _ _ h => h) (wanted_on (k := 2) (d := 36) (b := true) rfl rfl rfl) ?_ (by assumption) ?_
            rotate_left
            · intro w hSw; (try dsimp only at hSw); go_simp; (try with_reducible rfl)
            (try simp only [Act.put, List.setIfInBounds_toArray, List.set_cons_zero, List.set_cons_succ])
            refine take_on (i := 4) (v := ?_) (some 38) rfl (by kernel_rfl) (by kernel_rfl) (by kernel_rfl) rfl (fun _ _ _ h => h) (wanted_on (k := 2) (d := 36) (b := true) rfl rfl rfl) ?_ (by assumption) ?_
            rotate_left
            · intro w hSw; (try dsimp only at hSw); go_simp; (try with_reducible rfl)
            (try simp only [Act.put, List.setIfInBounds_toArray, List.set_cons_zero, List.set_cons_succ])
            refine take_on (i := 5) (v := ?_) (some 39) rfl (by kernel_rfl) (by kernel_rfl) (by kernel_rfl) rfl (fun _ _ _ h => h) (wanted_on (k := 2) (d := 36) (b := true) rfl rfl rfl) ?_ (by assumption) ?_
            rotate_left
            · intro w hSw; (try dsimp only at hSw); go_simp; (try with_reducible rfl)
            (try simp only [Act.put, List.setIfInBounds_toArray, List.set_cons_zero, List.set_cons_succ])
            refine take_on (i := 6) (v := ?_) (some 40) rfl (by kernel_rfl) (by kernel_rfl) (by kernel_rfl) rfl (fun _ _ _ h => h) (wanted_on (k := 2) (d := 36) (b := true) rfl rfl rfl) ?_ (by assumption) ?_
            rotate_left
            · intro w hSw; (try dsimp only at hSw); go_simp; (try with_reducible rfl)
            (try simp only [Act.put, List.setIfInBounds_toArray, List.set_cons_zero, List.set_cons_succ])
            refine take_on (i := 7) (v := ?_) (some 41) rfl (by kernel_rfl) (by kernel_rfl) (by kernel_rfl) rfl (fun _ _ _ h => h) (wanted_on (k := 2) (d := 36) (b := true) rfl rfl rfl) ?_ (by assumption) ?_
            rotate_left
            · intro w hSw; (try dsimp only at hSw); go_simp; (try with_reducible rfl)
            (try simp only [Act.put, List.setIfInBounds_toArray, List.set_cons_zero, List.set_cons_succ])
            refine take_on (i := 8) (v := ?_) (some 42) rfl (by kernel_rfl) (by kernel_rfl) (by kernel_rfl) rfl (fun _ _ _ h => h) (wanted_on (k := 2) (d := 36) (b := true) rfl rfl rfl) ?_ (by assumption) ?_
            rotate_left
            · intro w hSw; (try dsimp only at hSw); go_simp; (try with_reducible rfl)
            (try simp only [Act.put, List.setIfInBounds_toArray, List.set_cons_zero, List.set_cons_succ])
            refine take_on (i := 9) (v := ?_) (some 43) rfl (by kernel_rfl) (by kernel_rfl) (by kernel_rfl) rfl (fun _ _ _ h => h) (wanted_on (k := 2) (d := 36) (b := true) rfl rfl rfl) ?_ (by assumption) ?_
            rotate_left
            · intro w hSw; (try dsimp only at hSw); go_simp; (try with_reducible rfl)
            (try simp only [Act.put, List.setIfInBounds_toArray, List.set_cons_zero, List.set_cons_succ])
            refine take_on (i := 10) (v := ?_) (some 44) rfl (by kernel_rfl) (by kernel_rfl) (by kernel_rfl) rfl (fun _ _ _ h => h) (wanted_on (k := 2) (d := 36) (b := true) rfl rfl rfl) ?_ (by assumption) ?_
            rotate_left
            · intro w hSw; (try dsimp only at hSw); go_simp; (try with_reducible rfl)
            (try simp only [Act.put, List.setIfInBounds_toArray, List.set_cons_zero, List.set_cons_succ])
            refine take_on (i := 11) (v := ?_) (some 45) rfl (by kernel_rfl) (by kernel_rfl) (by kernel_rfl) rfl (fun _ _ _ h => h) (wanted_on (k := 2) (d := 36) (b := true) rfl rfl rfl) ?_ (by assumption) ?_
            rotate_left
            · intro w hSw; (try dsimp only at hSw); go_simp; (try with_reducible rfl)
            (try simp only [Act.put, List.setIfInBounds_toArray, List.set_cons_zero, List.set_cons_succ])
            refine take_on (i := 12) (v := ?_) (some 46) rfl (by kernel_rfl) (by kernel_rfl) (by kernel_rfl) rfl (fun _ _ _ h => h) (wanted_on (k := 2) (d := 36) (b := true) rfl rfl rfl) ?_ (by assumption) ?_
            rotate_left
            · intro w hSw; (try dsimp only at hSw); go_simp; (try with_reducible rfl)
            (try simp only [Act.put, List.setIfInBounds_toArray, List.set_cons_zero, List.set_cons_succ])
            refine take_on (i := 13) (v := ?_) (some 47) rfl (by kernel_rfl) (by kernel_rfl) (by kernel_rfl) rfl (fun _ _ _ h => h) (wanted_on (k := 2) (d := 36) (b := true) rfl rfl rfl) ?_ (by assumption) ?_
            rotate_left
            · intro w hSw; (try dsimp only at hSw); go_simp; (try with_reducible rfl)
            (try simp only [Act.put, List.setIfInBounds_toArray, List.set_cons_zero, List.set_cons_succ])
            refine take_on (i := 14) (v := ?_) (some 48) rfl (by kernel_rfl) (by kernel_rfl) (by kernel_rfl) rfl (fun _ _ _ h => h) (wanted_on (k := 2) (d := 36) (b := true) rfl rfl rfl) ?_ (by assumption) ?_
            rotate_left
            · intro w hSw; (try dsimp only at hSw); go_simp; (try with_reducible rfl)
            (try simp only [Act.put, List.setIfInBounds_toArray, List.set_cons_zero, List.set_cons_succ])
            refine take_on (i := 15) (v := ?_) (some 49) rfl (by kernel_rfl) (by kernel_rfl) (by kernel_rfl) rfl (fun _ _ _ h => h) (wanted_on (k := 2) (d := 36) (b := true) rfl rfl rfl) ?_ (by assumption) ?_
            rotate_left
            · intro w hSw; (try dsimp only at hSw); go_simp; (try with_reducible rfl)
            (try simp only [Act.put, List.setIfInBounds_toArray, List.set_cons_zero, List.set_cons_succ])
            refine take_on (i := 16) (v := ?_) (some 50) rfl (by kernel_rfl) (by kernel_rfl) (by kernel_rfl) rfl (fun _ _ _ h => h) (by rfl) ?_ (by assumption) ?_
            rotate_left
            · intro w hSw; (try dsimp only at hSw); go_simp; (try with_reducible rfl)
            (try simp only [Act.put, List.setIfInBounds_toArray, List.set_cons_zero, List.set_cons_succ])
            refine wpAnyH_done (by kernel_rfl) ?_ _
            have b11 : Below wr.heap.size wr wr.drew := belowDrew wr 1
            obtain ⟨w3, hw3⟩ : ∃ W, W = wr.drew := ⟨_, rfl⟩
            rw [← hw3] at b11 ⊢
            have b3 := hbr.trans (b11.mono hbr.size)
            have crT := (b11.cell (World.block_lt_of_cell? wr _ crT)).trans crT
            have crL := (b11.cell (World.block_lt_of_cell? wr _ crL)).trans crL
            have ho3 := ho.keep b11
            have hc3 := hc.keep b11
            clear bs_0 hw3
            subst hLY0
            have hmp3 := hmp (hown.rd.keep b3) (hcr.keep b3)
            go_wp2_with (fail)
            refine hmp3.mono ?_
            rintro e w4 ⟨vi, va, rfl, op, hci, hb4⟩
            have hrp := op.rd
            obtain ⟨ai, ci, e0, -⟩ := id hrp.1
            have e0 : vi = .slice ai (X.getD m []).length ci := e0
            obtain ⟨aa, ca, e1', -⟩ := id hrp.2
            have e1' : va = .slice aa (lens X).length ca := e1'
            subst e0 e1'
            have HGL : Hid ((X.getD m []).length = LX) := Lib.hid (by rw [HG.out, HLX.out])
            rw [HGL.out] at hci hrp ⊢
            have b4 := b3.trans (hb4.mono b3.size)
            have crT := (hb4.cell (World.block_lt_of_cell? w3 _ crT)).trans crT
            have ho4 := ho3.keep hb4
            have hc4 := hc3.keep hb4
            clear hmp3 op hb4 b11
            go_upto_region 14 with (fail)
            obtain ⟨w5, hw5, Q5, hb5⟩ : ∃ W, w4.alloc (.cells #[Value.int .i64 (m : Int), .int .i64 0, .int .i64 0, .slice ai LX ci, .slice aa (lens X).length ca, .int .i64 0, .int .i64 0, .int .i64 0, .int .i64 0] 31) = W ∧ W.heap[w4.heap.size]? = some (.cells #[Value.int .i64 (m : Int), .int .i64 0, .int .i64 0, .slice ai LX ci, .slice aa (lens X).length ca, .int .i64 0, .int .i64 0, .int .i64 0, .int .i64 0] 31 (0, 0)) ∧ Below w4.heap.size w4 W := ⟨_, rfl, heap_alloc_new w4 _, below1 w4 _⟩
            rw [hw5]
            clear hw5
            obtain ⟨q, hq⟩ : ∃ q, q = w4.heap.size := ⟨_, rfl⟩
            rw [← hq] at Q5 ⊢
            clear hq
            have b5 := b4.trans (hb5.mono b4.size)
            have crT := (hb5.cell (World.block_lt_of_cell? w4 _ crT)).trans crT
            have ho5 := ho4.keep hb5
            have hc5 := hc4.keep hb5
            have hrp5 : RdP w5 (toldP X m) (.slice ai LX ci) (.slice aa (lens X).length ca) := ⟨hrp.1.keep hb5, hrp.2.keep hb5⟩
            have ht5 := htk1 ho5.rd hc5 hrp5 hci
            rw [HLE.out] at ht5
            have cQ := rowCells Q5
            clear hb5 ho4 hc4 hrp
            go_wp2_with (fail)
            refine ht5.mono ?_
            rintro e w6 ⟨vn, rfl, on, kn, hb6⟩
            have b6 := b5.trans (hb6.mono b5.size)
            have crT := (hb6.cell (World.block_lt_of_cell? w5 _ crT)).trans crT
            have Q6 := keepHeap hb6 Q5
            have hrp6 : RdP w6 (toldP X m) (.slice ai LX ci) (.slice aa (lens X).length ca) := ⟨hrp5.1.keep hb6, hrp5.2.keep hb6⟩
            have hle1 := there_len X m 1
            have hm1 : m < (thereX X m 1).length := by omega
            obtain ⟨bN, oN, cN, aN, cNx, e0, crN, hlcN, -⟩ := row_cap on.rd kn hm1
            subst e0
            have HN1 := Lib.hid (there_at hm 1 hm1)
            rw [HN1.out] at crN
            rw [if_neg (by decide), ← HLX.out] at crN
            rw [hle1]
            clear cQ ht5 ho5 hc5 hrp5 Q5 hlcN
            have zq1 : decide ((40 : Int) < (LX : Int)) = false := decide_eq_false (by omega)
            have zq2 : decide ((LX : Int) ≤ 0) = false := decide_eq_false (by omega)
            have zq3 : decide ((LX : Int) ≤ ((0 : Nat) : Int)) = false := decide_eq_false (by omega)
            go_upto_region 15 with (fail)
            have bs_0 : Below w6.heap.size w6 w6.drew := belowDrew w6 1
            refine wp_region_held_drew (S := (fun w' => (∀ j, w'.cell? ⟨q, j, none⟩ = #[Value.int .i64 (m : Int), .int .i64 0, .int .i64 0, .slice ai LX ci, .slice aa (lens X).length ca, .int .i64 0, .int .i64 0, .int .i64 0, .int .i64 0][j]?) ∧ w'.cell? ⟨bT, oT + m, none⟩ = some (.slice aT 0 cTx) ∧ w'.cell? ⟨bN, oN + m, none⟩ = some (.slice aN LX cNx))) (by kernel_rfl) ?_ (fun hHeld => ?_)
            · exact ⟨rowCells (keepHeap bs_0 Q6), (bs_0.cell (World.block_lt_of_cell? w6 _ crT)).trans crT, (bs_0.cell (World.block_lt_of_cell? w6 _ crN)).trans crN⟩
            refine take_on (i := 0) (v := ?_) (some 71) rfl (by kernel_rfl) (by kernel_rfl) (by kernel_rfl) rfl (fun _ _ _ h => h) (by rfl) ?_ (by assumption) ?_
            rotate_left
            · intro w hSw; (try dsimp only at hSw); go_simp; (try with_reducible rfl)
            (try simp only [Act.put, List.setIfInBounds_toArray, List.set_cons_zero, List.set_cons_succ])
            refine take_on (i := 1) (v := ?_) (some 72) rfl (by kernel_rfl) (by kernel_rfl) (by kernel_rfl) rfl (fun _ _ _ h => h) (by rfl) ?_ (by assumption) ?_
            rotate_left
            · intro w hSw; (try dsimp only at hSw); go_simp; (try with_reducible rfl)
            (try simp only [Act.put, List.setIfInBounds_toArray, List.set_cons_zero, List.set_cons_succ])
            refine take_on (i := 2) (v := ?_) (some 73) rfl (by kernel_rfl) (by kernel_rfl) (by kernel_rfl) rfl (fun _ _ _ h => h) (by rfl) ?_ (by assumption) ?_
            rotate_left
            · intro w hSw; (try dsimp only at hSw); go_simp; (try with_reducible rfl)
            (try simp only [Act.put, List.setIfInBounds_toArray, List.set_cons_zero, List.set_cons_succ])
            refine take_on (i := 3) (v := ?_) (some 74) rfl (by kernel_rfl) (by kernel_rfl) (by kernel_rfl) rfl (fun _ _ _ h => h) (wanted_on (k := 2) (d := 73) (b := false) rfl rfl rfl) ?_ (by assumption) ?_
            rotate_left
            · intro w hSw; (try dsimp only at hSw); go_simp; (try with_reducible rfl)
            (try simp only [Act.put, List.setIfInBounds_toArray, List.set_cons_zero, List.set_cons_succ])
            refine take_on (i := 4) (v := ?_) (some 75) rfl (by kernel_rfl) (by kernel_rfl) (by kernel_rfl) rfl (fun _ _ _ h => h) (wanted_on (k := 2) (d := 73) (b := false) rfl rfl rfl) ?_ (by assumption) ?_
            rotate_left
            · intro w hSw; (try dsimp only at hSw); go_simp; (try with_reducible rfl)
            (try simp only [Act.put, List.setIfInBounds_toArray, List.set_cons_zero, List.set_cons_succ])
            refine take_on (i := 5) (v := ?_) (some 76) rfl (by kernel_rfl) (by kernel_rfl) (by kernel_rfl) rfl (fun _ _ _ h => h) (by rfl) ?_ (by assumption) ?_
            rotate_left
            · intro w hSw; (try dsimp only at hSw); go_simp; (try with_reducible rfl)
            (try simp only [Act.put, List.setIfInBounds_toArray, List.set_cons_zero, List.set_cons_succ])
            refine take_on (i := 6) (v := ?_) (some 77) rfl (by kernel_rfl) (by kernel_rfl) (by kernel_rfl) rfl (fun _ _ _ h => h) (by rfl) ?_ (by assumption) ?_
            rotate_left
            · intro w hSw; (try dsimp only at hSw); go_simp; (try with_reducible rfl)
            (try simp only [Act.put, List.setIfInBounds_toArray, List.set_cons_zero, List.set_cons_succ])
            refine take_on (i := 7) (v := ?_) (some 78) rfl (by kernel_rfl) (by kernel_rfl) (by kernel_rfl) rfl (fun _ _ _ h => h) (wanted_on (k := 6) (d := 77) (b := false) rfl rfl rfl) ?_ (by assumption) ?_
            rotate_left
            · intro w hSw; (try dsimp only at hSw); go_simp; (try with_reducible rfl)
            (try simp only [Act.put, List.setIfInBounds_toArray, List.set_cons_zero, List.set_cons_succ])
            refine take_on (i := 8) (v := ?_) (some 79) rfl (by kernel_rfl) (by kernel_rfl) (by kernel_rfl) rfl (fun _ _ _ h => h) (wanted_on (k := 6) (d := 77) (b := false) rfl rfl rfl) ?_ (by assumption) ?_
            rotate_left
            · intro w hSw; (try dsimp only at hSw); go_simp; (try with_reducible rfl)
            (try simp only [Act.put, List.setIfInBounds_toArray, List.set_cons_zero, List.set_cons_succ])
            refine take_on (i := 9) (v := ?_) (some 80) rfl (by kernel_rfl) (by kernel_rfl) (by kernel_rfl) rfl (fun _ _ _ h => h) (wanted_on (k := 6) (d := 77) (b := false) rfl rfl rfl) ?_ (by assumption) ?_
            rotate_left
            · intro w hSw; (try dsimp only at hSw); go_simp; (try with_reducible rfl)
            (try simp only [Act.put, List.setIfInBounds_toArray, List.set_cons_zero, List.set_cons_succ])
            refine take_on (i := 10) (v := ?_) (some 81) rfl (by kernel_rfl) (by kernel_rfl) (by kernel_rfl) rfl (fun _ _ _ h => h) (wanted_on (k := 6) (d := 77) (b := false) rfl rfl rfl) ?_ (by assumption) ?_
            rotate_left
            · intro w hSw; (try dsimp only at hSw); go_simp; (try with_reducible rfl)
            (try simp only [Act.put, List.setIfInBounds_toArray, List.set_cons_zero, List.set_cons_succ])
            refine take_on (i := 11) (v := ?_) (some 82) rfl (by kernel_rfl) (by kernel_rfl) (by kernel_rfl) rfl (fun _ _ _ h => h) (by rfl) ?_ (by assumption) ?_
            rotate_left
            · intro w hSw; (try dsimp only at hSw); go_simp; (try with_reducible rfl)
            (try simp only [Act.put, List.setIfInBounds_toArray, List.set_cons_zero, List.set_cons_succ])
            refine take_on (i := 12) (v := ?_) (some 83) rfl (by kernel_rfl) (by kernel_rfl) (by kernel_rfl) rfl (fun _ _ _ h => h) (by rfl) ?_ (by assumption) ?_
            rotate_left
            · intro w hSw; (try dsimp only at hSw); go_simp; (try with_reducible rfl)
            (try simp only [Act.put, List.setIfInBounds_toArray, List.set_cons_zero, List.set_cons_succ])
            refine take_on (i := 13) (v := ?_) (some 84) rfl (by kernel_rfl) (by kernel_rfl) (by kernel_rfl) rfl (fun _ _ _ h => h) (wanted_on (k := 12) (d := 83) (b := false) rfl rfl rfl) ?_ (by assumption) ?_
            rotate_left
            · intro w hSw; (try dsimp only at hSw); go_simp; (try with_reducible rfl)
            (try simp only [Act.put, List.setIfInBounds_toArray, List.set_cons_zero, List.set_cons_succ])
            refine take_on (i := 14) (v := ?_) (some 85) rfl (by kernel_rfl) (by kernel_rfl) (by kernel_rfl) rfl (fun _ _ _ h => h) (wanted_on (k := 12) (d := 83) (b := false) rfl rfl rfl) ?_ (by assumption) ?_
            rotate_left
            · intro w hSw; (try dsimp only at hSw); go_simp; (try with_reducible rfl)
            (try simp only [Act.put, List.setIfInBounds_toArray, List.set_cons_zero, List.set_cons_succ])
            refine take_on (i := 15) (v := ?_) (some 86) rfl (by kernel_rfl) (by kernel_rfl) (by kernel_rfl) rfl (fun _ _ _ h => h) (wanted_on (k := 12) (d := 83) (b := false) rfl rfl rfl) ?_ (by assumption) ?_
            rotate_left
            · intro w hSw; (try dsimp only at hSw); go_simp; (try with_reducible rfl)
            (try simp only [Act.put, List.setIfInBounds_toArray, List.set_cons_zero, List.set_cons_succ])
            refine take_on (i := 16) (v := ?_) (some 87) rfl (by kernel_rfl) (by kernel_rfl) (by kernel_rfl) rfl (fun _ _ _ h => h) (wanted_on (k := 12) (d := 83) (b := false) rfl rfl rfl) ?_ (by assumption) ?_
            rotate_left
            · intro w hSw; (try dsimp only at hSw); go_simp; (try with_reducible rfl)
            (try simp only [Act.put, List.setIfInBounds_toArray, List.set_cons_zero, List.set_cons_succ])
            refine take_on (i := 17) (v := ?_) (some 88) rfl (by kernel_rfl) (by kernel_rfl) (by kernel_rfl) rfl (fun _ _ _ h => h) (wanted_on (k := 12) (d := 83) (b := false) rfl rfl rfl) ?_ (by assumption) ?_
            rotate_left
            · intro w hSw; (try dsimp only at hSw); go_simp; (try with_reducible rfl)
            (try simp only [Act.put, List.setIfInBounds_toArray, List.set_cons_zero, List.set_cons_succ])
            refine take_on (i := 18) (v := ?_) (some 89) rfl (by kernel_rfl) (by kernel_rfl) (by kernel_rfl) rfl (fun _ _ _ h => h) (wanted_on (k := 12) (d := 83) (b := false) rfl rfl rfl) ?_ (by assumption) ?_
            rotate_left
            · intro w hSw; (try dsimp only at hSw); go_simp; (try with_reducible rfl)
            (try simp only [Act.put, List.setIfInBounds_toArray, List.set_cons_zero, List.set_cons_succ])
            refine take_on (i := 19) (v := ?_) (some 90) rfl (by kernel_rfl) (by kernel_rfl) (by kernel_rfl) rfl (fun _ _ _ h => h) (wanted_on (k := 12) (d := 83) (b := false) rfl rfl rfl) ?_ (by assumption) ?_
            rotate_left
            · intro w hSw; (try dsimp only at hSw); go_simp; (try with_reducible rfl)
            (try simp only [Act.put, List.setIfInBounds_toArray, List.set_cons_zero, List.set_cons_succ])
            refine take_on (i := 20) (v := ?_) (some 91) rfl (by kernel_rfl) (by kernel_rfl) (by kernel_rfl) rfl (fun _ _ _ h => h) (wanted_on (k := 12) (d := 83) (b := false) rfl rfl rfl) ?_ (by assumption) ?_
            rotate_left
            · intro w hSw; (try dsimp only at hSw); go_simp; (try with_reducible rfl)
            (try simp only [Act.put, List.setIfInBounds_toArray, List.set_cons_zero, List.set_cons_succ])
            refine take_on (i := 21) (v := ?_) (some 92) rfl (by kernel_rfl) (by kernel_rfl) (by kernel_rfl) rfl (fun _ _ _ h => h) (wanted_on (k := 12) (d := 83) (b := false) rfl rfl rfl) ?_ (by assumption) ?_
            rotate_left
            · intro w hSw; (try dsimp only at hSw); go_simp; (try with_reducible rfl)
            (try simp only [Act.put, List.setIfInBounds_toArray, List.set_cons_zero, List.set_cons_succ])
            refine take_on (i := 22) (v := ?_) (some 93) rfl (by kernel_rfl) (by kernel_rfl) (by kernel_rfl) rfl (fun _ _ _ h => h) (wanted_on (k := 12) (d := 83) (b := false) rfl rfl rfl) ?_ (by assumption) ?_
            rotate_left
            · intro w hSw; (try dsimp only at hSw); go_simp; (try with_reducible rfl)
            (try simp only [Act.put, List.setIfInBounds_toArray, List.set_cons_zero, List.set_cons_succ])
            refine take_on (i := 23) (v := ?_) (some 94) rfl (by kernel_rfl) (by kernel_rfl) (by kernel_rfl) rfl (fun _ _ _ h => h) (wanted_on (k := 12) (d := 83) (b := false) rfl rfl rfl) ?_ (by assumption) ?_
            rotate_left
            · intro w hSw; (try dsimp only at hSw); go_simp; (try with_reducible rfl)
            (try simp only [Act.put, List.setIfInBounds_toArray, List.set_cons_zero, List.set_cons_succ])
            refine take_on (i := 24) (v := ?_) (some 95) rfl (by kernel_rfl) (by kernel_rfl) (by kernel_rfl) rfl (fun _ _ _ h => h) (wanted_on (k := 12) (d := 83) (b := false) rfl rfl rfl) ?_ (by assumption) ?_
            rotate_left
            · intro w hSw; (try dsimp only at hSw); go_simp; (try with_reducible rfl)
            (try simp only [Act.put, List.setIfInBounds_toArray, List.set_cons_zero, List.set_cons_succ])
            refine take_on (i := 25) (v := ?_) (some 96) rfl (by kernel_rfl) (by kernel_rfl) (by kernel_rfl) rfl (fun _ _ _ h => h) (wanted_on (k := 12) (d := 83) (b := false) rfl rfl rfl) ?_ (by assumption) ?_
            rotate_left
            · intro w hSw; (try dsimp only at hSw); go_simp; (try with_reducible rfl)
            (try simp only [Act.put, List.setIfInBounds_toArray, List.set_cons_zero, List.set_cons_succ])
            refine take_on (i := 26) (v := ?_) (some 97) rfl (by kernel_rfl) (by kernel_rfl) (by kernel_rfl) rfl (fun _ _ _ h => h) (by rfl) ?_ (by assumption) ?_
            rotate_left
            · intro w hSw; (try dsimp only at hSw); go_simp; (try with_reducible rfl)
            (try simp only [Act.put, List.setIfInBounds_toArray, List.set_cons_zero, List.set_cons_succ])
            refine wpAnyH_done (by kernel_rfl) ?_ _
            have b7 := b6.trans (bs_0.mono b6.size)
            have Q7 := keepHeap bs_0 Q6
            have on7 := on.keep bs_0
            have kn7 := kn.keep bs_0
            have hrp7 : RdP w6.drew (toldP X m) (.slice ai LX ci) (.slice aa (lens X).length ca) := ⟨hrp6.1.keep bs_0, hrp6.2.keep bs_0⟩
            obtain ⟨w7, hw7⟩ : ∃ W, W = w6.drew := ⟨_, rfl⟩
            have hs7 : w6.heap.size = w7.heap.size := by rw [hw7]; rfl
            rw [← hw7] at b7 Q7 on7 kn7 hrp7 ⊢
            clear hw7 bs_0
            have ht7 := htk2 on7.rd kn7 hrp7 hci
            have cQ := rowCells Q7
            rw [hle1] at ht7
            go_wp2_with (fail)
            refine ht7.mono ?_
            rintro e w8 ⟨vz, rfl, -, -, hb8⟩
            have b8 := b7.trans (hb8.mono b7.size)
            have s8 := hb8.size
            have s7 := b7.size
            have on8 := (on7.keep hb8).wide (lo' := w1.heap.size) (hi' := w8.heap.size) (by have := b5.size; omega) (by omega) (Nat.le_refl _)
            have kn8 := kn7.keep hb8
            rw [hle1] at on8 kn8
            go_wp2_with (fail)
            go_roundw
            case rel => exact ⟨1, by omega, fun _ => by rw [← HLX.out]; exact hx0, by go_num, on8, kn8, b8⟩
            case measure => simp [intOf]
          · have hX0 : LX = 0 := by omega
            have HYX : Hid (y = X[m]) := Lib.hid (by rw [hy0]; exact (List.length_eq_zero_iff.1 (by rw [← HLX.out]; exact hX0)).symm)
            have zc : decide ((LY : Int) < (LX : Int)) = false := decide_eq_false (by omega)
            have hLYb : LY ≤ 35 := by omega
            have zcN : decide (LY < LX) = false := decide_eq_false (by omega)
            have zcP : ¬ LY < LX := by omega
            have zcI : ¬ (LY : Int) < (LX : Int) := by omega
            clear hLY0 hX0 hx0 hy0
            go_upto_region 11 with (fail)
            have bs_0 : Below wr.heap.size wr wr.drew := belowDrew wr 1
            refine wp_region_held_drew (S := (fun w' => w'.cell? ⟨bT, oT + m, none⟩ = some (.slice aT LY cTx) ∧ w'.cell? ⟨bL, oL + m, none⟩ = some (.slice aL' LX cLx))) (by kernel_rfl) ?_ (fun hHeld => ?_)
            · exact ⟨(bs_0.cell (World.block_lt_of_cell? wr _ crT)).trans crT, (bs_0.cell (World.block_lt_of_cell? wr _ crL)).trans crL⟩
            refine take_on (i := 0) (v := ?_) (some 34) rfl (by kernel_rfl) (by kernel_rfl) (by kernel_rfl) rfl (fun _ _ _ h => h) (by rfl) ?_ (by assumption) ?_
            rotate_left
            · intro w hSw; (try dsimp only at hSw); go_simp; (try with_reducible rfl)
            (try simp only [Act.put, List.setIfInBounds_toArray, List.set_cons_zero, List.set_cons_succ])
            refine take_on (i := 1) (v := ?_) (some 35) rfl (by kernel_rfl) (by kernel_rfl) (by kernel_rfl) rfl (fun _ _ _ h => h) (by rfl) ?_ (by assumption) ?_
            rotate_left
            · intro w hSw; (try dsimp only at hSw); go_simp; (try with_reducible rfl)
            (try simp only [Act.put, List.setIfInBounds_toArray, List.set_cons_zero, List.set_cons_succ])
            refine take_on (i := 2) (v := ?_) (some 36) rfl (by kernel_rfl) (by kernel_rfl) (by kernel_rfl) rfl (fun _ _ _ h => h) (by rfl) ?_ (by assumption) ?_
            rotate_left
            · intro w hSw; (try dsimp only at hSw); go_simp; (try with_reducible rfl)
            (try simp only [Act.put, List.setIfInBounds_toArray, List.set_cons_zero, List.set_cons_succ])
            refine take_on (i := 3) (v := ?_) (some 37) rfl (by kernel_rfl) (by kernel_rfl) (by kernel_rfl) rfl (fun _ _ _ h => h) (wanted_on (k := 2) (d := 36) (b := true) rfl rfl rfl) ?_ (by assumption) ?_
            rotate_left
            · intro w hSw; (try dsimp only at hSw); go_simp; (try with_reducible rfl)
            (try simp only [Act.put, List.setIfInBounds_toArray, List.set_cons_zero, List.set_cons_succ])
            refine take_on (i := 4) (v := ?_) (some 38) rfl (by kernel_rfl) (by kernel_rfl) (by kernel_rfl) rfl (fun _ _ _ h => h) (wanted_on (k := 2) (d := 36) (b := true) rfl rfl rfl) ?_ (by assumption) ?_
            rotate_left
            · intro w hSw; (try dsimp only at hSw); go_simp; (try with_reducible rfl)
            (try simp only [Act.put, List.setIfInBounds_toArray, List.set_cons_zero, List.set_cons_succ])
            refine take_on (i := 5) (v := ?_) (some 39) rfl (by kernel_rfl) (by kernel_rfl) (by kernel_rfl) rfl (fun _ _ _ h => h) (wanted_on (k := 2) (d := 36) (b := true) rfl rfl rfl) ?_ (by assumption) ?_
            rotate_left
            · intro w hSw; (try dsimp only at hSw); go_simp; (try with_reducible rfl)
            (try simp only [Act.put, List.setIfInBounds_toArray, List.set_cons_zero, List.set_cons_succ])
            refine take_on (i := 6) (v := ?_) (some 40) rfl (by kernel_rfl) (by kernel_rfl) (by kernel_rfl) rfl (fun _ _ _ h => h) (wanted_on (k := 2) (d := 36) (b := true) rfl rfl rfl) ?_ (by assumption) ?_
            rotate_left
            · intro w hSw; (try dsimp only at hSw); go_simp; (try with_reducible rfl)
            (try simp only [Act.put, List.setIfInBounds_toArray, List.set_cons_zero, List.set_cons_succ])
            refine take_on (i := 7) (v := ?_) (some 41) rfl (by kernel_rfl) (by kernel_rfl) (by kernel_rfl) rfl (fun _ _ _ h => h) (wanted_on (k := 2) (d := 36) (b := true) rfl rfl rfl) ?_ (by assumption) ?_
            rotate_left
            · intro w hSw; (try dsimp only at hSw); go_simp; (try with_reducible rfl)
            (try simp only [Act.put, List.setIfInBounds_toArray, List.set_cons_zero, List.set_cons_succ])
            refine take_on (i := 8) (v := ?_) (some 42) rfl (by kernel_rfl) (by kernel_rfl) (by kernel_rfl) rfl (fun _ _ _ h => h) (wanted_on (k := 2) (d := 36) (b := true) rfl rfl rfl) ?_ (by assumption) ?_
            rotate_left
            · intro w hSw; (try dsimp only at hSw); go_simp; (try with_reducible rfl)
            (try simp only [Act.put, List.setIfInBounds_toArray, List.set_cons_zero, List.set_cons_succ])
            refine take_on (i := 9) (v := ?_) (some 43) rfl (by kernel_rfl) (by kernel_rfl) (by kernel_rfl) rfl (fun _ _ _ h => h) (wanted_on (k := 2) (d := 36) (b := true) rfl rfl rfl) ?_ (by assumption) ?_
            rotate_left
            · intro w hSw; (try dsimp only at hSw); go_simp; (try with_reducible rfl)
            (try simp only [Act.put, List.setIfInBounds_toArray, List.set_cons_zero, List.set_cons_succ])
            refine take_on (i := 10) (v := ?_) (some 44) rfl (by kernel_rfl) (by kernel_rfl) (by kernel_rfl) rfl (fun _ _ _ h => h) (wanted_on (k := 2) (d := 36) (b := true) rfl rfl rfl) ?_ (by assumption) ?_
            rotate_left
            · intro w hSw; (try dsimp only at hSw); go_simp; (try with_reducible rfl)
            (try simp only [Act.put, List.setIfInBounds_toArray, List.set_cons_zero, List.set_cons_succ])
            refine take_on (i := 11) (v := ?_) (some 45) rfl (by kernel_rfl) (by kernel_rfl) (by kernel_rfl) rfl (fun _ _ _ h => h) (wanted_on (k := 2) (d := 36) (b := true) rfl rfl rfl) ?_ (by assumption) ?_
            rotate_left
            · intro w hSw; (try dsimp only at hSw); go_simp; (try with_reducible rfl)
            (try simp only [Act.put, List.setIfInBounds_toArray, List.set_cons_zero, List.set_cons_succ])
            refine take_on (i := 12) (v := ?_) (some 46) rfl (by kernel_rfl) (by kernel_rfl) (by kernel_rfl) rfl (fun _ _ _ h => h) (wanted_on (k := 2) (d := 36) (b := true) rfl rfl rfl) ?_ (by assumption) ?_
            rotate_left
            · intro w hSw; (try dsimp only at hSw); go_simp; (try with_reducible rfl)
            (try simp only [Act.put, List.setIfInBounds_toArray, List.set_cons_zero, List.set_cons_succ])
            refine take_on (i := 13) (v := ?_) (some 47) rfl (by kernel_rfl) (by kernel_rfl) (by kernel_rfl) rfl (fun _ _ _ h => h) (wanted_on (k := 2) (d := 36) (b := true) rfl rfl rfl) ?_ (by assumption) ?_
            rotate_left
            · intro w hSw; (try dsimp only at hSw); go_simp; (try with_reducible rfl)
            (try simp only [Act.put, List.setIfInBounds_toArray, List.set_cons_zero, List.set_cons_succ])
            refine take_on (i := 14) (v := ?_) (some 48) rfl (by kernel_rfl) (by kernel_rfl) (by kernel_rfl) rfl (fun _ _ _ h => h) (wanted_on (k := 2) (d := 36) (b := true) rfl rfl rfl) ?_ (by assumption) ?_
            rotate_left
            · intro w hSw; (try dsimp only at hSw); go_simp; (try with_reducible rfl)
            (try simp only [Act.put, List.setIfInBounds_toArray, List.set_cons_zero, List.set_cons_succ])
            refine take_on (i := 15) (v := ?_) (some 49) rfl (by kernel_rfl) (by kernel_rfl) (by kernel_rfl) rfl (fun _ _ _ h => h) (wanted_on (k := 2) (d := 36) (b := true) rfl rfl rfl) ?_ (by assumption) ?_
            rotate_left
            · intro w hSw; (try dsimp only at hSw); go_simp; (try with_reducible rfl)
            (try simp only [Act.put, List.setIfInBounds_toArray, List.set_cons_zero, List.set_cons_succ])
            refine take_on (i := 16) (v := ?_) (some 50) rfl (by kernel_rfl) (by kernel_rfl) (by kernel_rfl) rfl (fun _ _ _ h => h) (by rfl) ?_ (by assumption) ?_
            rotate_left
            · intro w hSw; (try dsimp only at hSw); go_simp; (try with_reducible rfl)
            (try simp only [Act.put, List.setIfInBounds_toArray, List.set_cons_zero, List.set_cons_succ])
            refine wpAnyH_done (by kernel_rfl) ?_ _
            have b11 : Below wr.heap.size wr wr.drew := belowDrew wr 1
            have crT' := (b11.cell (World.block_lt_of_cell? wr _ crT)).trans crT
            have crL' := (b11.cell (World.block_lt_of_cell? wr _ crL)).trans crL
            clear bs_0
            have heq : sameB y X[m] = true := by unfold sameB; exact decide_eq_true HYX.out
            have hst := fun {W : World} (h1' : RdI W (.slice aT LY cTx) y) (h2' : RdI W (.slice aL' LX cLx) X[m]) => sameTrack_impl h1' h2' (by rw [← HLY.out]; omega) (by rw [← HLX.out]; omega)
            rw [heq] at hst
            have rT : RdI wr (.slice aT LY cTx) y := by have := rxT; rw [← HLY.out] at this; exact this
            have rL : RdI wr (.slice aL' LX cLx) X[m] := by have := rxL; rw [← HLX.out] at this; exact this
            go_upto_region 21 with (fail)
            have bs_0 : Below wr.drew.heap.size wr.drew wr.drew.drew := belowDrew wr.drew 1
            refine wp_region_held_drew (S := (fun w' => w'.cell? ⟨bT, oT + m, none⟩ = some (.slice aT LY cTx) ∧ w'.cell? ⟨bL, oL + m, none⟩ = some (.slice aL' LX cLx))) (by kernel_rfl) ?_ (fun hHeld => ?_)
            · exact ⟨(bs_0.cell (World.block_lt_of_cell? _ _ crT')).trans crT', (bs_0.cell (World.block_lt_of_cell? _ _ crL')).trans crL'⟩
            refine take_on (i := 0) (v := ?_) (some 107) rfl (by kernel_rfl) (by kernel_rfl) (by kernel_rfl) rfl (fun _ _ _ h => h) (by rfl) ?_ (by assumption) ?_
            rotate_left
            · intro w hSw; (try dsimp only at hSw); go_simp; (try with_reducible rfl)
            (try simp only [Act.put, List.setIfInBounds_toArray, List.set_cons_zero, List.set_cons_succ])
            refine take_on (i := 1) (v := ?_) (some 108) rfl (by kernel_rfl) (by kernel_rfl) (by kernel_rfl) rfl (fun _ _ _ h => h) (by rfl) ?_ (by assumption) ?_
            rotate_left
            · intro w hSw; (try dsimp only at hSw); go_simp; (try with_reducible rfl)
            (try simp only [Act.put, List.setIfInBounds_toArray, List.set_cons_zero, List.set_cons_succ])
            refine take_on (i := 2) (v := ?_) (some 109) rfl (by kernel_rfl) (by kernel_rfl) (by kernel_rfl) rfl (fun _ _ _ h => h) (by rfl) ?_ (by assumption) ?_
            rotate_left
            · intro w hSw; (try dsimp only at hSw); go_simp; (try with_reducible rfl)
            (try simp only [Act.put, List.setIfInBounds_toArray, List.set_cons_zero, List.set_cons_succ])
            refine take_on (i := 3) (v := ?_) (some 110) rfl (by kernel_rfl) (by kernel_rfl) (by kernel_rfl) rfl (fun _ _ _ h => h) (by rfl) ?_ (by assumption) ?_
            rotate_left
            · intro w hSw; (try dsimp only at hSw); go_simp; (try with_reducible rfl)
            (try simp only [Act.put, List.setIfInBounds_toArray, List.set_cons_zero, List.set_cons_succ])
            refine take_on (i := 4) (v := ?_) (some 111) rfl (by kernel_rfl) (by kernel_rfl) (by kernel_rfl) rfl (fun _ _ _ h => h) (by rfl) ?_ (by assumption) ?_
            rotate_left
            · intro w hSw; (try dsimp only at hSw); go_simp; (try with_reducible rfl)
            (try simp only [Act.put, List.setIfInBounds_toArray, List.set_cons_zero, List.set_cons_succ])
            refine take_on (i := 5) (v := ?_) (some 112) rfl (by kernel_rfl) (by kernel_rfl) (by kernel_rfl) rfl (fun _ _ _ h => h) (by rfl) ?_ (by assumption) ?_
            rotate_left
            · intro w hSw; (try dsimp only at hSw); go_simp; (try with_reducible rfl)
            (try simp only [Act.put, List.setIfInBounds_toArray, List.set_cons_zero, List.set_cons_succ])
            refine take_on (i := 6) (v := ?_) (some 113) rfl (by kernel_rfl) (by kernel_rfl) (by kernel_rfl) rfl (fun _ _ _ h => h) (by rfl) ?_ (by assumption) ?_
            rotate_left
            · intro w hSw; (try dsimp only at hSw); go_simp; (try with_reducible rfl)
            (try simp only [Act.put, List.setIfInBounds_toArray, List.set_cons_zero, List.set_cons_succ])
            refine take_on (i := 7) (v := ?_) (some 114) rfl (by kernel_rfl) (by kernel_rfl) (by kernel_rfl) rfl (fun _ _ _ h => h) (by rfl) ?_ (by assumption) ?_
            rotate_left
            · intro w hSw; (try dsimp only at hSw); go_simp; (try with_reducible rfl)
            (try simp only [Act.put, List.setIfInBounds_toArray, List.set_cons_zero, List.set_cons_succ])
            refine wpAnyH_ready (rs := [8]) (by kernel_rfl) (by simp) ?_
            refine AllReadyH.cons rfl (fun K hK => ?_) AllReadyH.nil
            go_simp
            refine (hst (rT.keep (b11.trans (bs_0.mono b11.size))) (rL.keep (b11.trans (bs_0.mono b11.size)))).mono ?_
            rintro e w_1 ⟨rfl, hb_1⟩
            have bs_1 := bs_0.trans (hb_1.mono bs_0.size)
            (try go_wp2_with (fail))
            refine hK.out _ _ ?_ (fun hHeld => ?_)
            · exact ⟨(bs_1.cell (World.block_lt_of_cell? _ _ crT')).trans crT', (bs_1.cell (World.block_lt_of_cell? _ _ crL')).trans crL'⟩
            clear hK K
            (try simp only [Act.put, List.setIfInBounds_toArray, List.set_cons_zero, List.set_cons_succ])
            refine take_on (i := 9) (v := ?_) (some 2) rfl (by kernel_rfl) (by kernel_rfl) (by kernel_rfl) rfl (fun _ _ _ h => h) (by rfl) ?_ (by assumption) ?_
            rotate_left
            · intro w hSw; (try dsimp only at hSw); go_simp; (try with_reducible rfl)
            (try simp only [Act.put, List.setIfInBounds_toArray, List.set_cons_zero, List.set_cons_succ])
            refine wpAnyH_done (by kernel_rfl) ?_ _
            go_wp2_with (fail)
            go_ret
            exact ⟨rfl, bwr.trans ((b11.trans (bs_1.mono b11.size)).mono bwr.size)⟩
        · have hj1 : j = 1 := by omega
          have HYX : Hid (y = X[m]) := Lib.hid (by have := HAT.out; rw [if_neg hj0] at this; exact this)
          have hLL : LY = LX := by rw [HLY.out, HLX.out, HYX.out]
          have zc : decide ((LY : Int) < (LX : Int)) = false := decide_eq_false (by omega)
          have hLYb : LY ≤ 35 := by omega
          have zcN : decide (LY < LX) = false := decide_eq_false (by omega)
          have zcP : ¬ LY < LX := by omega
          have zcI : ¬ (LY : Int) < (LX : Int) := by omega
          clear hLL hj1 hj0
          go_upto_region 11 with (fail)
          have bs_0 : Below wr.heap.size wr wr.drew := belowDrew wr 1
          refine wp_region_held_drew (S := (fun w' => w'.cell? ⟨bT, oT + m, none⟩ = some (.slice aT LY cTx) ∧ w'.cell? ⟨bL, oL + m, none⟩ = some (.slice aL' LX cLx))) (by kernel_rfl) ?_ (fun hHeld => ?_)
          · exact ⟨(bs_0.cell (World.block_lt_of_cell? wr _ crT)).trans crT, (bs_0.cell (World.block_lt_of_cell? wr _ crL)).trans crL⟩
          refine take_on (i := 0) (v := ?_) (some 34) rfl (by kernel_rfl) (by kernel_rfl) (by kernel_rfl) rfl (fun _ _ _ h => h) (by rfl) ?_ (by assumption) ?_
          rotate_left
          · intro w hSw; (try dsimp only at hSw); go_simp; (try with_reducible rfl)
          (try simp only [Act.put, List.setIfInBounds_toArray, List.set_cons_zero, List.set_cons_succ])
          refine take_on (i := 1) (v := ?_) (some 35) rfl (by kernel_rfl) (by kernel_rfl) (by kernel_rfl) rfl (fun _ _ _ h => h) (by rfl) ?_ (by assumption) ?_
          rotate_left
          · intro w hSw; (try dsimp only at hSw); go_simp; (try with_reducible rfl)
          (try simp only [Act.put, List.setIfInBounds_toArray, List.set_cons_zero, List.set_cons_succ])
          refine take_on (i := 2) (v := ?_) (some 36) rfl (by kernel_rfl) (by kernel_rfl) (by kernel_rfl) rfl (fun _ _ _ h => h) (by rfl) ?_ (by assumption) ?_
          rotate_left
          · intro w hSw; (try dsimp only at hSw); go_simp; (try with_reducible rfl)
          (try simp only [Act.put, List.setIfInBounds_toArray, List.set_cons_zero, List.set_cons_succ])
          refine take_on (i := 3) (v := ?_) (some 37) rfl (by kernel_rfl) (by kernel_rfl) (by kernel_rfl) rfl (fun _ _ _ h => h) (wanted_on (k := 2) (d := 36) (b := true) rfl rfl rfl) ?_ (by assumption) ?_
          rotate_left
          · intro w hSw; (try dsimp only at hSw); go_simp; (try with_reducible rfl)
          (try simp only [Act.put, List.setIfInBounds_toArray, List.set_cons_zero, List.set_cons_succ])
          refine take_on (i := 4) (v := ?_) (some 38) rfl (by kernel_rfl) (by kernel_rfl) (by kernel_rfl) rfl (fun _ _ _ h => h) (wanted_on (k := 2) (d := 36) (b := true) rfl rfl rfl) ?_ (by assumption) ?_
          rotate_left
          · intro w hSw; (try dsimp only at hSw); go_simp; (try with_reducible rfl)
          (try simp only [Act.put, List.setIfInBounds_toArray, List.set_cons_zero, List.set_cons_succ])
          refine take_on (i := 5) (v := ?_) (some 39) rfl (by kernel_rfl) (by kernel_rfl) (by kernel_rfl) rfl (fun _ _ _ h => h) (wanted_on (k := 2) (d := 36) (b := true) rfl rfl rfl) ?_ (by assumption) ?_
          rotate_left
          · intro w hSw; (try dsimp only at hSw); go_simp; (try with_reducible rfl)
          (try simp only [Act.put, List.setIfInBounds_toArray, List.set_cons_zero, List.set_cons_succ])
          refine take_on (i := 6) (v := ?_) (some 40) rfl (by kernel_rfl) (by kernel_rfl) (by kernel_rfl) rfl (fun _ _ _ h => h) (wanted_on (k := 2) (d := 36) (b := true) rfl rfl rfl) ?_ (by assumption) ?_
          rotate_left
          · intro w hSw; (try dsimp only at hSw); go_simp; (try with_reducible rfl)
          (try simp only [Act.put, List.setIfInBounds_toArray, List.set_cons_zero, List.set_cons_succ])
          refine take_on (i := 7) (v := ?_) (some 41) rfl (by kernel_rfl) (by kernel_rfl) (by kernel_rfl) rfl (fun _ _ _ h => h) (wanted_on (k := 2) (d := 36) (b := true) rfl rfl rfl) ?_ (by assumption) ?_
          rotate_left
          · intro w hSw; (try dsimp only at hSw); go_simp; (try with_reducible rfl)
          (try simp only [Act.put, List.setIfInBounds_toArray, List.set_cons_zero, List.set_cons_succ])
          refine take_on (i := 8) (v := ?_) (some 42) rfl (by kernel_rfl) (by kernel_rfl) (by kernel_rfl) rfl (fun _ _ _ h => h) (wanted_on (k := 2) (d := 36) (b := true) rfl rfl rfl) ?_ (by assumption) ?_
          rotate_left
          · intro w hSw; (try dsimp only at hSw); go_simp; (try with_reducible rfl)
          (try simp only [Act.put, List.setIfInBounds_toArray, List.set_cons_zero, List.set_cons_succ])
          refine take_on (i := 9) (v := ?_) (some 43) rfl (by kernel_rfl) (by kernel_rfl) (by kernel_rfl) rfl (fun _ _ _ h => h) (wanted_on (k := 2) (d := 36) (b := true) rfl rfl rfl) ?_ (by assumption) ?_
          rotate_left
          · intro w hSw; (try dsimp only at hSw); go_simp; (try with_reducible rfl)
          (try simp only [Act.put, List.setIfInBounds_toArray, List.set_cons_zero, List.set_cons_succ])
          refine take_on (i := 10) (v := ?_) (some 44) rfl (by kernel_rfl) (by kernel_rfl) (by kernel_rfl) rfl (fun _ _ _ h => h) (wanted_on (k := 2) (d := 36) (b := true) rfl rfl rfl) ?_ (by assumption) ?_
          rotate_left
          · intro w hSw; (try dsimp only at hSw); go_simp; (try with_reducible rfl)
          (try simp only [Act.put, List.setIfInBounds_toArray, List.set_cons_zero, List.set_cons_succ])
          refine take_on (i := 11) (v := ?_) (some 45) rfl (by kernel_rfl) (by kernel_rfl) (by kernel_rfl) rfl (fun _ _ _ h => h) (wanted_on (k := 2) (d := 36) (b := true) rfl rfl rfl) ?_ (by assumption) ?_
          rotate_left
          · intro w hSw; (try dsimp only at hSw); go_simp; (try with_reducible rfl)
          (try simp only [Act.put, List.setIfInBounds_toArray, List.set_cons_zero, List.set_cons_succ])
          refine take_on (i := 12) (v := ?_) (some 46) rfl (by kernel_rfl) (by kernel_rfl) (by kernel_rfl) rfl (fun _ _ _ h => h) (wanted_on (k := 2) (d := 36) (b := true) rfl rfl rfl) ?_ (by assumption) ?_
          rotate_left
          · intro w hSw; (try dsimp only at hSw); go_simp; (try with_reducible rfl)
          (try simp only [Act.put, List.setIfInBounds_toArray, List.set_cons_zero, List.set_cons_succ])
          refine take_on (i := 13) (v := ?_) (some 47) rfl (by kernel_rfl) (by kernel_rfl) (by kernel_rfl) rfl (fun _ _ _ h => h) (wanted_on (k := 2) (d := 36) (b := true) rfl rfl rfl) ?_ (by assumption) ?_
          rotate_left
          · intro w hSw; (try dsimp only at hSw); go_simp; (try with_reducible rfl)
          (try simp only [Act.put, List.setIfInBounds_toArray, List.set_cons_zero, List.set_cons_succ])
          refine take_on (i := 14) (v := ?_) (some 48) rfl (by kernel_rfl) (by kernel_rfl) (by kernel_rfl) rfl (fun _ _ _ h => h) (wanted_on (k := 2) (d := 36) (b := true) rfl rfl rfl) ?_ (by assumption) ?_
          rotate_left
          · intro w hSw; (try dsimp only at hSw); go_simp; (try with_reducible rfl)
          (try simp only [Act.put, List.setIfInBounds_toArray, List.set_cons_zero, List.set_cons_succ])
          refine take_on (i := 15) (v := ?_) (some 49) rfl (by kernel_rfl) (by kernel_rfl) (by kernel_rfl) rfl (fun _ _ _ h => h) (wanted_on (k := 2) (d := 36) (b := true) rfl rfl rfl) ?_ (by assumption) ?_
          rotate_left
          · intro w hSw; (try dsimp only at hSw); go_simp; (try with_reducible rfl)
          (try simp only [Act.put, List.setIfInBounds_toArray, List.set_cons_zero, List.set_cons_succ])
          refine take_on (i := 16) (v := ?_) (some 50) rfl (by kernel_rfl) (by kernel_rfl) (by kernel_rfl) rfl (fun _ _ _ h => h) (by rfl) ?_ (by assumption) ?_
          rotate_left
          · intro w hSw; (try dsimp only at hSw); go_simp; (try with_reducible rfl)
          (try simp only [Act.put, List.setIfInBounds_toArray, List.set_cons_zero, List.set_cons_succ])
          refine wpAnyH_done (by kernel_rfl) ?_ _
          have b11 : Below wr.heap.size wr wr.drew := belowDrew wr 1
          have crT' := (b11.cell (World.block_lt_of_cell? wr _ crT)).trans crT
          have crL' := (b11.cell (World.block_lt_of_cell? wr _ crL)).trans crL
          clear bs_0
          have heq : sameB y X[m] = true := by unfold sameB; exact decide_eq_true HYX.out
          have hst := fun {W : World} (h1' : RdI W (.slice aT LY cTx) y) (h2' : RdI W (.slice aL' LX cLx) X[m]) => sameTrack_impl h1' h2' (by rw [← HLY.out]; omega) (by rw [← HLX.out]; omega)
          rw [heq] at hst
          have rT : RdI wr (.slice aT LY cTx) y := by have := rxT; rw [← HLY.out] at this; exact this
          have rL : RdI wr (.slice aL' LX cLx) X[m] := by have := rxL; rw [← HLX.out] at this; exact this
          go_upto_region 21 with (fail)
          have bs_0 : Below wr.drew.heap.size wr.drew wr.drew.drew := belowDrew wr.drew 1
          refine wp_region_held_drew (S := (fun w' => w'.cell? ⟨bT, oT + m, none⟩ = some (.slice aT LY cTx) ∧ w'.cell? ⟨bL, oL + m, none⟩ = some (.slice aL' LX cLx))) (by kernel_rfl) ?_ (fun hHeld => ?_)
          · exact ⟨(bs_0.cell (World.block_lt_of_cell? _ _ crT')).trans crT', (bs_0.cell (World.block_lt_of_cell? _ _ crL')).trans crL'⟩
          refine take_on (i := 0) (v := ?_) (some 107) rfl (by kernel_rfl) (by kernel_rfl) (by kernel_rfl) rfl (fun _ _ _ h => h) (by rfl) ?_ (by assumption) ?_
          rotate_left
          · intro w hSw; (try dsimp only at hSw); go_simp; (try with_reducible rfl)
          (try simp only [Act.put, List.setIfInBounds_toArray, List.set_cons_zero, List.set_cons_succ])
          refine take_on (i := 1) (v := ?_) (some 108) rfl (by kernel_rfl) (by kernel_rfl) (by kernel_rfl) rfl (fun _ _ _ h => h) (by rfl) ?_ (by assumption) ?_
          rotate_left
          · intro w hSw; (try dsimp only at hSw); go_simp; (try with_reducible rfl)
          (try simp only [Act.put, List.setIfInBounds_toArray, List.set_cons_zero, List.set_cons_succ])
          refine take_on (i := 2) (v := ?_) (some 109) rfl (by kernel_rfl) (by kernel_rfl) (by kernel_rfl) rfl (fun _ _ _ h => h) (by rfl) ?_ (by assumption) ?_
          rotate_left
          · intro w hSw; (try dsimp only at hSw); go_simp; (try with_reducible rfl)
          (try simp only [Act.put, List.setIfInBounds_toArray, List.set_cons_zero, List.set_cons_succ])
          refine take_on (i := 3) (v := ?_) (some 110) rfl (by kernel_rfl) (by kernel_rfl) (by kernel_rfl) rfl (fun _ _ _ h => h) (by rfl) ?_ (by assumption) ?_
          rotate_left
          · intro w hSw; (try dsimp only at hSw); go_simp; (try with_reducible rfl)
          (try simp only [Act.put, List.setIfInBounds_toArray, List.set_cons_zero, List.set_cons_succ])
          refine take_on (i := 4) (v := ?_) (some 111) rfl (by kernel_rfl) (by kernel_rfl) (by kernel_rfl) rfl (fun _ _ _ h => h) (by rfl) ?_ (by assumption) ?_
          rotate_left
          · intro w hSw; (try dsimp only at hSw); go_simp; (try with_reducible rfl)
          (try simp only [Act.put, List.setIfInBounds_toArray, List.set_cons_zero, List.set_cons_succ])
          refine take_on (i := 5) (v := ?_) (some 112) rfl (by kernel_rfl) (by kernel_rfl) (by kernel_rfl) rfl (fun _ _ _ h => h) (by rfl) ?_ (by assumption) ?_
          rotate_left
          · intro w hSw; (try dsimp only at hSw); go_simp; (try with_reducible rfl)
          (try simp only [Act.put, List.setIfInBounds_toArray, List.set_cons_zero, List.set_cons_succ])
          refine take_on (i := 6) (v := ?_) (some 113) rfl (by kernel_rfl) (by kernel_rfl) (by kernel_rfl) rfl (fun _ _ _ h => h) (by rfl) ?_ (by assumption) ?_
          rotate_left
          · intro w hSw; (try dsimp only at hSw); go_simp; (try with_reducible rfl)
          (try simp only [Act.put, List.setIfInBounds_toArray, List.set_cons_zero, List.set_cons_succ])
          refine take_on (i := 7) (v := ?_) (some 114) rfl (by kernel_rfl) (by kernel_rfl) (by kernel_rfl) rfl (fun _ _ _ h => h) (by rfl) ?_ (by assumption) ?_
          rotate_left
          · intro w hSw; (try dsimp only at hSw); go_simp; (try with_reducible rfl)
          (try simp only [Act.put, List.setIfInBounds_toArray, List.set_cons_zero, List.set_cons_succ])
          refine wpAnyH_ready (rs := [8]) (by kernel_rfl) (by simp) ?_
          refine AllReadyH.cons rfl (fun K hK => ?_) AllReadyH.nil
          go_simp
          refine (hst (rT.keep (b11.trans (bs_0.mono b11.size))) (rL.keep (b11.trans (bs_0.mono b11.size)))).mono ?_
          rintro e w_1 ⟨rfl, hb_1⟩
          have bs_1 := bs_0.trans (hb_1.mono bs_0.size)
          (try go_wp2_with (fail))
          refine hK.out _ _ ?_ (fun hHeld => ?_)
          · exact ⟨(bs_1.cell (World.block_lt_of_cell? _ _ crT')).trans crT', (bs_1.cell (World.block_lt_of_cell? _ _ crL')).trans crL'⟩
          clear hK K
          (try simp only [Act.put, List.setIfInBounds_toArray, List.set_cons_zero, List.set_cons_succ])
          refine take_on (i := 9) (v := ?_) (some 2) rfl (by kernel_rfl) (by kernel_rfl) (by kernel_rfl) rfl (fun _ _ _ h => h) (by rfl) ?_ (by assumption) ?_
          rotate_left
          · intro w hSw; (try dsimp only at hSw); go_simp; (try with_reducible rfl)
          (try simp only [Act.put, List.setIfInBounds_toArray, List.set_cons_zero, List.set_cons_succ])
          refine wpAnyH_done (by kernel_rfl) ?_ _
          go_wp2_with (fail)
          go_ret
          exact ⟨rfl, bwr.trans ((b11.trans (bs_1.mono b11.size)).mono bwr.size)⟩
end Go.Proofs.Ytgbdpmaajihfdaa
