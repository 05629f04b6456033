/-
  FnTrackBytes.
-/
import Derived.Test.YtbjbamcpfjlllabDrT
import Derived.Test.YtbjbamcpfjlllabTbP
import Derived.Test.YtbjbamcpfjlllabAddI
import Derived.Test.YtbjbamcpfjlllabTrB
import Derived.Test.YtbjbamcpfjlllabPkM
import Derived.Test.YtbjbamcpfjlllabSmI
import Derived.Test.YtbjbamcpfjlllabReg
import Derived.Deep.Cut
import Derived.Deep.CutBlock
import Derived.Deep.CutRange
namespace Go.Proofs.Ytbjbamcpfjlllab
open Go.RowKit
set_option linter.all false
theorem set_farB (w : World) (c k : Nat) (u : Value) : FarB c (c + 1) w (w.setCell ⟨c, k, none⟩ u) :=
  ⟨(Below.refl _ _).setCell (p := ⟨c, k, none⟩) (Nat.le_refl _) u, fun j hj _ => Below.heap_setCell _ _ _ j (by show j ≠ c; omega)⟩
theorem rd_one (W : World) (n : Int) (t : TypeId) : RdI (W.alloc (.cells #[.int .i64 n] t)) (.slice (some ⟨W.heap.size, 0, none⟩) 1 1) [n] := by
  refine ⟨_, _, rfl, .inr ⟨_, 0, rfl, fun j hj => ?_⟩⟩
  have : j = 0 := by simpa using hj
  subst this
  rw [World.cell?_alloc_mark]; rfl
theorem rd_heap1 {W : World} {g : Nat} {n : Int} {t : TypeId} (h : W.heap[g]? = some (.cells #[.int .i64 n] t (0, 0))) : RdI W (.slice (some ⟨g, 0, none⟩) 1 1) [n] := by
  refine ⟨_, _, rfl, .inr ⟨_, 0, rfl, fun j hj => ?_⟩⟩
  have : j = 0 := by simpa using hj
  subst this
  exact rowCells h _
theorem rem_small (y : Nat) {n : Nat} {d : Int} (hn : n ≤ 35) (hd : (n : Int) + 1 = d) : ∃ m : Nat, (y : Int) % d = (m : Int) ∧ (y : Int).tmod d = (m : Int) ∧ m ≤ n ∧ IntKind.i64.wrap (m : Int) = (m : Int) := by
  have e : (y : Int) % d = ((y % (n + 1) : Nat) : Int) := by rw [← hd]; exact (Int.natCast_emod y (n + 1)).symm
  have hlt := Nat.mod_lt y (show 0 < n + 1 by omega)
  exact ⟨y % (n + 1), e, by rw [Int.tmod_eq_emod_of_nonneg (by omega)]; exact e, by omega, IntWalk.i64_in _ (by omega)⟩
set_option maxRecDepth 100000 in
set_option maxHeartbeats 8000000 in
theorem lawTrackBytes (a : Option Addr) (len cap : Nat) (zs : List Int) (w : World) (hr : IsRow .u8 w a len cap zs) :
    Calls Try.prog 4 #[.slice a len cap] w fun e w' => e = .returned (.bool true) ∧ Below w.heap.size w w' := by
  obtain ⟨hrd, hl⟩ := RdC.of_row hr
  clear hr
  by_cases h : 1048576 < (len : Int)
  · have b1 : decide (1048576 < (len : Int)) = true := by simpa using h
    go_enter Try.func4, Try.ntmps4
    go_wp2_with (go_at_call 5; refine (big_any hrd hl).mono ?_; rintro e w' ⟨rfl, rfl⟩)
    go_ret
    exact ⟨rfl, Below.refl _ _⟩
  have b1 : decide (1048576 < (len : Int)) = false := by simpa using h
  go_enter Try.func4, Try.ntmps4
  go_wp2_with (go_at_call 5; refine (big_any hrd hl).mono ?_; rintro e w' ⟨rfl, rfl⟩)
  refine (drawTracks_any hrd (by omega)).mono ?_
  rintro e w1 ⟨v1, X, rfl, o1, hcr, hX, hX1, hX4, htr, hb1⟩
  have ht1 := o1.rd
  obtain ⟨a1, c1, rfl, -⟩ := id ht1
  have hfew : Few X := ⟨by omega, fun x hx => by have := (hX x hx).2; omega⟩
  have HX := Lib.hid hX
  have HTR := Lib.hid htr
  clear hX htr
  go_wp2_with (fail)
  go_loopw [4] (fun i wr => ∃ k : Nat, k ≤ X.length ∧ i = .int .i64 (k : Int) ∧ Below w1.heap.size w1 wr) (fun i _ => X.length - (intOf i).toNat)
  case atStart => exact ⟨0, Nat.zero_le _, rfl, Below.refl _ _⟩
  case round =>
    obtain ⟨k, hk, rfl, hbel⟩ := hrel
    by_cases hkl : k < X.length
    · obtain ⟨b, off, cap', ax, cx, e0, cr0, hlc, rx0⟩ := row_cap ht1 hcr hkl
      obtain ⟨rfl, -, rfl⟩ := Value.slice.inj e0
      clear e0
      have cr : wr.cell? ⟨b, off + k, none⟩ = some (.slice ax X[k].length cx) := (hbel.cell (World.block_lt_of_cell? w1 _ cr0)).trans cr0
      have rx := rx0.keep hbel
      have hins := HX.out X[k] (List.getElem_mem _)
      have htk := ins_trk hins.1 hins.2
      have hx35 := hins.2
      have hkX : (k : Int) < (X.length : Int) := by omega
      have hbw : Below w.heap.size w wr := hb1.trans (hbel.mono hb1.size)
      clear cr0 rx0 hins
      generalize X[k] = x at *
      have hcx : CapI (.slice ax x.length cx) := ⟨_, _, _, rfl, hlc⟩
      have hUT := unT_pack htk
      have hpl := packTr_len x
      have hPT := fun {W : World} (h1 : RdI W (.slice ax x.length cx) x) => packTrack_impl h1 hcx (by omega)
      generalize packTr x = l at hUT hpl hPT
      have hUN := fun (W : World) => unpackTrack_impl l W (by omega)
      unfold RetUT at hUN
      simp only [hUT, Option.isSome, Option.getD] at hUN
      obtain ⟨W1, hW1, hA1, hb1', hS1⟩ := rows1 wr #[.slice ax x.length cx] 40
      have cA1 := rowCells hA1
      go_wp2_with (fail)
      clear hW1
      refine (hPT (rx.keep hb1')).mono ?_
      rintro e W2 ⟨rfl, hb2⟩
      have hA2 := keepHeap hb2 hA1
      have hbr2 := hb1'.trans (hb2.mono hb1'.size)
      clear cA1 hPT
      go_wp2_with (fail)
      refine (hUN _).mono ?_
      rintro e W3 ⟨v3, rfl, o3, hb3⟩
      have hA3 := keepHeap hb3 hA2
      have hbr3 := hbr2.trans (hb3.mono hbr2.size)
      obtain ⟨a3, c3, rfl, -⟩ := id o3
      have r3 := o3.rd
      have cA3 := rowCells hA3
      have hrd3 := (hrd.keep hbw).keep hbr3
      clear hUN hUT hpl hA2
      go_wp2_with (fail)
      obtain ⟨d, hd⟩ : ∃ d : Int, (x.length : Int) + 1 = d := ⟨_, rfl⟩
      have hd1 : 1 ≤ d := by omega
      have hd2 : d ≤ 36 := by omega
      have hnz : (d == 0) = false := by simp; omega
      have hnz2 : ¬ d = 0 := by omega
      have hwd : IntKind.i64.wrap d = d := IntWalk.i64_in _ (by omega)
      go_cut [8] from 39 to 129 (fun q wq => ∃ m : Nat, q = .int .i64 (m : Int) ∧ m ≤ x.length ∧ Below W3.heap.size W3 wq)
      case first =>
        have bs_0 : Below W3.heap.size W3 W3.drew := belowDrew W3 1
        refine wp_region_held_drew (S := (fun w' => (∀ j, w'.cell? ⟨wr.heap.size, j, none⟩ = #[Value.slice ax x.length cx][j]?))) (by kernel_rfl) ?_ (fun hHeld => ?_)
        · exact rowCells (keepHeap bs_0 hA3)
        refine take_on (i := 0) (v := ?_) (some 39) rfl (by kernel_rfl) (by kernel_rfl) (by kernel_rfl) rfl (fun _ _ _ h => h) (by rfl) ?_ (by assumption) ?_
        rotate_left
        · intro w hSw; (try dsimp only at hSw); go_simp; (try with_reducible rfl)
        (try simp only [Act.put, List.setIfInBounds_toArray, List.set_cons_zero, List.set_cons_succ])
        refine take_on (i := 1) (v := ?_) (some 40) rfl (by kernel_rfl) (by kernel_rfl) (by kernel_rfl) rfl (fun _ _ _ h => h) (by rfl) ?_ (by assumption) ?_
        rotate_left
        · intro w hSw; (try dsimp only at hSw); go_simp; (try with_reducible rfl)
        (try simp only [Act.put, List.setIfInBounds_toArray, List.set_cons_zero, List.set_cons_succ])
        refine take_on (i := 3) (v := ?_) (some 42) rfl (by kernel_rfl) (by kernel_rfl) (by kernel_rfl) rfl (fun _ _ _ h => h) (by rfl) ?_ (by assumption) ?_
        rotate_left
        · intro w hSw; (try dsimp only at hSw); go_simp; (try with_reducible rfl)
        (try simp only [Act.put, List.setIfInBounds_toArray, List.set_cons_zero, List.set_cons_succ])
        refine take_on (i := 4) (v := ?_) (some 43) rfl (by kernel_rfl) (by kernel_rfl) (by kernel_rfl) rfl (fun _ _ _ h => h) (by rfl) ?_ (by assumption) ?_
        rotate_left
        · intro w hSw; (try dsimp only at hSw); go_simp; (try with_reducible rfl)
        (try simp only [Act.put, List.setIfInBounds_toArray, List.set_cons_zero, List.set_cons_succ])
        refine take_on (i := 5) (v := ?_) (some 44) rfl (by kernel_rfl) (by kernel_rfl) (by kernel_rfl) rfl (fun _ _ _ h => h) (by rfl) ?_ (by assumption) ?_
        rotate_left
        · intro w hSw; (try dsimp only at hSw); go_simp; (try with_reducible rfl)
        (try simp only [Act.put, List.setIfInBounds_toArray, List.set_cons_zero, List.set_cons_succ])
        refine take_on (i := 6) (v := ?_) (some 45) rfl (by kernel_rfl) (by kernel_rfl) (by kernel_rfl) rfl (fun _ _ _ h => h) (by rfl) ?_ (by assumption) ?_
        rotate_left
        · intro w hSw; (try dsimp only at hSw); go_simp; (try with_reducible rfl)
        (try simp only [Act.put, List.setIfInBounds_toArray, List.set_cons_zero, List.set_cons_succ])
        refine wpAnyH_ready (rs := [2]) (by kernel_rfl) (by simp) ?_
        refine AllReadyH.cons rfl (fun K hK => ?_) AllReadyH.nil
        go_simp
        refine (at_any (hrd3.keep bs_0) hl (k : Int) (by omega) (by omega)).mono ?_
        rintro e w_x ⟨y, hy, rfl, rfl⟩
        obtain ⟨m, hm, hm3, hmn, hw2⟩ := rem_small y hx35 hd
        (try go_wp2_with (fail))
        refine hK.out _ _ ?_ (fun hHeld => ?_)
        · exact rowCells (keepHeap bs_0 hA3)
        clear hK K
        (try simp only [Act.put, List.setIfInBounds_toArray, List.set_cons_zero, List.set_cons_succ])
        refine take_on (i := 7) (v := ?_) (some 46) rfl (by kernel_rfl) (by kernel_rfl) (by kernel_rfl) rfl (fun _ _ _ h => h) (by rfl) ?_ (by assumption) ?_
        rotate_left
        · intro w hSw; (try dsimp only at hSw); go_simp; (try with_reducible rfl)
        (try simp only [Act.put, List.setIfInBounds_toArray, List.set_cons_zero, List.set_cons_succ])
        refine take_on (i := 8) (v := ?_) (some 8) rfl (by kernel_rfl) (by kernel_rfl) (by kernel_rfl) rfl (fun _ _ _ h => h) (by rfl) ?_ (by assumption) ?_
        rotate_left
        · intro w hSw; (try dsimp only at hSw); go_simp; (try with_reducible rfl)
        (try simp only [Act.put, List.setIfInBounds_toArray, List.set_cons_zero, List.set_cons_succ])
        refine wpAnyH_done (by kernel_rfl) ?_ _
        go_wp2_with (fail)
        go_meet
        case rel => exact ⟨m, rfl, hmn, bs_0⟩
      obtain ⟨m, rfl, hmn, hb4⟩ := hcut
      obtain ⟨W4, ew⟩ : ∃ W4, W4 = wc := ⟨_, rfl⟩
      subst ew
      clear hnz hnz2 hd hd1 hd2 hwd
      have hA4 := keepHeap hb4 hA3
      have hbr4 := hbr3.trans (hb4.mono hbr3.size)
      obtain ⟨a5, c5, hs5, hc5, r5⟩ := cutW_to ax x.length cx m hmn hlc
      obtain ⟨hx, hhx⟩ : ∃ hx, hx = x.take m := ⟨_, rfl⟩
      have hxl : hx.length = m := by rw [hhx, List.length_take]; omega
      have HHX := Lib.hid hhx
      have HXL := Lib.hid hxl
      have hz := below1 W4 (.cells #[] 3)
      have hO0 : OwnR (W4.alloc (.cells #[] 3)) W4.heap.size (.slice (some ⟨W4.heap.size, 0, none⟩) 0 0) [] := OwnR.made W4 #[] W4.heap.size (Nat.le_refl _) (by unfold maxLen; simp)
      have rc5 := r5 rfl ((rx.keep hbr4).keep hz)
      rw [← hhx] at rc5
      have cA4 := rowCells hA4
      have cA5 := rowCells (keepHeap hz hA4)
      have hz4 := hz.size
      have hmi : (m : Int) ≤ (x.length : Int) := by omega
      have hWH := tb_whole htk hmn
      rw [← hhx] at hWH
      have hAD1 := fun {W : World} {v : Value} (h1 : RdI W v hx) (hc1 : CapI v) (h2 : RdI W (.slice ax x.length cx) x) => addInputs_cap h1 hc1 h2 hcx (by omega) (by omega) 0
      unfold RetAdK at hAD1
      simp only [hWH.1, hWH.2] at hAD1
      clear hhx hxl hWH r5 hc5 cA3
      go_wp2_with (at_builtin; refine app_ints rfl _ _ rfl W4.heap.size _ [] rfl hO0 _ hx rfl rc5 (by have := HXL.out; simp; omega) hz4 ?_; intro v6 w6 hown6 hb6; rw [List.nil_append] at hown6; have rh6 := hown6.own.rd; have ch6 := OwnR.capd hown6; obtain ⟨a6, c6, rfl, -⟩ := id rh6; obtain ⟨W7, hW7, hH7, hb7, hS7⟩ := rows1 w6 #[.slice a6 hx.length c6] 40; have hbr6 : Below wr.heap.size wr w6 := (hbr4.trans (hz.mono hbr4.size)).trans (hb6.mono hbr4.size); have hA6 := (hb6.block wr.heap.size (by have := hb1'.size; have := blockLt hA4; omega)).trans (keepHeap hz hA4); have hA7 := keepHeap hb7 hA6; have cA7 := rowCells hA7; have cH7 := rowCells hH7)
      clear hW7 cA4 cA5 hs5 rc5 hO0
      have hbr7 := hbr6.trans (hb7.mono hbr6.size)
      refine (hAD1 (rh6.keep hb7) ch6 (rx.keep hbr7)).mono ?_
      rintro e W8 ⟨v8, rfl, o8, ch8, hb8⟩
      have r8 := o8.rd
      obtain ⟨a8, c8, rfl, -⟩ := id r8
      have hA8 := keepHeap hb8 hA7
      have hH8 := keepHeap hb8 hH7
      have hbr8 := hbr7.trans (hb8.mono hbr7.size)
      obtain ⟨W9, hW9, hG9, hb9, hS9⟩ := rows1 W8 #[.slice a8 x.length c8] 40
      clear cA7 cH7 hAD1
      obtain ⟨a9, c9, hs9, hc9, rr9⟩ := cutW_from ax x.length cx m hmn hlc
      obtain ⟨ty, hty⟩ : ∃ ty, ty = x.drop m := ⟨_, rfl⟩
      have hAG := tb_again htk hmn
      obtain ⟨dm, hdm⟩ : ∃ dm, dm = x.length - m := ⟨_, rfl⟩
      rw [← hdm] at hs9 hc9 rr9
      have hbr9 := hbr8.trans (hb9.mono hbr8.size)
      have rc9 := rr9 rfl (rx.keep hbr9)
      rw [← hty] at hAG rc9
      have hcc9 : CapI (.slice a9 dm c9) := ⟨_, _, _, rfl, hc9⟩
      have htyl : ty.length ≤ 1048576 := by rw [hty, List.length_drop]; omega
      have hAD2 := fun {W : World} (h1 : RdI W (.slice a8 x.length c8) x) (h2 : RdI W (.slice a9 dm c9) ty) => addInputs_cap h1 ch8 h2 hcc9 (by omega) htyl (m : Int)
      unfold RetAdK at hAD2
      simp only [hAG.1, hAG.2] at hAD2
      have r9 := r8.keep hb9
      have hA9 := keepHeap hb9 hA8
      have hH9 := keepHeap hb9 hH8
      clear rr9 hdm hty hAG
      go_upto_region 12 with (fail)
      go_cut [12, 13] from 61 to 129 (fun q ok wq => ∃ (p' : Nat) (ga : Option Addr) (gc : Nat), q = .pointer (some ⟨p', 0, none⟩) ∧ ok = .bool true ∧ wq.heap[p']? = some (.cells #[.slice ga x.length gc] 40 (0, 0)) ∧ RdI wq (.slice ga x.length gc) x ∧ Below W9.heap.size W9 wq)
      case first =>
        have hdr : W9.drew.heap.size = W9.heap.size := rfl
        have bs_0 : Below W9.heap.size W9 W9.drew := belowDrew W9 1
        refine wp_region_held_drew (S := (fun w' => (∀ j, w'.cell? ⟨wr.heap.size, j, none⟩ = #[Value.slice ax x.length cx][j]?) ∧ (∀ j, w'.cell? ⟨W8.heap.size, j, none⟩ = #[Value.slice a8 x.length c8][j]?))) (by kernel_rfl) ?_ (fun hHeld => ?_)
        · exact ⟨rowCells (keepHeap bs_0 hA9), rowCells (keepHeap bs_0 hG9)⟩
        refine take_on (i := 0) (v := ?_) (some 62) rfl (by kernel_rfl) (by kernel_rfl) (by kernel_rfl) rfl (fun _ _ _ h => h) (by rfl) ?_ (by assumption) ?_
        rotate_left
        · intro w hSw; (try dsimp only at hSw); go_simp; (try with_reducible rfl)
        (try simp only [Act.put, List.setIfInBounds_toArray, List.set_cons_zero, List.set_cons_succ])
        refine take_on (i := 1) (v := ?_) (some 63) rfl (by kernel_rfl) (by kernel_rfl) (by kernel_rfl) rfl (fun _ _ _ h => h) (by rfl) ?_ (by assumption) ?_
        rotate_left
        · intro w hSw; (try dsimp only at hSw); go_simp; (try with_reducible rfl)
        (try simp only [Act.put, List.setIfInBounds_toArray, List.set_cons_zero, List.set_cons_succ])
        refine take_on (i := 2) (v := ?_) (some 64) rfl (by kernel_rfl) (by kernel_rfl) (by kernel_rfl) rfl (fun _ _ _ h => h) (by rfl) ?_ (by assumption) ?_
        rotate_left
        · intro w hSw; (try dsimp only at hSw); go_simp; (try with_reducible rfl)
        (try simp only [Act.put, List.setIfInBounds_toArray, List.set_cons_zero, List.set_cons_succ])
        refine take_on (i := 3) (v := ?_) (some 65) rfl (by kernel_rfl) (by kernel_rfl) (by kernel_rfl) rfl (fun _ _ _ h => h) (by rfl) ?_ (by assumption) ?_
        rotate_left
        · intro w hSw; (try dsimp only at hSw); go_simp; (try with_reducible rfl)
        (try simp only [Act.put, List.setIfInBounds_toArray, List.set_cons_zero, List.set_cons_succ])
        refine take_on (i := 4) (v := ?_) (some 66) rfl (by kernel_rfl) (by kernel_rfl) (by kernel_rfl) rfl (fun _ _ _ h => h) (by rfl) ?_ (by assumption) ?_
        rotate_left
        · intro w hSw; (try dsimp only at hSw); go_simp; (try with_reducible rfl)
        (try simp only [Act.put, List.setIfInBounds_toArray, List.set_cons_zero, List.set_cons_succ])
        refine take_on (i := 5) (v := ?_) (some 67) rfl (by kernel_rfl) (by kernel_rfl) (by kernel_rfl) rfl (fun _ _ _ h => h) (by rfl) ?_ (by assumption) ?_
        rotate_left
        · intro w hSw; (try dsimp only at hSw); go_simp; (try with_reducible rfl)
        (try simp only [Act.put, List.setIfInBounds_toArray, List.set_cons_zero, List.set_cons_succ])
        refine wpAnyH_ready (rs := [6, 10]) (by kernel_rfl) (by simp) ?_
        refine AllReadyH.cons rfl (fun K hK => ?_) (AllReadyH.cons rfl (fun K hK => ?_) AllReadyH.nil)
        · go_simp
          refine (hAD2 (r9.keep bs_0) (rc9.keep bs_0)).mono ?_
          rintro e w_1 ⟨vg, rfl, ow_1, -, hb_1⟩
          have bs_1 := bs_0.trans (hb_1.mono bs_0.size)
          have ow_1 := OwnIn.of ow_1
          obtain ⟨ga, gc, rfl, -⟩ := id ow_1.rd
          (try go_wp2_with (fail))
          have sz_1 := hb_1.size
          refine hK.out _ _ ?_ (fun hHeld => ?_)
          · exact ⟨rowCells (keepHeap bs_1 hA9), rowCells (keepHeap bs_1 hG9)⟩
          clear hK K
          (try simp only [Act.put, List.setIfInBounds_toArray, List.set_cons_zero, List.set_cons_succ])
          refine take_on (i := 7) (v := ?_) (some 61) rfl (by kernel_rfl) (by kernel_rfl) (by kernel_rfl) rfl (fun _ _ _ h => h) (by rfl) ?_ (by assumption) ?_
          rotate_left
          · intro w hSw; (try dsimp only at hSw); go_simp; (try with_reducible rfl)
          (try simp only [Act.put, List.setIfInBounds_toArray, List.set_cons_zero, List.set_cons_succ])
          refine take_on (i := 8) (v := ?_) (some 69) rfl (by kernel_rfl) (by kernel_rfl) (by kernel_rfl) rfl (fun _ _ _ h => h) (by rfl) ?_ (by assumption) ?_
          rotate_left
          · intro w hSw; (try dsimp only at hSw); go_simp; (try with_reducible rfl)
          (try simp only [Act.put, List.setIfInBounds_toArray, List.set_cons_zero, List.set_cons_succ])
          refine take_on (i := 9) (v := ?_) (some 70) rfl (by kernel_rfl) (by kernel_rfl) (by kernel_rfl) rfl (fun _ _ _ h => h) (by rfl) ?_ (by assumption) ?_
          rotate_left
          · intro w hSw; (try dsimp only at hSw); go_simp; (try with_reducible rfl)
          (try simp only [Act.put, List.setIfInBounds_toArray, List.set_cons_zero, List.set_cons_succ])
          refine wpAnyH_ready (rs := [10]) (by kernel_rfl) (by simp) ?_
          refine AllReadyH.cons rfl (fun K hK => ?_) AllReadyH.nil
          go_simp
          obtain ⟨w_2, hw_2, P_2, hb_2⟩ : ∃ W, w_1.alloc (.cells #[.slice none 0 0] 40) = W ∧ W.heap[w_1.heap.size]? = some (.cells #[.slice none 0 0] 40 (0, 0)) ∧ Below w_1.heap.size w_1 W := ⟨_, rfl, heap_alloc_new w_1 _, below1 w_1 _⟩
          try rw [hw_2]
          clear hw_2
          have hp_2 := bs_1.size
          have bs_2 := bs_1.trans (hb_2.mono bs_1.size)
          have ow_2 := ow_1.keep hb_2
          have sz_2 := hb_2.size
          have ltp := (Array.getElem?_eq_some_iff.1 P_2).1
          refine hK.out _ _ ?_ (fun hHeld => ?_)
          · exact ⟨rowCells (keepHeap bs_2 hA9), rowCells (keepHeap bs_2 hG9)⟩
          clear hK K
          (try simp only [Act.put, List.setIfInBounds_toArray, List.set_cons_zero, List.set_cons_succ])
          refine wpAnyH_ready (rs := [11]) (by kernel_rfl) (by simp) ?_
          refine AllReadyH.cons rfl (fun K hK => ?_) AllReadyH.nil
          have cn := rowCells P_2
          have fn := fun j => frozenHeap P_2 j
          go_simp
          have F_3 := set_farB w_2 (w_1.heap.size) 0 (.slice ga x.length gc)
          have P_3 := setHeap (k := 0) (v := .slice ga x.length gc) P_2
          have ow_3 := ow_2.apart2 F_3 (by omega)
          have bs_3 := Below.setCell (p := ⟨w_1.heap.size, 0, none⟩) bs_2 (by show _ ≤ w_1.heap.size; omega) (.slice ga x.length gc)
          have hzz : (w_2.setCell ⟨w_1.heap.size, 0, none⟩ (.slice ga x.length gc)).heap.size = w_2.heap.size := by simp
          obtain ⟨w_3, hw_3⟩ : ∃ W, w_2.setCell ⟨w_1.heap.size, 0, none⟩ (.slice ga x.length gc) = W := ⟨_, rfl⟩
          rw [hw_3] at P_3 bs_3 ow_3 hzz
          try rw [hw_3]
          clear hw_3 cn fn F_3
          refine hK.out _ _ ?_ (fun hHeld => ?_)
          · exact ⟨rowCells (keepHeap bs_3 hA9), rowCells (keepHeap bs_3 hG9)⟩
          clear hK K
          (try simp only [Act.put, List.setIfInBounds_toArray, List.set_cons_zero, List.set_cons_succ])
          refine take_on (i := 12) (v := ?_) (some 13) rfl (by kernel_rfl) (by kernel_rfl) (by kernel_rfl) rfl (fun _ _ _ h => h) (by rfl) ?_ (by assumption) ?_
          rotate_left
          · intro w hSw; (try dsimp only at hSw); go_simp; (try with_reducible rfl)
          (try simp only [Act.put, List.setIfInBounds_toArray, List.set_cons_zero, List.set_cons_succ])
          refine wpAnyH_done (by kernel_rfl) ?_ _
          go_wp2_with (fail)
          have hbs := bs_3.size
          go_meet
          case rel => exact ⟨_, ga, gc, rfl, rfl, P_3, ow_3.rd, bs_3⟩
        · go_simp
          obtain ⟨w_1, hw_1, P_1, hb_1⟩ : ∃ W, (W9.alloc (.cells #[.slice none 0 0] 40)).drew = W ∧ W.heap[W9.heap.size]? = some (.cells #[.slice none 0 0] 40 (0, 0)) ∧ Below W9.drew.heap.size W9.drew W := ⟨_, rfl, heap_alloc_new W9.drew _, below1 W9.drew _⟩
          try rw [hw_1]
          clear hw_1
          have hp_1 := bs_0.size
          have bs_1 := bs_0.trans (hb_1.mono bs_0.size)
          have sz_1 := hb_1.size
          have ltp := (Array.getElem?_eq_some_iff.1 P_1).1
          refine hK.out _ _ ?_ (fun hHeld => ?_)
          · exact ⟨rowCells (keepHeap bs_1 hA9), rowCells (keepHeap bs_1 hG9)⟩
          clear hK K
          (try simp only [Act.put, List.setIfInBounds_toArray, List.set_cons_zero, List.set_cons_succ])
          refine wpAnyH_ready (rs := [6]) (by kernel_rfl) (by simp) ?_
          refine AllReadyH.cons rfl (fun K hK => ?_) AllReadyH.nil
          go_simp
          refine (hAD2 (r9.keep bs_1) (rc9.keep bs_1)).mono ?_
          rintro e w_2 ⟨vg, rfl, ow_2, -, hb_2⟩
          have bs_2 := bs_1.trans (hb_2.mono bs_1.size)
          have P_2 := keepHeap hb_2 P_1
          have ow_2 := OwnIn.of ow_2
          obtain ⟨ga, gc, rfl, -⟩ := id ow_2.rd
          (try go_wp2_with (fail))
          have sz_2 := hb_2.size
          refine hK.out _ _ ?_ (fun hHeld => ?_)
          · exact ⟨rowCells (keepHeap bs_2 hA9), rowCells (keepHeap bs_2 hG9)⟩
          clear hK K
          (try simp only [Act.put, List.setIfInBounds_toArray, List.set_cons_zero, List.set_cons_succ])
          refine take_on (i := 7) (v := ?_) (some 61) rfl (by kernel_rfl) (by kernel_rfl) (by kernel_rfl) rfl (fun _ _ _ h => h) (by rfl) ?_ (by assumption) ?_
          rotate_left
          · intro w hSw; (try dsimp only at hSw); go_simp; (try with_reducible rfl)
          (try simp only [Act.put, List.setIfInBounds_toArray, List.set_cons_zero, List.set_cons_succ])
          refine take_on (i := 8) (v := ?_) (some 69) rfl (by kernel_rfl) (by kernel_rfl) (by kernel_rfl) rfl (fun _ _ _ h => h) (by rfl) ?_ (by assumption) ?_
          rotate_left
          · intro w hSw; (try dsimp only at hSw); go_simp; (try with_reducible rfl)
          (try simp only [Act.put, List.setIfInBounds_toArray, List.set_cons_zero, List.set_cons_succ])
          refine take_on (i := 9) (v := ?_) (some 70) rfl (by kernel_rfl) (by kernel_rfl) (by kernel_rfl) rfl (fun _ _ _ h => h) (by rfl) ?_ (by assumption) ?_
          rotate_left
          · intro w hSw; (try dsimp only at hSw); go_simp; (try with_reducible rfl)
          (try simp only [Act.put, List.setIfInBounds_toArray, List.set_cons_zero, List.set_cons_succ])
          refine wpAnyH_ready (rs := [11]) (by kernel_rfl) (by simp) ?_
          refine AllReadyH.cons rfl (fun K hK => ?_) AllReadyH.nil
          have cn := rowCells P_2
          have fn := fun j => frozenHeap P_2 j
          go_simp
          have F_3 := set_farB w_2 (W9.heap.size) 0 (.slice ga x.length gc)
          have P_3 := setHeap (k := 0) (v := .slice ga x.length gc) P_2
          have ow_3 := ow_2.apart2 F_3 (by omega)
          have bs_3 := Below.setCell (p := ⟨W9.heap.size, 0, none⟩) bs_2 (by show _ ≤ W9.heap.size; omega) (.slice ga x.length gc)
          have hzz : (w_2.setCell ⟨W9.heap.size, 0, none⟩ (.slice ga x.length gc)).heap.size = w_2.heap.size := by simp
          obtain ⟨w_3, hw_3⟩ : ∃ W, w_2.setCell ⟨W9.heap.size, 0, none⟩ (.slice ga x.length gc) = W := ⟨_, rfl⟩
          rw [hw_3] at P_3 bs_3 ow_3 hzz
          try rw [hw_3]
          clear hw_3 cn fn F_3
          refine hK.out _ _ ?_ (fun hHeld => ?_)
          · exact ⟨rowCells (keepHeap bs_3 hA9), rowCells (keepHeap bs_3 hG9)⟩
          clear hK K
          (try simp only [Act.put, List.setIfInBounds_toArray, List.set_cons_zero, List.set_cons_succ])
          refine take_on (i := 12) (v := ?_) (some 13) rfl (by kernel_rfl) (by kernel_rfl) (by kernel_rfl) rfl (fun _ _ _ h => h) (by rfl) ?_ (by assumption) ?_
          rotate_left
          · intro w hSw; (try dsimp only at hSw); go_simp; (try with_reducible rfl)
          (try simp only [Act.put, List.setIfInBounds_toArray, List.set_cons_zero, List.set_cons_succ])
          refine wpAnyH_done (by kernel_rfl) ?_ _
          go_wp2_with (fail)
          have hbs := bs_3.size
          go_meet
          case rel => exact ⟨_, ga, gc, rfl, rfl, P_3, ow_3.rd, bs_3⟩
      obtain ⟨p12, ga, gc, rfl, rfl, hP10, r10, hb10⟩ := hcut
      obtain ⟨W10, ew⟩ : ∃ W10, W10 = wc := ⟨_, rfl⟩
      subst ew
      have hA10 := keepHeap hb10 hA9
      have hH10 := keepHeap hb10 hH9
      have hG10 := keepHeap hb10 hG9
      have hbr10 := hbr9.trans (hb10.mono hbr9.size)
      have hGP := tb_gap hmn
      rw [← HHX.out] at hGP
      have hAD3 := fun {W : World} {u : Value} (h1 : RdI W (.slice a6 hx.length c6) hx) (h2 : RdI W u [0]) (h3 : CapI u) => addInputs_cap h1 ch6 h2 h3 (by have := HXL.out; omega) (by simp) ((m : Int) + 1)
      unfold RetAdK at hAD3
      simp only [hGP, addT_no (hGP _)] at hAD3
      have hrh10 := rh6.keep (hb7.trans ((hb8.mono hb7.size).trans ((hb9.mono (Nat.le_trans hb7.size hb8.size)).trans (hb10.mono (Nat.le_trans (Nat.le_trans hb7.size hb8.size) hb9.size)))))
      have hz10 := below1 W10 (.cells #[.int .i64 0] 3)
      have cH10 := rowCells hH10
      have cH10b := rowCells (keepHeap hz10 hH10)
      have hmi1 : (m : Int) + 1 ≤ 36 := by omega
      clear hAD2 hs9 hGP
      go_wp2_with (fail)
      refine (hAD3 (hrh10.keep hz10) (rd_one W10 0 _) ⟨_, _, _, rfl, Nat.le_refl _⟩).mono ?_
      rintro e W12 ⟨v12, rfl, o12, -, hb12⟩
      obtain ⟨a12, c12, rfl, -⟩ := id o12.rd
      obtain ⟨W13, hW13, hQ13, hb13, hS13⟩ := rows1 W12 #[.slice a12 hx.length c12] 40
      have hb1013 := hz10.trans ((hb12.mono hz10.size).trans (hb13.mono (Nat.le_trans hz10.size hb12.size)))
      have hA13 := keepHeap hb1013 hA10
      have hG13 := keepHeap hb1013 hG10
      have hP13 := keepHeap hb1013 hP10
      have hbr13 := hbr10.trans (hb1013.mono hbr10.size)
      have cA13 := rowCells hA13
      have hST := fun {W : World} {v u : Value} (h1 : RdI W v x) (h2 : RdI W u x) => sameTrack_impl h1 h2 (by omega) (by omega)
      simp only [show sameB x x = true by unfold sameB; simp] at hST
      have r313 := r3.keep (hb4.trans ((hz.mono hb4.size).trans ((hb6.mono hb4.size).trans ((hb7.mono (by have := hb4.size; have := hb6.size; have := hz.size; omega)).trans ((hb8.mono (by have := hb4.size; have := hb6.size; have := hz.size; have := hb7.size; omega)).trans ((hb9.mono (by have := hb4.size; have := hb6.size; have := hz.size; have := hb7.size; have := hb8.size; omega)).trans ((hb10.mono (by have := hb4.size; have := hb6.size; have := hz.size; have := hb7.size; have := hb8.size; have := hb9.size; omega)).trans (hb1013.mono (by have := hb4.size; have := hb6.size; have := hz.size; have := hb7.size; have := hb8.size; have := hb9.size; have := hb10.size; omega))))))))) 
      have rx13 := rx.keep hbr13
      have r813 := (r9.keep hb10).keep hb1013
      have r1013 := r10.keep hb1013
      clear cH10 cH10b hAD3
      go_wp2_with (fail)
      refine (sameInts_same r313 rx13 (by omega)).mono ?_
      rintro e W14 ⟨rfl, n14, hW14⟩
      have hb14 : Below W13.heap.size W13 W14 := by rw [hW14]; exact belowDrew _ _
      clear hW14 cA13
      have hA14 := keepHeap hb14 hA13
      have hG14 := keepHeap hb14 hG13
      have hP14 := keepHeap hb14 hP13
      have cA14 := rowCells hA14
      have cG14 := rowCells hG14
      go_wp2_with (fail)
      refine (hST (r813.keep hb14) (rx13.keep hb14)).mono ?_
      rintro e W15 ⟨rfl, hb15⟩
      have hA15 := keepHeap hb15 hA14
      have hP15 := keepHeap hb15 hP14
      have cA15 := rowCells hA15
      have cP15 := rowCells hP15
      clear cA14 cG14
      go_wp2_with (fail)
      refine (hST ((r1013.keep hb14).keep hb15) ((rx13.keep hb14).keep hb15)).mono ?_
      rintro e W16 ⟨rfl, hb16⟩
      have hA16 := keepHeap hb16 hA15
      have hbr16 := hbr13.trans ((hb14.mono hbr13.size).trans ((hb15.mono (Nat.le_trans hbr13.size hb14.size)).trans (hb16.mono (Nat.le_trans (Nat.le_trans hbr13.size hb14.size) hb15.size))))
      clear cA15 cP15
      by_cases hm0 : 0 < m
      · have hm0' : (0 : Int) < (m : Int) := by omega
        obtain ⟨p, hp⟩ : ∃ p, p + 1 = m := ⟨m - 1, by omega⟩
        have hpx : p < x.length := by omega
        have rx16 := ((rx13.keep hb14).keep hb15).keep hb16
        obtain ⟨ax', cx', e9, hc9'⟩ := id rx16
        obtain ⟨rfl, -, -⟩ := Value.slice.inj e9
        obtain ⟨bx, ox, rfl, hcell⟩ := hc9'.resolve_left (by intro e; rw [e] at hpx; simp at hpx)
        have crp := hcell p hpx
        have hltp := World.block_lt_of_cell? W16 _ crp
        have hvr := (trkB_facts htk).2 p hpx
        have hWR0 := fun (y : Int) (h : y ≠ x[p]) => tb_wrong hpx h
        generalize x[p] = v at crp hvr hWR0
        obtain ⟨z, ez, ez', hzv, hzr⟩ : ∃ z : Int, (v + 1) % 16 = z ∧ (v + 1).tmod 16 = z ∧ z ≠ v ∧ (0 ≤ z ∧ z ≤ 15) := ⟨(v + 1) % 16, rfl, Int.tmod_eq_emod_of_nonneg (by omega), by omega, by omega⟩
        have hWR := hWR0 z hzv
        have hAD4 := fun {W : World} {g : Nat} (h1 : RdI W (.slice (some ⟨bx, ox, none⟩) x.length cx) x) (h2 : RdI W (.slice (some ⟨g, 0, none⟩) 1 1) [z]) => addInputs_cap h1 hcx h2 ⟨_, _, _, rfl, Nat.le_refl _⟩ (by omega) (by simp) (p : Int)
        unfold RetAdK at hAD4
        simp only [hWR, addT_no hWR] at hAD4
        have hpi : (p : Int) < (x.length : Int) := by omega
        have uv : IntKind.i64.wrap (v + 1) = v + 1 := IntWalk.i64_in _ (by omega)
        have uz : IntKind.i64.wrap z = z := IntWalk.i64_in _ (by omega)
        have um : IntKind.i64.wrap ((m : Int) - 1) = (p : Int) := by rw [show (m : Int) - 1 = (p : Int) by omega]; exact IntWalk.i64_in _ (by omega)
        clear hp hcell hWR hWR0 hzv e9 hc9'
        go_upto_region 17 with (fail)
        go_cut [16, 17] from 113 to 129 (fun q ok wq => ∃ p' : Nat, q = .pointer (some ⟨p', 0, none⟩) ∧ ok = .bool false ∧ Below W16.heap.size W16 wq)
        case first =>
          have hdr : W16.drew.heap.size = W16.heap.size := rfl
          have bs_0 : Below W16.heap.size W16 W16.drew := belowDrew W16 1
          refine wp_region_held_drew (S := (fun w' => (∀ j, w'.cell? ⟨wr.heap.size, j, none⟩ = #[Value.slice (some ⟨bx, ox, none⟩) x.length cx][j]?) ∧ w'.cell? ⟨bx, ox + p, none⟩ = some (.int .i64 v))) (by kernel_rfl) ?_ (fun hHeld => ?_)
          · exact ⟨rowCells (keepHeap bs_0 hA16), (bs_0.cell hltp).trans crp⟩
          refine take_on (i := 0) (v := ?_) (some 114) rfl (by kernel_rfl) (by kernel_rfl) (by kernel_rfl) rfl (fun _ _ _ h => h) (by rfl) ?_ (by assumption) ?_
          rotate_left
          · intro w hSw; (try dsimp only at hSw); go_simp; (try with_reducible rfl)
          (try simp only [Act.put, List.setIfInBounds_toArray, List.set_cons_zero, List.set_cons_succ])
          refine take_on (i := 1) (v := ?_) (some 115) rfl (by kernel_rfl) (by kernel_rfl) (by kernel_rfl) rfl (fun _ _ _ h => h) (by rfl) ?_ (by assumption) ?_
          rotate_left
          · intro w hSw; (try dsimp only at hSw); go_simp; (try with_reducible rfl)
          (try simp only [Act.put, List.setIfInBounds_toArray, List.set_cons_zero, List.set_cons_succ])
          refine take_on (i := 2) (v := ?_) (some 116) rfl (by kernel_rfl) (by kernel_rfl) (by kernel_rfl) rfl (fun _ _ _ h => h) (by rfl) ?_ (by assumption) ?_
          rotate_left
          · intro w hSw; (try dsimp only at hSw); go_simp; (try with_reducible rfl)
          (try simp only [Act.put, List.setIfInBounds_toArray, List.set_cons_zero, List.set_cons_succ])
          refine take_on (i := 3) (v := ?_) (some 117) rfl (by kernel_rfl) (by kernel_rfl) (by kernel_rfl) rfl (fun _ _ _ h => h) (by rfl) ?_ (by assumption) ?_
          rotate_left
          · intro w hSw; (try dsimp only at hSw); go_simp; (try with_reducible rfl)
          (try simp only [Act.put, List.setIfInBounds_toArray, List.set_cons_zero, List.set_cons_succ])
          refine take_on (i := 4) (v := ?_) (some 118) rfl (by kernel_rfl) (by kernel_rfl) (by kernel_rfl) rfl (fun _ _ _ h => h) (by rfl) ?_ (by assumption) ?_
          rotate_left
          · intro w hSw; (try dsimp only at hSw); go_simp; (try with_reducible rfl)
          (try simp only [Act.put, List.setIfInBounds_toArray, List.set_cons_zero, List.set_cons_succ])
          refine take_on (i := 5) (v := ?_) (some 119) rfl (by kernel_rfl) (by kernel_rfl) (by kernel_rfl) rfl (fun _ _ _ h => h) (by rfl) ?_ (by assumption) ?_
          rotate_left
          · intro w hSw; (try dsimp only at hSw); go_simp; (try with_reducible rfl)
          (try simp only [Act.put, List.setIfInBounds_toArray, List.set_cons_zero, List.set_cons_succ])
          refine take_on (i := 6) (v := ?_) (some 120) rfl (by kernel_rfl) (by kernel_rfl) (by kernel_rfl) rfl (fun _ _ _ h => h) (by rfl) ?_ (by assumption) ?_
          rotate_left
          · intro w hSw; (try dsimp only at hSw); go_simp; (try with_reducible rfl)
          (try simp only [Act.put, List.setIfInBounds_toArray, List.set_cons_zero, List.set_cons_succ])
          refine take_on (i := 7) (v := ?_) (some 121) rfl (by kernel_rfl) (by kernel_rfl) (by kernel_rfl) rfl (fun _ _ _ h => h) (by rfl) ?_ (by assumption) ?_
          rotate_left
          · intro w hSw; (try dsimp only at hSw); go_simp; (try with_reducible rfl)
          (try simp only [Act.put, List.setIfInBounds_toArray, List.set_cons_zero, List.set_cons_succ])
          refine take_on (i := 8) (v := ?_) (some 122) rfl (by kernel_rfl) (by kernel_rfl) (by kernel_rfl) rfl (fun _ _ _ h => h) (by rfl) ?_ (by assumption) ?_
          rotate_left
          · intro w hSw; (try dsimp only at hSw); go_simp; (try with_reducible rfl)
          (try simp only [Act.put, List.setIfInBounds_toArray, List.set_cons_zero, List.set_cons_succ])
          refine take_on (i := 9) (v := ?_) (some 123) rfl (by kernel_rfl) (by kernel_rfl) (by kernel_rfl) rfl (fun _ _ _ h => h) (by rfl) ?_ (by assumption) ?_
          rotate_left
          · intro w hSw; (try dsimp only at hSw); go_simp; (try with_reducible rfl)
          (try simp only [Act.put, List.setIfInBounds_toArray, List.set_cons_zero, List.set_cons_succ])
          refine take_on (i := 10) (v := ?_) (some 124) rfl (by kernel_rfl) (by kernel_rfl) (by kernel_rfl) rfl (fun _ _ _ h => h) (by rfl) ?_ (by assumption) ?_
          rotate_left
          · intro w hSw; (try dsimp only at hSw); go_simp; (try with_reducible rfl)
          (try simp only [Act.put, List.setIfInBounds_toArray, List.set_cons_zero, List.set_cons_succ])
          refine wpAnyH_ready (rs := [11, 16]) (by kernel_rfl) (by simp) ?_
          refine AllReadyH.cons rfl (fun K hK => ?_) (AllReadyH.cons rfl (fun K hK => ?_) AllReadyH.nil)
          · go_simp
            obtain ⟨w_1, hw_1, G_1, hb_1⟩ : ∃ W, (W16.alloc (.cells #[.int .i64 z] 3)).drew = W ∧ W.heap[W16.heap.size]? = some (.cells #[.int .i64 z] 3 (0, 0)) ∧ Below W16.drew.heap.size W16.drew W := ⟨_, rfl, heap_alloc_new W16.drew _, below1 W16.drew _⟩
            try rw [hw_1]
            clear hw_1
            have bs_1 := bs_0.trans (hb_1.mono bs_0.size)
            have sz_1 := hb_1.size
            refine hK.out _ _ ?_ (fun hHeld => ?_)
            · exact ⟨rowCells (keepHeap bs_1 hA16), (bs_1.cell hltp).trans crp⟩
            clear hK K
            (try simp only [Act.put, List.setIfInBounds_toArray, List.set_cons_zero, List.set_cons_succ])
            refine wpAnyH_ready (rs := [12, 16]) (by kernel_rfl) (by simp) ?_
            refine AllReadyH.cons rfl (fun K hK => ?_) (AllReadyH.cons rfl (fun K hK => ?_) AllReadyH.nil)
            · go_simp
              refine (hAD4 (rx16.keep bs_1) (rd_heap1 G_1)).mono ?_
              rintro e w_2 ⟨vg, rfl, ow_2, -, hb_2⟩
              have bs_2 := bs_1.trans (hb_2.mono bs_1.size)
              have G_2 := keepHeap hb_2 G_1
              have ow_2 := OwnIn.of ow_2
              obtain ⟨ga, gc, rfl, -⟩ := id ow_2.rd
              (try go_wp2_with (fail))
              have sz_2 := hb_2.size
              refine hK.out _ _ ?_ (fun hHeld => ?_)
              · exact ⟨rowCells (keepHeap bs_2 hA16), (bs_2.cell hltp).trans crp⟩
              clear hK K
              (try simp only [Act.put, List.setIfInBounds_toArray, List.set_cons_zero, List.set_cons_succ])
              refine take_on (i := 13) (v := ?_) (some 113) rfl (by kernel_rfl) (by kernel_rfl) (by kernel_rfl) rfl (fun _ _ _ h => h) (by rfl) ?_ (by assumption) ?_
              rotate_left
              · intro w hSw; (try dsimp only at hSw); go_simp; (try with_reducible rfl)
              (try simp only [Act.put, List.setIfInBounds_toArray, List.set_cons_zero, List.set_cons_succ])
              refine take_on (i := 14) (v := ?_) (some 127) rfl (by kernel_rfl) (by kernel_rfl) (by kernel_rfl) rfl (fun _ _ _ h => h) (by rfl) ?_ (by assumption) ?_
              rotate_left
              · intro w hSw; (try dsimp only at hSw); go_simp; (try with_reducible rfl)
              (try simp only [Act.put, List.setIfInBounds_toArray, List.set_cons_zero, List.set_cons_succ])
              refine take_on (i := 15) (v := ?_) (some 128) rfl (by kernel_rfl) (by kernel_rfl) (by kernel_rfl) rfl (fun _ _ _ h => h) (by rfl) ?_ (by assumption) ?_
              rotate_left
              · intro w hSw; (try dsimp only at hSw); go_simp; (try with_reducible rfl)
              (try simp only [Act.put, List.setIfInBounds_toArray, List.set_cons_zero, List.set_cons_succ])
              refine wpAnyH_ready (rs := [16]) (by kernel_rfl) (by simp) ?_
              refine AllReadyH.cons rfl (fun K hK => ?_) AllReadyH.nil
              go_simp
              obtain ⟨w_3, hw_3, P_3, hb_3⟩ : ∃ W, w_2.alloc (.cells #[.slice none 0 0] 40) = W ∧ W.heap[w_2.heap.size]? = some (.cells #[.slice none 0 0] 40 (0, 0)) ∧ Below w_2.heap.size w_2 W := ⟨_, rfl, heap_alloc_new w_2 _, below1 w_2 _⟩
              try rw [hw_3]
              clear hw_3
              have hp_3 := bs_2.size
              have bs_3 := bs_2.trans (hb_3.mono bs_2.size)
              have G_3 := keepHeap hb_3 G_2
              have ow_3 := ow_2.keep hb_3
              have sz_3 := hb_3.size
              have ltp := (Array.getElem?_eq_some_iff.1 P_3).1
              refine hK.out _ _ ?_ (fun hHeld => ?_)
              · exact ⟨rowCells (keepHeap bs_3 hA16), (bs_3.cell hltp).trans crp⟩
              clear hK K
              (try simp only [Act.put, List.setIfInBounds_toArray, List.set_cons_zero, List.set_cons_succ])
              refine wpAnyH_ready (rs := [17]) (by kernel_rfl) (by simp) ?_
              refine AllReadyH.cons rfl (fun K hK => ?_) AllReadyH.nil
              have cn := rowCells P_3
              have fn := fun j => frozenHeap P_3 j
              go_simp
              have F_4 := set_farB w_3 (w_2.heap.size) 0 (.slice ga x.length gc)
              have P_4 := setHeap (k := 0) (v := .slice ga x.length gc) P_3
              have ow_4 := ow_3.apart2 F_4 (by omega)
              have bs_4 := Below.setCell (p := ⟨w_2.heap.size, 0, none⟩) bs_3 (by show _ ≤ w_2.heap.size; omega) (.slice ga x.length gc)
              have hzz : (w_3.setCell ⟨w_2.heap.size, 0, none⟩ (.slice ga x.length gc)).heap.size = w_3.heap.size := by simp
              obtain ⟨w_4, hw_4⟩ : ∃ W, w_3.setCell ⟨w_2.heap.size, 0, none⟩ (.slice ga x.length gc) = W := ⟨_, rfl⟩
              rw [hw_4] at P_4 bs_4 ow_4 hzz
              try rw [hw_4]
              clear hw_4 cn fn F_4
              refine hK.out _ _ ?_ (fun hHeld => ?_)
              · exact ⟨rowCells (keepHeap bs_4 hA16), (bs_4.cell hltp).trans crp⟩
              clear hK K
              (try simp only [Act.put, List.setIfInBounds_toArray, List.set_cons_zero, List.set_cons_succ])
              refine take_on (i := 18) (v := ?_) (some 17) rfl (by kernel_rfl) (by kernel_rfl) (by kernel_rfl) rfl (fun _ _ _ h => h) (by rfl) ?_ (by assumption) ?_
              rotate_left
              · intro w hSw; (try dsimp only at hSw); go_simp; (try with_reducible rfl)
              (try simp only [Act.put, List.setIfInBounds_toArray, List.set_cons_zero, List.set_cons_succ])
              refine wpAnyH_done (by kernel_rfl) ?_ _
              go_wp2_with (fail)
              have hbs := bs_4.size
              go_meet
              case rel => exact ⟨_, rfl, rfl, bs_4⟩
            · go_simp
              obtain ⟨w_2, hw_2, P_2, hb_2⟩ : ∃ W, w_1.alloc (.cells #[.slice none 0 0] 40) = W ∧ W.heap[w_1.heap.size]? = some (.cells #[.slice none 0 0] 40 (0, 0)) ∧ Below w_1.heap.size w_1 W := ⟨_, rfl, heap_alloc_new w_1 _, below1 w_1 _⟩
              try rw [hw_2]
              clear hw_2
              have hp_2 := bs_1.size
              have bs_2 := bs_1.trans (hb_2.mono bs_1.size)
              have G_2 := keepHeap hb_2 G_1
              have sz_2 := hb_2.size
              have ltp := (Array.getElem?_eq_some_iff.1 P_2).1
              refine hK.out _ _ ?_ (fun hHeld => ?_)
              · exact ⟨rowCells (keepHeap bs_2 hA16), (bs_2.cell hltp).trans crp⟩
              clear hK K
              (try simp only [Act.put, List.setIfInBounds_toArray, List.set_cons_zero, List.set_cons_succ])
              refine wpAnyH_ready (rs := [12]) (by kernel_rfl) (by simp) ?_
              refine AllReadyH.cons rfl (fun K hK => ?_) AllReadyH.nil
              go_simp
              refine (hAD4 (rx16.keep bs_2) (rd_heap1 G_2)).mono ?_
              rintro e w_3 ⟨vg, rfl, ow_3, -, hb_3⟩
              have bs_3 := bs_2.trans (hb_3.mono bs_2.size)
              have G_3 := keepHeap hb_3 G_2
              have P_3 := keepHeap hb_3 P_2
              have ow_3 := OwnIn.of ow_3
              obtain ⟨ga, gc, rfl, -⟩ := id ow_3.rd
              (try go_wp2_with (fail))
              have sz_3 := hb_3.size
              refine hK.out _ _ ?_ (fun hHeld => ?_)
              · exact ⟨rowCells (keepHeap bs_3 hA16), (bs_3.cell hltp).trans crp⟩
              clear hK K
              (try simp only [Act.put, List.setIfInBounds_toArray, List.set_cons_zero, List.set_cons_succ])
              refine take_on (i := 13) (v := ?_) (some 113) rfl (by kernel_rfl) (by kernel_rfl) (by kernel_rfl) rfl (fun _ _ _ h => h) (by rfl) ?_ (by assumption) ?_
              rotate_left
              · intro w hSw; (try dsimp only at hSw); go_simp; (try with_reducible rfl)
              (try simp only [Act.put, List.setIfInBounds_toArray, List.set_cons_zero, List.set_cons_succ])
              refine take_on (i := 14) (v := ?_) (some 127) rfl (by kernel_rfl) (by kernel_rfl) (by kernel_rfl) rfl (fun _ _ _ h => h) (by rfl) ?_ (by assumption) ?_
              rotate_left
              · intro w hSw; (try dsimp only at hSw); go_simp; (try with_reducible rfl)
              (try simp only [Act.put, List.setIfInBounds_toArray, List.set_cons_zero, List.set_cons_succ])
              refine take_on (i := 15) (v := ?_) (some 128) rfl (by kernel_rfl) (by kernel_rfl) (by kernel_rfl) rfl (fun _ _ _ h => h) (by rfl) ?_ (by assumption) ?_
              rotate_left
              · intro w hSw; (try dsimp only at hSw); go_simp; (try with_reducible rfl)
              (try simp only [Act.put, List.setIfInBounds_toArray, List.set_cons_zero, List.set_cons_succ])
              refine wpAnyH_ready (rs := [17]) (by kernel_rfl) (by simp) ?_
              refine AllReadyH.cons rfl (fun K hK => ?_) AllReadyH.nil
              have cn := rowCells P_3
              have fn := fun j => frozenHeap P_3 j
              go_simp
              have F_4 := set_farB w_3 (w_1.heap.size) 0 (.slice ga x.length gc)
              have P_4 := setHeap (k := 0) (v := .slice ga x.length gc) P_3
              have ow_4 := ow_3.apart2 F_4 (by omega)
              have bs_4 := Below.setCell (p := ⟨w_1.heap.size, 0, none⟩) bs_3 (by show _ ≤ w_1.heap.size; omega) (.slice ga x.length gc)
              have hzz : (w_3.setCell ⟨w_1.heap.size, 0, none⟩ (.slice ga x.length gc)).heap.size = w_3.heap.size := by simp
              obtain ⟨w_4, hw_4⟩ : ∃ W, w_3.setCell ⟨w_1.heap.size, 0, none⟩ (.slice ga x.length gc) = W := ⟨_, rfl⟩
              rw [hw_4] at P_4 bs_4 ow_4 hzz
              try rw [hw_4]
              clear hw_4 cn fn F_4
              refine hK.out _ _ ?_ (fun hHeld => ?_)
              · exact ⟨rowCells (keepHeap bs_4 hA16), (bs_4.cell hltp).trans crp⟩
              clear hK K
              (try simp only [Act.put, List.setIfInBounds_toArray, List.set_cons_zero, List.set_cons_succ])
              refine take_on (i := 18) (v := ?_) (some 17) rfl (by kernel_rfl) (by kernel_rfl) (by kernel_rfl) rfl (fun _ _ _ h => h) (by rfl) ?_ (by assumption) ?_
              rotate_left
              · intro w hSw; (try dsimp only at hSw); go_simp; (try with_reducible rfl)
              (try simp only [Act.put, List.setIfInBounds_toArray, List.set_cons_zero, List.set_cons_succ])
              refine wpAnyH_done (by kernel_rfl) ?_ _
              go_wp2_with (fail)
              have hbs := bs_4.size
              go_meet
              case rel => exact ⟨_, rfl, rfl, bs_4⟩
          · go_simp
            obtain ⟨w_1, hw_1, P_1, hb_1⟩ : ∃ W, (W16.alloc (.cells #[.slice none 0 0] 40)).drew = W ∧ W.heap[W16.heap.size]? = some (.cells #[.slice none 0 0] 40 (0, 0)) ∧ Below W16.drew.heap.size W16.drew W := ⟨_, rfl, heap_alloc_new W16.drew _, below1 W16.drew _⟩
            try rw [hw_1]
            clear hw_1
            have hp_1 := bs_0.size
            have bs_1 := bs_0.trans (hb_1.mono bs_0.size)
            have sz_1 := hb_1.size
            have ltp := (Array.getElem?_eq_some_iff.1 P_1).1
            refine hK.out _ _ ?_ (fun hHeld => ?_)
            · exact ⟨rowCells (keepHeap bs_1 hA16), (bs_1.cell hltp).trans crp⟩
            clear hK K
            (try simp only [Act.put, List.setIfInBounds_toArray, List.set_cons_zero, List.set_cons_succ])
            refine wpAnyH_ready (rs := [11]) (by kernel_rfl) (by simp) ?_
            refine AllReadyH.cons rfl (fun K hK => ?_) AllReadyH.nil
            go_simp
            obtain ⟨w_2, hw_2, G_2, hb_2⟩ : ∃ W, w_1.alloc (.cells #[.int .i64 z] 3) = W ∧ W.heap[w_1.heap.size]? = some (.cells #[.int .i64 z] 3 (0, 0)) ∧ Below w_1.heap.size w_1 W := ⟨_, rfl, heap_alloc_new w_1 _, below1 w_1 _⟩
            try rw [hw_2]
            clear hw_2
            have bs_2 := bs_1.trans (hb_2.mono bs_1.size)
            have P_2 := keepHeap hb_2 P_1
            have sz_2 := hb_2.size
            refine hK.out _ _ ?_ (fun hHeld => ?_)
            · exact ⟨rowCells (keepHeap bs_2 hA16), (bs_2.cell hltp).trans crp⟩
            clear hK K
            (try simp only [Act.put, List.setIfInBounds_toArray, List.set_cons_zero, List.set_cons_succ])
            refine wpAnyH_ready (rs := [12]) (by kernel_rfl) (by simp) ?_
            refine AllReadyH.cons rfl (fun K hK => ?_) AllReadyH.nil
            go_simp
            refine (hAD4 (rx16.keep bs_2) (rd_heap1 G_2)).mono ?_
            rintro e w_3 ⟨vg, rfl, ow_3, -, hb_3⟩
            have bs_3 := bs_2.trans (hb_3.mono bs_2.size)
            have P_3 := keepHeap hb_3 P_2
            have G_3 := keepHeap hb_3 G_2
            have ow_3 := OwnIn.of ow_3
            obtain ⟨ga, gc, rfl, -⟩ := id ow_3.rd
            (try go_wp2_with (fail))
            have sz_3 := hb_3.size
            refine hK.out _ _ ?_ (fun hHeld => ?_)
            · exact ⟨rowCells (keepHeap bs_3 hA16), (bs_3.cell hltp).trans crp⟩
            clear hK K
            (try simp only [Act.put, List.setIfInBounds_toArray, List.set_cons_zero, List.set_cons_succ])
            refine take_on (i := 13) (v := ?_) (some 113) rfl (by kernel_rfl) (by kernel_rfl) (by kernel_rfl) rfl (fun _ _ _ h => h) (by rfl) ?_ (by assumption) ?_
            rotate_left
            · intro w hSw; (try dsimp only at hSw); go_simp; (try with_reducible rfl)
            (try simp only [Act.put, List.setIfInBounds_toArray, List.set_cons_zero, List.set_cons_succ])
            refine take_on (i := 14) (v := ?_) (some 127) rfl (by kernel_rfl) (by kernel_rfl) (by kernel_rfl) rfl (fun _ _ _ h => h) (by rfl) ?_ (by assumption) ?_
            rotate_left
            · intro w hSw; (try dsimp only at hSw); go_simp; (try with_reducible rfl)
            (try simp only [Act.put, List.setIfInBounds_toArray, List.set_cons_zero, List.set_cons_succ])
            refine take_on (i := 15) (v := ?_) (some 128) rfl (by kernel_rfl) (by kernel_rfl) (by kernel_rfl) rfl (fun _ _ _ h => h) (by rfl) ?_ (by assumption) ?_
            rotate_left
            · intro w hSw; (try dsimp only at hSw); go_simp; (try with_reducible rfl)
            (try simp only [Act.put, List.setIfInBounds_toArray, List.set_cons_zero, List.set_cons_succ])
            refine wpAnyH_ready (rs := [17]) (by kernel_rfl) (by simp) ?_
            refine AllReadyH.cons rfl (fun K hK => ?_) AllReadyH.nil
            have cn := rowCells P_3
            have fn := fun j => frozenHeap P_3 j
            go_simp
            have F_4 := set_farB w_3 (W16.heap.size) 0 (.slice ga x.length gc)
            have P_4 := setHeap (k := 0) (v := .slice ga x.length gc) P_3
            have ow_4 := ow_3.apart2 F_4 (by omega)
            have bs_4 := Below.setCell (p := ⟨W16.heap.size, 0, none⟩) bs_3 (by show _ ≤ W16.heap.size; omega) (.slice ga x.length gc)
            have hzz : (w_3.setCell ⟨W16.heap.size, 0, none⟩ (.slice ga x.length gc)).heap.size = w_3.heap.size := by simp
            obtain ⟨w_4, hw_4⟩ : ∃ W, w_3.setCell ⟨W16.heap.size, 0, none⟩ (.slice ga x.length gc) = W := ⟨_, rfl⟩
            rw [hw_4] at P_4 bs_4 ow_4 hzz
            try rw [hw_4]
            clear hw_4 cn fn F_4
            refine hK.out _ _ ?_ (fun hHeld => ?_)
            · exact ⟨rowCells (keepHeap bs_4 hA16), (bs_4.cell hltp).trans crp⟩
            clear hK K
            (try simp only [Act.put, List.setIfInBounds_toArray, List.set_cons_zero, List.set_cons_succ])
            refine take_on (i := 18) (v := ?_) (some 17) rfl (by kernel_rfl) (by kernel_rfl) (by kernel_rfl) rfl (fun _ _ _ h => h) (by rfl) ?_ (by assumption) ?_
            rotate_left
            · intro w hSw; (try dsimp only at hSw); go_simp; (try with_reducible rfl)
            (try simp only [Act.put, List.setIfInBounds_toArray, List.set_cons_zero, List.set_cons_succ])
            refine wpAnyH_done (by kernel_rfl) ?_ _
            go_wp2_with (fail)
            have hbs := bs_4.size
            go_meet
            case rel => exact ⟨_, rfl, rfl, bs_4⟩
        obtain ⟨p17, rfl, rfl, hb17⟩ := hcut
        go_wp2_with (fail)
        go_roundw
        case rel => exact ⟨k + 1, by omega, by go_num, hbel.trans ((hbr16.trans (hb17.mono hbr16.size)).mono hbel.size)⟩
        case measure => simp [intOf]; omega
      · have hm0' : ¬ (0 : Int) < (m : Int) := by omega
        go_wp2_with (fail)
        go_roundw
        case rel => exact ⟨k + 1, by omega, by go_num, hbel.trans (hbr16.mono hbel.size)⟩
        case measure => simp [intOf]; omega
    · obtain rfl : k = X.length := by omega
      have hkX : ¬ (X.length : Int) < (X.length : Int) := by omega
      go_wp2_with (fail)
      refine (tracksOk_impl (ht1.keep hbel) hfew).mono ?_
      rintro e w9 ⟨rfl, hb9⟩
      go_wp2_with (fail)
      go_ret
      have hbw : Below w.heap.size w wr := hb1.trans (hbel.mono hb1.size)
      exact ⟨by rw [HTR.out]; rfl, hbw.trans (hb9.mono hbw.size)⟩
end Go.Proofs.Ytbjbamcpfjlllab
