/-
  AddInputs of the program. Lists of at most 2^20 numbers.
-/
import Derived.Test.YtgbdpmaajihfdaaAddP
import Derived.Test.YtgbdpmaajihfdaaCpy
import Derived.Test.YtgbdpmaajihfdaaStI
import Derived.Test.YtgbdpmaajihfdaaCut
import Derived.Test.YtgbdpmaajihfdaaReg
import Derived.Deep.Cut
import Derived.Deep.CutBlock
namespace Go.Proofs.Ytgbdpmaajihfdaa
open Go.RowKit
set_option linter.all false
theorem cutR_from (a : Option Addr) (n cap k : Nat) (hk : k ≤ n) (hc : n ≤ cap) (W : World) : (Instr.slice 27 (.slice a n cap) (some (.int .i64 (k : Int))) none none).run Try.prog W = .ok (sliced a k n cap 1) W := by
  rw [run_slice_l (P := Try.prog) (w := W) 27 a n cap cut_type .i64 (k : Int) (by omega) (by omega), cut_size]
  simp only [Result.andThen, Int.toNat_natCast]
theorem cutR_to (a : Option Addr) (n cap k : Nat) (hk : k ≤ n) (hc : n ≤ cap) (W : World) : (Instr.slice 27 (.slice a n cap) none (some (.int .i64 (k : Int))) none).run Try.prog W = .ok (sliced a 0 k cap 1) W := by
  rw [run_slice_h (P := Try.prog) (w := W) 27 a n cap cut_type .i64 (k : Int) (by omega) (by omega), cut_size]
  simp only [Result.andThen, Int.toNat_natCast]
theorem cutR_mid (a : Option Addr) (n cap i j : Nat) (hij : i ≤ j) (hj : j ≤ n) (hc : n ≤ cap) (W : World) : (Instr.slice 27 (.slice a n cap) (some (.int .i64 (i : Int))) (some (.int .i64 (j : Int))) none).run Try.prog W = .ok (sliced a i j cap 1) W := by
  rw [run_slice_lh (P := Try.prog) (w := W) 27 a n cap cut_type .i64 .i64 (i : Int) (j : Int) (by omega) (by omega) (by omega), cut_size]
  simp only [Result.andThen, Int.toNat_natCast]
theorem rdR_two {W : World} {g : Nat} {va vu : Value} {xs zs : List Int} {T : TypeId} (h : W.heap[g]? = some (.cells #[va, vu] T (0, 0))) (hx : RdI W va xs) (hu : RdI W vu zs) : RdR W (.slice (some ⟨g, 0, none⟩) 2 2) [xs, zs] := by
  refine ⟨some ⟨g, 0, none⟩, 2, rfl, .inr ⟨g, 0, rfl, fun j hj => ?_⟩⟩
  have hc := rowCells h
  match j, hj with
  | 0, _ => exact ⟨va, by rw [hc]; rfl, hx⟩
  | 1, _ => exact ⟨vu, by rw [hc]; rfl, hu⟩
/-- What AddInputs of the program leaves, with its room. -/
def RetAdK (w : World) (xs : List Int) (f : Int) (ys : List Int) (e : Ending) (w' : World) : Prop := ∃ v, e = .returned (.tuple #[.agg #[v], .bool (addB xs f ys)]) ∧ OwnI w' w.heap.size v (addT xs f ys) ∧ CapI v ∧ Below w.heap.size w w'
set_option maxRecDepth 100000 in
set_option maxHeartbeats 16000000 in
theorem addInputs_cap {w : World} {v u : Value} {xs ys : List Int} (h : RdI w v xs) (hcv : CapI v) (h' : RdI w u ys) (hcu : CapI u) (hx : xs.length ≤ 1048576) (hy : ys.length ≤ 1048576) (f : Int) :
    Calls Try.prog 18 #[.agg #[v], .int .i64 f, u] w (RetAdK w xs f ys) := by
  obtain ⟨a, cap, rfl, -⟩ := id h
  obtain ⟨au, cu, rfl, -⟩ := id h'
  obtain ⟨a', n', c', e', hcap⟩ := hcv
  obtain ⟨rfl, rfl, rfl⟩ := Value.slice.inj e'
  obtain ⟨a', n', c', e', hcapu⟩ := hcu
  obtain ⟨rfl, rfl, rfl⟩ := Value.slice.inj e'
  clear e'
  obtain ⟨W0, hW, hA, hB, hB0, hS0⟩ := rows2 w #[.slice a xs.length cap] #[.slice none 0 0] 29 29
  have cA := rowCells hA
  have hlx : (xs.length : Int) ≤ 9223372036854775807 := by omega
  have hly : (ys.length : Int) ≤ 9223372036854775807 := by omega
  go_enter Try.func18, Try.ntmps18
  go_wp2_with (fail)
  try rw [hW]
  clear hW
  refine (trackOk_impl (h.keep hB0) (by omega)).mono ?_
  rintro e w1 ⟨rfl, hb1⟩
  have hA1 := keepHeap hb1 hA
  have hB1 := keepHeap hb1 hB
  have hb01 := hB0.trans (hb1.mono hB0.size)
  have cA1 := rowCells hA1
  have cB1 := rowCells hB1
  have fB1 := frozenHeap hB1 0
  have hs01 := hb01.size
  have hs1 := hb1.size
  clear cA
  have hback : ∀ {W : World}, Below w1.heap.size w1 W → Calls Try.prog 23 #[.agg #[.slice a xs.length cap]] W (RetTrK W xs) := fun hb => copyTrack_cap ((h.keep hb01).keep hb) (by omega)
  cases ht : trkB xs with
  | false =>
    have HB := Lib.hid (addB_track (f := f) (ys := ys) ht)
    have HT := Lib.hid (addT_no HB.out)
    clear ht
    go_wp2_with (fail)
    refine (hback (Below.refl _ _)).mono ?_
    rintro e w6 ⟨u6, rfl, hO6, hK6, hb6⟩
    obtain ⟨a6, c6, rfl, -⟩ := id hO6
    have hB6 := keepHeap hb6 hB1
    have cB6 := rowCells hB6
    have fB6 := frozenHeap hB6 0
    clear cA1 cB1 fB1
    go_wp2_with (fail)
    have c9 := rowCells (setHeap (k := 0) (v := .slice a6 xs.length c6) hB6) 0
    refine bodyPost_ret (v := .tuple #[.agg #[.slice a6 xs.length c6], .bool false]) (by simp [results, Try.results18, go_sem, c9]) rfl ⟨.slice a6 xs.length c6, ?_, ?_, hK6, ?_⟩
    · rw [HB.out]
    · rw [HT.out]; exact (hO6.far (p := ⟨w.heap.size + 1, 0, none⟩) (by show w.heap.size + 1 < _; omega) _).up (by omega)
    · exact (hb01.trans (hb6.mono hs01)).setCell (p := ⟨w.heap.size + 1, 0, none⟩) (by show w.heap.size ≤ w.heap.size + 1; omega) _
  | true =>
  have HT0 := Lib.hid ht
  clear ht
  go_wp2_with (fail)
  refine (within_impl f 0 (xs.length : Int) w1).mono ?_
  rintro e w2 ⟨rfl, rfl⟩
  cases hr : inR f 0 (xs.length : Int) with
  | false =>
    have HB := Lib.hid (addB_range (ys := ys) hr)
    have HT := Lib.hid (addT_no HB.out)
    clear hr
    go_wp2_with (fail)
    refine (hback (Below.refl _ _)).mono ?_
    rintro e w6 ⟨u6, rfl, hO6, hK6, hb6⟩
    obtain ⟨a6, c6, rfl, -⟩ := id hO6
    have hB6 := keepHeap hb6 hB1
    have cB6 := rowCells hB6
    have fB6 := frozenHeap hB6 0
    clear cA1 cB1 fB1
    go_wp2_with (fail)
    have c9 := rowCells (setHeap (k := 0) (v := .slice a6 xs.length c6) hB6) 0
    refine bodyPost_ret (v := .tuple #[.agg #[.slice a6 xs.length c6], .bool false]) (by simp [results, Try.results18, go_sem, c9]) rfl ⟨.slice a6 xs.length c6, ?_, ?_, hK6, ?_⟩
    · rw [HB.out]
    · rw [HT.out]; exact (hO6.far (p := ⟨w.heap.size + 1, 0, none⟩) (by show w.heap.size + 1 < _; omega) _).up (by omega)
    · exact (hb01.trans (hb6.mono hs01)).setCell (p := ⟨w.heap.size + 1, 0, none⟩) (by show w.heap.size ≤ w.heap.size + 1; omega) _
  | true =>
  obtain ⟨hf0, hf1⟩ := (inR_iff _ _ _).1 hr
  obtain ⟨n, rfl⟩ : ∃ n : Nat, f = (n : Int) := ⟨f.toNat, by omega⟩
  have HR := Lib.hid hr
  clear hr
  have hnx : n ≤ xs.length := by omega
  obtain ⟨m, hm⟩ : ∃ m, m = min (xs.length - n) ys.length := ⟨_, rfl⟩
  have HSAME : Hid (sameB ((xs.drop n).take m) (ys.take m) = addSame xs n ys) := Lib.hid (by rw [hm]; exact addSame_told hnx)
  have HALL : Hid (xs ++ ys.drop m = addAll xs n ys) := Lib.hid (by rw [hm]; exact addAll_told hnx)
  have hmy : m ≤ ys.length := by omega
  have hmx : n + m ≤ xs.length := by omega
  obtain ⟨q, hq⟩ : ∃ q, q = xs.length - n := ⟨_, rfl⟩
  have e1 : (xs.length : Int) - (n : Int) = (q : Int) := by omega
  have e2 : min (q : Int) (ys.length : Int) = (m : Int) := by omega
  have e2b : (if ys.length < q then (ys.length : Int) else (q : Int)) = (m : Int) := by split <;> omega
  obtain ⟨r, hr⟩ : ∃ r, r = n + m := ⟨_, rfl⟩
  have hr1 : r ≤ xs.length := by omega
  have hnr : n ≤ r := by omega
  have hrn : r - n = m := by omega
  have E3 : Hid (IntKind.i64.wrap ((n : Int) + (m : Int)) = (r : Int)) := Lib.hid (by rw [hr]; exact IntWalk.i64_in _ (by omega))
  clear hm hr hq
  obtain ⟨s1, l1, c1, hu1⟩ : ∃ s l c, sliced au m ys.length cu 1 = .slice s l c := ⟨_, _, _, rfl⟩
  have hcut1 : ∀ W, (Instr.slice 27 (.slice au ys.length cu) (some (.int .i64 (m : Int))) none none).run Try.prog W = .ok (.slice s1 l1 c1) W := fun W => by rw [← hu1]; exact cutR_from au ys.length cu m hmy hcapu W
  obtain ⟨zs, hzs⟩ : ∃ zs, zs = ys.drop m := ⟨_, rfl⟩
  have hru : ∀ {W : World}, RdI W (.slice au ys.length cu) ys → RdI W (.slice s1 l1 c1) zs := fun {W} hh => by
    have := hh.sliced hcapu m ys.length hmy (Nat.le_refl _)
    rw [List.take_of_length_le (by rw [List.length_drop]; omega)] at this
    rw [← hu1, hzs]; exact this
  obtain ⟨s2, l2, c2, hu2⟩ : ∃ s l c, sliced a n r cap 1 = .slice s l c := ⟨_, _, _, rfl⟩
  have hcut2 : ∀ W, (Instr.slice 27 (.slice a xs.length cap) (some (.int .i64 (n : Int))) (some (.int .i64 (r : Int))) none).run Try.prog W = .ok (.slice s2 l2 c2) W := fun W => by rw [← hu2]; exact cutR_mid a xs.length cap n r hnr hr1 hcap W
  have hry : ∀ {W : World}, RdI W (.slice a xs.length cap) xs → RdI W (.slice s2 l2 c2) ((xs.drop n).take m) := fun {W} hh => by
    have := hh.sliced hcap n r hnr hr1
    rw [hrn] at this
    rw [← hu2]; exact this
  obtain ⟨s3, l3, c3, hu3⟩ : ∃ s l c, sliced au 0 m cu 1 = .slice s l c := ⟨_, _, _, rfl⟩
  have hcut3 : ∀ W, (Instr.slice 27 (.slice au ys.length cu) none (some (.int .i64 (m : Int))) none).run Try.prog W = .ok (.slice s3 l3 c3) W := fun W => by rw [← hu3]; exact cutR_to au ys.length cu m hmy hcapu W
  have hrz : ∀ {W : World}, RdI W (.slice au ys.length cu) ys → RdI W (.slice s3 l3 c3) (ys.take m) := fun {W} hh => by
    have := hh.sliced hcapu 0 m (Nat.zero_le _) hmy
    rw [List.drop_zero, Nat.sub_zero] at this
    rw [← hu3]; exact this
  clear hu1 hu2 hu3 hrn
  obtain ⟨gs, hgs⟩ : ∃ gs, gs = xs ++ zs := ⟨_, rfl⟩
  have hzl : zs.length ≤ 1048576 := by rw [hzs, List.length_drop]; omega
  have hgl : gs.length ≤ 2097152 := by rw [hgs, List.length_append]; omega
  have HG : Hid (gs = addAll xs n ys) := Lib.hid (by rw [hgs, hzs]; exact HALL.out)
  have hcat : ∀ (W : World) {g : Nat} (hg : W.heap[g]? = some (.cells #[.slice a xs.length cap, .slice s1 l1 c1] 27 (0, 0))) (hx' : RdI W (.slice a xs.length cap) xs) (hu' : RdI W (.slice au ys.length cu) ys), Calls Try.prog 26 #[.slice (some ⟨g, 0, none⟩) 2 2] W fun e w' => ∃ u, e = .returned u ∧ OwnR w' W.heap.size u gs ∧ Below W.heap.size W w' := fun W g hg hx' hu' => by
    have := concatI_any (rdR_two hg hx' (hru hu')) (by simp) (by simp [totalR]; omega)
    rw [show [xs, zs].flatten = gs by rw [hgs]; simp] at this
    exact this
  obtain ⟨sm, hsm⟩ : ∃ sm, sm = sameB ((xs.drop n).take m) (ys.take m) := ⟨_, rfl⟩
  have hEq : ∀ (W : World) (hx' : RdI W (.slice a xs.length cap) xs) (hu' : RdI W (.slice au ys.length cu) ys), Calls Try.prog 19 #[.slice s2 l2 c2, .slice s3 l3 c3] W fun e w' => e = .returned (.bool sm) ∧ Below W.heap.size W w' := fun W hx' hu' => by
    rw [hsm]
    exact equalI_any (hry hx') (hrz hu') (by rw [List.length_take, List.length_drop]; omega) (by rw [List.length_take]; omega)
  have HSM : Hid (sm = addSame xs n ys) := Lib.hid (by rw [hsm]; exact HSAME.out)
  obtain ⟨tk, htk⟩ : ∃ tk, tk = trkB gs := ⟨_, rfl⟩
  have hTk : ∀ (W : World) {vg : Value} (hg : RdI W vg gs), Calls Try.prog 22 #[.agg #[vg]] W fun e w' => e = .returned (.bool tk) ∧ Below W.heap.size W w' := fun W vg hg => by
    rw [htk]; exact trackOk_impl hg (by omega)
  have HTK := Lib.hid htk
  have rx1 := h.keep hb01
  have ru1 := h'.keep hb01
  clear hsm htk hgs hzs hzl HSAME HALL hry hrz hru
  go_upto_region 5 with (fail)
  go_cut [10] from 31 (fun q wr => ∃ (p : Nat) (vg : Value), q = .pointer (some ⟨p, 0, none⟩) ∧ wr.heap[p]? = some (.cells #[vg] 29 (0, 0)) ∧ OwnR wr w1.heap.size vg gs ∧ Below w1.heap.size w1 wr)
  case first =>
    have bs_0 : Below w1.heap.size w1 w1.drew := belowDrew w1 1
    refine wp_region_held_drew (S := (fun w' => (∀ j, w'.cell? ⟨w.heap.size, j, none⟩ = #[Value.slice a xs.length cap][j]?))) (by kernel_rfl) ?_ (fun hHeld => ?_)
    · exact rowCells (keepHeap bs_0 hA1)
    refine take_on (i := 0) (v := ?_) (some 31) rfl (by kernel_rfl) (by kernel_rfl) (by kernel_rfl) rfl (fun _ _ _ h => h) (by rfl) ?_ (by assumption) ?_
    rotate_left
    · intro w hSw; (try dsimp only at hSw); go_simp; (try with_reducible rfl)
    (try simp only [Act.put, List.setIfInBounds_toArray, List.set_cons_zero, List.set_cons_succ])
    refine take_on (i := 1) (v := ?_) (some 32) rfl (by kernel_rfl) (by kernel_rfl) (by kernel_rfl) rfl (fun _ _ _ h => h) (by rfl) ?_ (by assumption) ?_
    rotate_left
    · intro w hSw; (try dsimp only at hSw); go_simp; (try with_reducible rfl)
    (try simp only [Act.put, List.setIfInBounds_toArray, List.set_cons_zero, List.set_cons_succ])
    refine take_on (i := 2) (v := ?_) (some 33) rfl (by kernel_rfl) (by kernel_rfl) (by kernel_rfl) rfl (fun _ _ _ h => h) (by rfl) ?_ (by assumption) ?_
    rotate_left
    · intro w hSw; (try dsimp only at hSw); go_simp; (try with_reducible rfl)
    (try simp only [Act.put, List.setIfInBounds_toArray, List.set_cons_zero, List.set_cons_succ])
    refine take_on (i := 3) (v := ?_) (some 34) rfl (by kernel_rfl) (by kernel_rfl) (by kernel_rfl) rfl (fun _ _ _ h => h) (by rfl) ?_ (by assumption) ?_
    rotate_left
    · intro w hSw; (try dsimp only at hSw); go_simp; (try with_reducible rfl)
    (try simp only [Act.put, List.setIfInBounds_toArray, List.set_cons_zero, List.set_cons_succ])
    refine take_on (i := 4) (v := ?_) (some 35) rfl (by kernel_rfl) (by kernel_rfl) (by kernel_rfl) rfl (fun _ _ _ h => h) (by rfl) ?_ (by assumption) ?_
    rotate_left
    · intro w hSw; (try dsimp only at hSw); go_simp; (try with_reducible rfl)
    (try simp only [Act.put, List.setIfInBounds_toArray, List.set_cons_zero, List.set_cons_succ])
    refine wpAnyH_ready (rs := [5, 8]) (by kernel_rfl) (by simp) ?_
    refine AllReadyH.cons rfl (fun K hK => ?_) (AllReadyH.cons rfl (fun K hK => ?_) AllReadyH.nil)
    · go_simp
      obtain ⟨w_1, hw_1, G_1, hb_1⟩ : ∃ W, (w1.alloc (.cells #[.slice a xs.length cap, .slice s1 l1 c1] 27)).drew = W ∧ W.heap[w1.heap.size]? = some (.cells #[.slice a xs.length cap, .slice s1 l1 c1] 27 (0, 0)) ∧ Below w1.drew.heap.size w1.drew W := ⟨_, rfl, heap_alloc_new w1.drew _, below1 w1.drew _⟩
      try rw [hw_1]
      clear hw_1
      have bs_1 := bs_0.trans (hb_1.mono bs_0.size)
      refine hK.out _ _ ?_ (fun hHeld => ?_)
      · exact rowCells (keepHeap bs_1 hA1)
      clear hK K
      (try simp only [Act.put, List.setIfInBounds_toArray, List.set_cons_zero, List.set_cons_succ])
      refine wpAnyH_ready (rs := [6, 8]) (by kernel_rfl) (by simp) ?_
      refine AllReadyH.cons rfl (fun K hK => ?_) (AllReadyH.cons rfl (fun K hK => ?_) AllReadyH.nil)
      · go_simp
        refine (hcat _ G_1 (rx1.keep bs_1) (ru1.keep bs_1)).mono ?_
        rintro e w_2 ⟨u_2, rfl, ow_2, hb_2⟩
        have bs_2 := bs_1.trans (hb_2.mono bs_1.size)
        have G_2 := keepHeap hb_2 G_1
        obtain ⟨ga, gc, rfl, -⟩ := id ow_2.own.rd
        (try go_wp2_with (fail))
        refine hK.out _ _ ?_ (fun hHeld => ?_)
        · exact rowCells (keepHeap bs_2 hA1)
        clear hK K
        (try simp only [Act.put, List.setIfInBounds_toArray, List.set_cons_zero, List.set_cons_succ])
        refine take_on (i := 7) (v := ?_) (some 38) rfl (by kernel_rfl) (by kernel_rfl) (by kernel_rfl) rfl (fun _ _ _ h => h) (by rfl) ?_ (by assumption) ?_
        rotate_left
        · intro w hSw; (try dsimp only at hSw); go_simp; (try with_reducible rfl)
        (try simp only [Act.put, List.setIfInBounds_toArray, List.set_cons_zero, List.set_cons_succ])
        refine wpAnyH_ready (rs := [8]) (by kernel_rfl) (by simp) ?_
        refine AllReadyH.cons rfl (fun K hK => ?_) AllReadyH.nil
        go_simp
        obtain ⟨w_3, hw_3, P_3, hb_3⟩ : ∃ W, w_2.alloc (.cells #[.slice none 0 0] 29) = W ∧ W.heap[w_2.heap.size]? = some (.cells #[.slice none 0 0] 29 (0, 0)) ∧ Below w_2.heap.size w_2 W := ⟨_, rfl, heap_alloc_new w_2 _, below1 w_2 _⟩
        try rw [hw_3]
        clear hw_3
        have hp_3 := bs_2.size
        have bs_3 := bs_2.trans (hb_3.mono bs_2.size)
        have G_3 := keepHeap hb_3 G_2
        have ow_3 := ow_2.keep hb_3 (Nat.le_refl _)
        refine hK.out _ _ ?_ (fun hHeld => ?_)
        · exact rowCells (keepHeap bs_3 hA1)
        clear hK K
        (try simp only [Act.put, List.setIfInBounds_toArray, List.set_cons_zero, List.set_cons_succ])
        refine wpAnyH_ready (rs := [9]) (by kernel_rfl) (by simp) ?_
        refine AllReadyH.cons rfl (fun K hK => ?_) AllReadyH.nil
        have cn := rowCells P_3
        have fn := fun j => frozenHeap P_3 j
        go_simp
        have ne_4 := OwnR.notBox ow_3 P_3 (by decide)
        have ow_4 := OwnR.aside (p := ⟨w_2.heap.size, 0, none⟩) ow_3 ne_4 (.slice ga gs.length gc)
        have P_4 := setHeap (k := 0) (v := .slice ga gs.length gc) P_3
        have bs_4 := Below.setCell (p := ⟨w_2.heap.size, 0, none⟩) bs_3 (by have := hp_3; first | (show _ ≤ _; omega) | (simp at this ⊢; omega) | (simp at this ⊢)) (.slice ga gs.length gc)
        obtain ⟨w_4, hw_4⟩ : ∃ W, w_3.setCell ⟨w_2.heap.size, 0, none⟩ (.slice ga gs.length gc) = W := ⟨_, rfl⟩
        rw [hw_4] at P_4 bs_4 ow_4
        try rw [hw_4]
        clear hw_4 cn fn ne_4
        refine hK.out _ _ ?_ (fun hHeld => ?_)
        · exact rowCells (keepHeap bs_4 hA1)
        clear hK K
        (try simp only [Act.put, List.setIfInBounds_toArray, List.set_cons_zero, List.set_cons_succ])
        refine wpAnyH_done (by kernel_rfl) ?_ _
        go_wp2_with (fail)
        have hz := bs_1.size
        go_meet
        case rel => exact ⟨_, _, rfl, P_4, ow_4.low (by first | omega | (simp at hz ⊢; omega) | simp), bs_4⟩
      · go_simp
        obtain ⟨w_2, hw_2, P_2, hb_2⟩ : ∃ W, w_1.alloc (.cells #[.slice none 0 0] 29) = W ∧ W.heap[w_1.heap.size]? = some (.cells #[.slice none 0 0] 29 (0, 0)) ∧ Below w_1.heap.size w_1 W := ⟨_, rfl, heap_alloc_new w_1 _, below1 w_1 _⟩
        try rw [hw_2]
        clear hw_2
        have hp_2 := bs_1.size
        have bs_2 := bs_1.trans (hb_2.mono bs_1.size)
        have G_2 := keepHeap hb_2 G_1
        refine hK.out _ _ ?_ (fun hHeld => ?_)
        · exact rowCells (keepHeap bs_2 hA1)
        clear hK K
        (try simp only [Act.put, List.setIfInBounds_toArray, List.set_cons_zero, List.set_cons_succ])
        refine wpAnyH_ready (rs := [6]) (by kernel_rfl) (by simp) ?_
        refine AllReadyH.cons rfl (fun K hK => ?_) AllReadyH.nil
        go_simp
        refine (hcat _ G_2 (rx1.keep bs_2) (ru1.keep bs_2)).mono ?_
        rintro e w_3 ⟨u_3, rfl, ow_3, hb_3⟩
        have bs_3 := bs_2.trans (hb_3.mono bs_2.size)
        have G_3 := keepHeap hb_3 G_2
        have P_3 := keepHeap hb_3 P_2
        obtain ⟨ga, gc, rfl, -⟩ := id ow_3.own.rd
        (try go_wp2_with (fail))
        refine hK.out _ _ ?_ (fun hHeld => ?_)
        · exact rowCells (keepHeap bs_3 hA1)
        clear hK K
        (try simp only [Act.put, List.setIfInBounds_toArray, List.set_cons_zero, List.set_cons_succ])
        refine take_on (i := 7) (v := ?_) (some 38) rfl (by kernel_rfl) (by kernel_rfl) (by kernel_rfl) rfl (fun _ _ _ h => h) (by rfl) ?_ (by assumption) ?_
        rotate_left
        · intro w hSw; (try dsimp only at hSw); go_simp; (try with_reducible rfl)
        (try simp only [Act.put, List.setIfInBounds_toArray, List.set_cons_zero, List.set_cons_succ])
        refine wpAnyH_ready (rs := [9]) (by kernel_rfl) (by simp) ?_
        refine AllReadyH.cons rfl (fun K hK => ?_) AllReadyH.nil
        have cn := rowCells P_3
        have fn := fun j => frozenHeap P_3 j
        go_simp
        have ne_4 := OwnR.notBox ow_3 P_3 (by decide)
        have ow_4 := OwnR.aside (p := ⟨w_1.heap.size, 0, none⟩) ow_3 ne_4 (.slice ga gs.length gc)
        have P_4 := setHeap (k := 0) (v := .slice ga gs.length gc) P_3
        have bs_4 := Below.setCell (p := ⟨w_1.heap.size, 0, none⟩) bs_3 (by have := hp_2; first | (show _ ≤ _; omega) | (simp at this ⊢; omega) | (simp at this ⊢)) (.slice ga gs.length gc)
        obtain ⟨w_4, hw_4⟩ : ∃ W, w_3.setCell ⟨w_1.heap.size, 0, none⟩ (.slice ga gs.length gc) = W := ⟨_, rfl⟩
        rw [hw_4] at P_4 bs_4 ow_4
        try rw [hw_4]
        clear hw_4 cn fn ne_4
        refine hK.out _ _ ?_ (fun hHeld => ?_)
        · exact rowCells (keepHeap bs_4 hA1)
        clear hK K
        (try simp only [Act.put, List.setIfInBounds_toArray, List.set_cons_zero, List.set_cons_succ])
        refine wpAnyH_done (by kernel_rfl) ?_ _
        go_wp2_with (fail)
        have hz := bs_2.size
        go_meet
        case rel => exact ⟨_, _, rfl, P_4, ow_4.low (by first | omega | (simp at hz ⊢; omega) | simp), bs_4⟩
    · go_simp
      obtain ⟨w_1, hw_1, P_1, hb_1⟩ : ∃ W, (w1.alloc (.cells #[.slice none 0 0] 29)).drew = W ∧ W.heap[w1.heap.size]? = some (.cells #[.slice none 0 0] 29 (0, 0)) ∧ Below w1.drew.heap.size w1.drew W := ⟨_, rfl, heap_alloc_new w1.drew _, below1 w1.drew _⟩
      try rw [hw_1]
      clear hw_1
      have hp_1 := bs_0.size
      have bs_1 := bs_0.trans (hb_1.mono bs_0.size)
      refine hK.out _ _ ?_ (fun hHeld => ?_)
      · exact rowCells (keepHeap bs_1 hA1)
      clear hK K
      (try simp only [Act.put, List.setIfInBounds_toArray, List.set_cons_zero, List.set_cons_succ])
      refine wpAnyH_ready (rs := [5]) (by kernel_rfl) (by simp) ?_
      refine AllReadyH.cons rfl (fun K hK => ?_) AllReadyH.nil
      go_simp
      obtain ⟨w_2, hw_2, G_2, hb_2⟩ : ∃ W, w_1.alloc (.cells #[.slice a xs.length cap, .slice s1 l1 c1] 27) = W ∧ W.heap[w_1.heap.size]? = some (.cells #[.slice a xs.length cap, .slice s1 l1 c1] 27 (0, 0)) ∧ Below w_1.heap.size w_1 W := ⟨_, rfl, heap_alloc_new w_1 _, below1 w_1 _⟩
      try rw [hw_2]
      clear hw_2
      have bs_2 := bs_1.trans (hb_2.mono bs_1.size)
      have P_2 := keepHeap hb_2 P_1
      refine hK.out _ _ ?_ (fun hHeld => ?_)
      · exact rowCells (keepHeap bs_2 hA1)
      clear hK K
      (try simp only [Act.put, List.setIfInBounds_toArray, List.set_cons_zero, List.set_cons_succ])
      refine wpAnyH_ready (rs := [6]) (by kernel_rfl) (by simp) ?_
      refine AllReadyH.cons rfl (fun K hK => ?_) AllReadyH.nil
      go_simp
      refine (hcat _ G_2 (rx1.keep bs_2) (ru1.keep bs_2)).mono ?_
      rintro e w_3 ⟨u_3, rfl, ow_3, hb_3⟩
      have bs_3 := bs_2.trans (hb_3.mono bs_2.size)
      have P_3 := keepHeap hb_3 P_2
      have G_3 := keepHeap hb_3 G_2
      obtain ⟨ga, gc, rfl, -⟩ := id ow_3.own.rd
      (try go_wp2_with (fail))
      refine hK.out _ _ ?_ (fun hHeld => ?_)
      · exact rowCells (keepHeap bs_3 hA1)
      clear hK K
      (try simp only [Act.put, List.setIfInBounds_toArray, List.set_cons_zero, List.set_cons_succ])
      refine take_on (i := 7) (v := ?_) (some 38) rfl (by kernel_rfl) (by kernel_rfl) (by kernel_rfl) rfl (fun _ _ _ h => h) (by rfl) ?_ (by assumption) ?_
      rotate_left
      · intro w hSw; (try dsimp only at hSw); go_simp; (try with_reducible rfl)
      (try simp only [Act.put, List.setIfInBounds_toArray, List.set_cons_zero, List.set_cons_succ])
      refine wpAnyH_ready (rs := [9]) (by kernel_rfl) (by simp) ?_
      refine AllReadyH.cons rfl (fun K hK => ?_) AllReadyH.nil
      have cn := rowCells P_3
      have fn := fun j => frozenHeap P_3 j
      go_simp
      have ne_4 := OwnR.notBox ow_3 P_3 (by decide)
      have ow_4 := OwnR.aside (p := ⟨w1.heap.size, 0, none⟩) ow_3 ne_4 (.slice ga gs.length gc)
      have P_4 := setHeap (k := 0) (v := .slice ga gs.length gc) P_3
      have bs_4 := Below.setCell (p := ⟨w1.heap.size, 0, none⟩) bs_3 (by have := hp_1; first | (show _ ≤ _; omega) | (simp at this ⊢; omega) | (simp at this ⊢)) (.slice ga gs.length gc)
      obtain ⟨w_4, hw_4⟩ : ∃ W, w_3.setCell ⟨w1.heap.size, 0, none⟩ (.slice ga gs.length gc) = W := ⟨_, rfl⟩
      rw [hw_4] at P_4 bs_4 ow_4
      try rw [hw_4]
      clear hw_4 cn fn ne_4
      refine hK.out _ _ ?_ (fun hHeld => ?_)
      · exact rowCells (keepHeap bs_4 hA1)
      clear hK K
      (try simp only [Act.put, List.setIfInBounds_toArray, List.set_cons_zero, List.set_cons_succ])
      refine wpAnyH_done (by kernel_rfl) ?_ _
      go_wp2_with (fail)
      have hz := bs_2.size
      go_meet
      case rel => exact ⟨_, _, rfl, P_4, ow_4.low (by first | omega | (simp at hz ⊢; omega) | simp), bs_4⟩
  obtain ⟨p, vg, rfl, hP5, ho5, hb5⟩ := hcut
  obtain ⟨ga, gc, rfl, -⟩ := id ho5.own.rd
  have ew : ∃ w5, w5 = wc := ⟨_, rfl⟩
  obtain ⟨w5, ew⟩ := ew
  subst ew
  have hA5 := keepHeap hb5 hA1
  have hB5 := keepHeap hb5 hB1
  have hb05 := hb01.trans (hb5.mono hs01)
  have ry5 := rx1.keep hb5
  have rz5 := ru1.keep hb5
  have rg5 := ho5.own.rd
  have hs5 := hb5.size
  have hs05 := hb05.size
  have e3 := E3.out
  clear cA1 cB1 fB1 rx1 ru1
  go_upto_region 6 with (fail)
  go_cut [55] from 39 (fun q wr => q = .bool (!(sm && tk)) ∧ Below w5.heap.size w5 wr)
  case first =>
    have bs_0 : Below w5.heap.size w5 w5.drew := belowDrew w5 1
    refine wp_region_held_drew (S := (fun w' => (∀ j, w'.cell? ⟨w.heap.size, j, none⟩ = #[Value.slice a xs.length cap][j]?) ∧ (∀ j, w'.cell? ⟨p, j, none⟩ = #[Value.slice ga gs.length gc][j]?))) (by kernel_rfl) ?_ (fun hHeld => ?_)
    · exact ⟨rowCells (keepHeap bs_0 hA5), rowCells (keepHeap bs_0 hP5)⟩
    refine take_on (i := 0) (v := ?_) (some 39) rfl (by kernel_rfl) (by kernel_rfl) (by kernel_rfl) rfl (fun _ _ _ h => h) (by rfl) ?_ (by assumption) ?_
    rotate_left
    · intro w hSw; (try dsimp only at hSw); go_simp; (try with_reducible rfl)
    (try simp only [Act.put, List.setIfInBounds_toArray, List.set_cons_zero, List.set_cons_succ])
    refine take_on (i := 1) (v := ?_) (some 40) rfl (by kernel_rfl) (by kernel_rfl) (by kernel_rfl) rfl (fun _ _ _ h => h) (by rfl) ?_ (by assumption) ?_
    rotate_left
    · intro w hSw; (try dsimp only at hSw); go_simp; (try with_reducible rfl)
    (try simp only [Act.put, List.setIfInBounds_toArray, List.set_cons_zero, List.set_cons_succ])
    refine take_on (i := 2) (v := ?_) (some 41) rfl (by kernel_rfl) (by kernel_rfl) (by kernel_rfl) rfl (fun _ _ _ h => h) (by rfl) ?_ (by assumption) ?_
    rotate_left
    · intro w hSw; (try dsimp only at hSw); go_simp; (try with_reducible rfl)
    (try simp only [Act.put, List.setIfInBounds_toArray, List.set_cons_zero, List.set_cons_succ])
    refine take_on (i := 3) (v := ?_) (some 42) rfl (by kernel_rfl) (by kernel_rfl) (by kernel_rfl) rfl (fun _ _ _ h => h) (by rfl) ?_ (by assumption) ?_
    rotate_left
    · intro w hSw; (try dsimp only at hSw); go_simp; (try with_reducible rfl)
    (try simp only [Act.put, List.setIfInBounds_toArray, List.set_cons_zero, List.set_cons_succ])
    refine take_on (i := 4) (v := ?_) (some 43) rfl (by kernel_rfl) (by kernel_rfl) (by kernel_rfl) rfl (fun _ _ _ h => h) (by rfl) ?_ (by assumption) ?_
    rotate_left
    · intro w hSw; (try dsimp only at hSw); go_simp; (try with_reducible rfl)
    (try simp only [Act.put, List.setIfInBounds_toArray, List.set_cons_zero, List.set_cons_succ])
    refine take_on (i := 5) (v := ?_) (some 44) rfl (by kernel_rfl) (by kernel_rfl) (by kernel_rfl) rfl (fun _ _ _ h => h) (by rfl) ?_ (by assumption) ?_
    rotate_left
    · intro w hSw; (try dsimp only at hSw); go_simp; (try with_reducible rfl)
    (try simp only [Act.put, List.setIfInBounds_toArray, List.set_cons_zero, List.set_cons_succ])
    refine take_on (i := 6) (v := ?_) (some 45) rfl (by kernel_rfl) (by kernel_rfl) (by kernel_rfl) rfl (fun _ _ _ h => h) (by rfl) ?_ (by assumption) ?_
    rotate_left
    · intro w hSw; (try dsimp only at hSw); go_simp; (try with_reducible rfl)
    (try simp only [Act.put, List.setIfInBounds_toArray, List.set_cons_zero, List.set_cons_succ])
    refine take_on (i := 7) (v := ?_) (some 46) rfl (by kernel_rfl) (by kernel_rfl) (by kernel_rfl) rfl (fun _ _ _ h => h) (by rfl) ?_ (by assumption) ?_
    rotate_left
    · intro w hSw; (try dsimp only at hSw); go_simp; (try with_reducible rfl)
    (try simp only [Act.put, List.setIfInBounds_toArray, List.set_cons_zero, List.set_cons_succ])
    refine take_on (i := 8) (v := ?_) (some 47) rfl (by kernel_rfl) (by kernel_rfl) (by kernel_rfl) rfl (fun _ _ _ h => h) (by rfl) ?_ (by assumption) ?_
    rotate_left
    · intro w hSw; (try dsimp only at hSw); go_simp; (try with_reducible rfl)
    (try simp only [Act.put, List.setIfInBounds_toArray, List.set_cons_zero, List.set_cons_succ])
    refine take_on (i := 9) (v := ?_) (some 48) rfl (by kernel_rfl) (by kernel_rfl) (by kernel_rfl) rfl (fun _ _ _ h => h) (by rfl) ?_ (by assumption) ?_
    rotate_left
    · intro w hSw; (try dsimp only at hSw); go_simp; (try with_reducible rfl)
    (try simp only [Act.put, List.setIfInBounds_toArray, List.set_cons_zero, List.set_cons_succ])
    refine wpAnyH_ready (rs := [10]) (by kernel_rfl) (by simp) ?_
    refine AllReadyH.cons rfl (fun K hK => ?_) AllReadyH.nil
    go_simp
    refine (hEq _ (ry5.keep bs_0) (rz5.keep bs_0)).mono ?_
    rintro e w_1 ⟨rfl, hb_1⟩
    have bs_1 := bs_0.trans (hb_1.mono bs_0.size)
    cases qsm : sm with
    | false =>
      have QSM := Lib.hid qsm
      clear qsm
      (try go_wp2_with (fail))
      refine hK.out _ _ ?_ (fun hHeld => ?_)
      · exact ⟨rowCells (keepHeap bs_1 hA5), rowCells (keepHeap bs_1 hP5)⟩
      clear hK K
      (try simp only [Act.put, List.setIfInBounds_toArray, List.set_cons_zero, List.set_cons_succ])
      refine take_on (i := 11) (v := ?_) (some 50) rfl (by kernel_rfl) (by kernel_rfl) (by kernel_rfl) rfl (fun _ _ _ h => h) (by rfl) ?_ (by assumption) ?_
      rotate_left
      · intro w hSw; (try dsimp only at hSw); go_simp; (try with_reducible rfl)
      (try simp only [Act.put, List.setIfInBounds_toArray, List.set_cons_zero, List.set_cons_succ])
      refine take_on (i := 12) (v := ?_) (some 51) rfl (by kernel_rfl) (by kernel_rfl) (by kernel_rfl) rfl (fun _ _ _ h => h) (by rfl) ?_ (by assumption) ?_
      rotate_left
      · intro w hSw; (try dsimp only at hSw); go_simp; (try with_reducible rfl)
      (try simp only [Act.put, List.setIfInBounds_toArray, List.set_cons_zero, List.set_cons_succ])
      refine take_off (i := 13) (some 52) rfl (by kernel_rfl) (by kernel_rfl) (by kernel_rfl) rfl (fun _ _ _ h => h) (wanted_off (k := 12) (d := 51) (b := false) (c := true) rfl rfl rfl rfl) (by assumption) ?_
      (try simp only [Act.put, List.setIfInBounds_toArray, List.set_cons_zero, List.set_cons_succ])
      refine take_off (i := 14) (some 53) rfl (by kernel_rfl) (by kernel_rfl) (by kernel_rfl) rfl (fun _ _ _ h => h) (wanted_off (k := 12) (d := 51) (b := false) (c := true) rfl rfl rfl rfl) (by assumption) ?_
      (try simp only [Act.put, List.setIfInBounds_toArray, List.set_cons_zero, List.set_cons_succ])
      refine take_off (i := 15) (some 54) rfl (by kernel_rfl) (by kernel_rfl) (by kernel_rfl) rfl (fun _ _ _ h => h) (wanted_off (k := 12) (d := 51) (b := false) (c := true) rfl rfl rfl rfl) (by assumption) ?_
      (try simp only [Act.put, List.setIfInBounds_toArray, List.set_cons_zero, List.set_cons_succ])
      refine take_on (i := 16) (v := ?_) (some 55) rfl (by kernel_rfl) (by kernel_rfl) (by kernel_rfl) rfl (fun _ _ _ h => h) (by rfl) ?_ (by assumption) ?_
      rotate_left
      · intro w hSw; (try dsimp only at hSw); go_simp; (try with_reducible rfl)
      (try simp only [Act.put, List.setIfInBounds_toArray, List.set_cons_zero, List.set_cons_succ])
      refine wpAnyH_done (by kernel_rfl) ?_ _
      go_wp2_with (fail)
      go_meet
      case rel => exact ⟨by rw [QSM.out]; first | rfl | (cases tk <;> rfl), bs_1⟩
    | true =>
      have QSM := Lib.hid qsm
      clear qsm
      (try go_wp2_with (fail))
      refine hK.out _ _ ?_ (fun hHeld => ?_)
      · exact ⟨rowCells (keepHeap bs_1 hA5), rowCells (keepHeap bs_1 hP5)⟩
      clear hK K
      (try simp only [Act.put, List.setIfInBounds_toArray, List.set_cons_zero, List.set_cons_succ])
      refine take_on (i := 11) (v := ?_) (some 50) rfl (by kernel_rfl) (by kernel_rfl) (by kernel_rfl) rfl (fun _ _ _ h => h) (by rfl) ?_ (by assumption) ?_
      rotate_left
      · intro w hSw; (try dsimp only at hSw); go_simp; (try with_reducible rfl)
      (try simp only [Act.put, List.setIfInBounds_toArray, List.set_cons_zero, List.set_cons_succ])
      refine take_on (i := 12) (v := ?_) (some 51) rfl (by kernel_rfl) (by kernel_rfl) (by kernel_rfl) rfl (fun _ _ _ h => h) (by rfl) ?_ (by assumption) ?_
      rotate_left
      · intro w hSw; (try dsimp only at hSw); go_simp; (try with_reducible rfl)
      (try simp only [Act.put, List.setIfInBounds_toArray, List.set_cons_zero, List.set_cons_succ])
      refine take_on (i := 13) (v := ?_) (some 52) rfl (by kernel_rfl) (by kernel_rfl) (by kernel_rfl) rfl (fun _ _ _ h => h) (wanted_on (k := 12) (d := 51) (b := false) rfl rfl rfl) ?_ (by assumption) ?_
      rotate_left
      · intro w hSw; (try dsimp only at hSw); go_simp; (try with_reducible rfl)
      (try simp only [Act.put, List.setIfInBounds_toArray, List.set_cons_zero, List.set_cons_succ])
      refine wpAnyH_ready (rs := [14]) (by kernel_rfl) (by simp) ?_
      refine AllReadyH.cons rfl (fun K hK => ?_) AllReadyH.nil
      go_simp
      refine (hTk _ (rg5.keep bs_1)).mono ?_
      rintro e w_2 ⟨rfl, hb_2⟩
      have bs_2 := bs_1.trans (hb_2.mono bs_1.size)
      (try go_wp2_with (fail))
      refine hK.out _ _ ?_ (fun hHeld => ?_)
      · exact ⟨rowCells (keepHeap bs_2 hA5), rowCells (keepHeap bs_2 hP5)⟩
      clear hK K
      (try simp only [Act.put, List.setIfInBounds_toArray, List.set_cons_zero, List.set_cons_succ])
      refine take_on (i := 15) (v := ?_) (some 54) rfl (by kernel_rfl) (by kernel_rfl) (by kernel_rfl) rfl (fun _ _ _ h => h) (wanted_on (k := 12) (d := 51) (b := false) rfl rfl rfl) ?_ (by assumption) ?_
      rotate_left
      · intro w hSw; (try dsimp only at hSw); go_simp; (try with_reducible rfl)
      (try simp only [Act.put, List.setIfInBounds_toArray, List.set_cons_zero, List.set_cons_succ])
      refine take_on (i := 16) (v := ?_) (some 55) rfl (by kernel_rfl) (by kernel_rfl) (by kernel_rfl) rfl (fun _ _ _ h => h) (by rfl) ?_ (by assumption) ?_
      rotate_left
      · intro w hSw; (try dsimp only at hSw); go_simp; (try with_reducible rfl)
      (try simp only [Act.put, List.setIfInBounds_toArray, List.set_cons_zero, List.set_cons_succ])
      refine wpAnyH_done (by kernel_rfl) ?_ _
      go_wp2_with (fail)
      go_meet
      case rel => exact ⟨by rw [QSM.out]; first | rfl | (cases tk <;> rfl), bs_2⟩
  obtain ⟨rfl, hb7⟩ := hcut
  have ew : ∃ w7, w7 = wc := ⟨_, rfl⟩
  obtain ⟨w7, ew⟩ := ew
  subst ew
  have hA7 := keepHeap hb7 hA5
  have hB7 := keepHeap hb7 hB5
  have hP7 := keepHeap hb7 hP5
  have ho7 := ho5.keep hb7 (Nat.le_refl _)
  have hb07 := hb05.trans (hb7.mono hs05)
  have hb17 := hb5.trans (hb7.mono hs5)
  have hs7 := hb7.size
  have cA7 := rowCells hA7
  have cB7 := rowCells hB7
  have cP7 := rowCells hP7
  have fB7 := frozenHeap hB7 0
  clear e3
  cases hd : (sm && tk) with
  | false =>
    have HB : Hid (addB xs (n : Int) ys = false) := Lib.hid (by
      cases hs : sm with
      | false => exact addB_other (by rw [Int.toNat_natCast, ← HSM.out]; exact hs)
      | true => rw [hs, Bool.true_and] at hd; exact addB_far (by rw [Int.toNat_natCast, ← HG.out, ← HTK.out]; exact hd))
    have HT := Lib.hid (addT_no HB.out)
    clear hd
    go_wp2_with (fail)
    refine (hback hb17).mono ?_
    rintro e w6 ⟨u6, rfl, hO6, hK6, hb6⟩
    obtain ⟨a6, c6, rfl, -⟩ := id hO6
    have hB6 := keepHeap hb6 hB7
    have cB6 := rowCells hB6
    have fB6 := frozenHeap hB6 0
    clear cA7 cB7 cP7 fB7
    go_wp2_with (fail)
    have c9 := rowCells (setHeap (k := 0) (v := .slice a6 xs.length c6) hB6) 0
    refine bodyPost_ret (v := .tuple #[.agg #[.slice a6 xs.length c6], .bool false]) (by simp [results, Try.results18, go_sem, c9]) rfl ⟨.slice a6 xs.length c6, ?_, ?_, hK6, ?_⟩
    · rw [HB.out]
    · rw [HT.out]; exact (hO6.far (p := ⟨w.heap.size + 1, 0, none⟩) (by show w.heap.size + 1 < _; omega) _).up (by omega)
    · exact (hb07.trans (hb6.mono hb07.size)).setCell (p := ⟨w.heap.size + 1, 0, none⟩) (by show w.heap.size ≤ w.heap.size + 1; omega) _
  | true =>
    have HB : Hid (addB xs (n : Int) ys = true) := Lib.hid (by
      rw [Bool.and_eq_true] at hd
      exact addB_good HT0.out HR.out (by rw [Int.toNat_natCast, ← HSM.out]; exact hd.1) (by rw [Int.toNat_natCast, ← HG.out, ← HTK.out]; exact hd.2))
    have HT := Lib.hid (addT_yes HB.out)
    clear hd
    go_wp2_with (fail)
    have hK7 := OwnR.capd ho7
    have c9 := rowCells (setHeap (k := 0) (v := .slice ga gs.length gc) hB7) 0
    refine bodyPost_ret (v := .tuple #[.agg #[.slice ga gs.length gc], .bool true]) (by simp [results, Try.results18, go_sem, c9]) rfl ⟨.slice ga gs.length gc, ?_, ?_, hK7, ?_⟩
    · rw [HB.out]
    · rw [HT.out, Int.toNat_natCast, ← HG.out]; exact (ho7.own.far (p := ⟨w.heap.size + 1, 0, none⟩) (by show w.heap.size + 1 < _; omega) _).up (by omega)
    · exact hb07.setCell (p := ⟨w.heap.size + 1, 0, none⟩) (by show w.heap.size ≤ w.heap.size + 1; omega) _
theorem addInputs_impl {w : World} {v u : Value} {xs ys : List Int} (h : RdI w v xs) (hcv : CapI v) (h' : RdI w u ys) (hcu : CapI u) (hx : xs.length ≤ 1048576) (hy : ys.length ≤ 1048576) (f : Int) :
    Calls Try.prog 18 #[.agg #[v], .int .i64 f, u] w (RetAd w xs f ys) :=
  (addInputs_cap h hcv h' hcu hx hy f).mono fun e w' ⟨u, h1, h2, _, h3⟩ => ⟨u, h1, h2, h3⟩
end Go.Proofs.Ytgbdpmaajihfdaa
