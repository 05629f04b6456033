/-
  TakePacket of the program: what it answers has room for its rows. Lists of at most 2^20 tracks and inputs.
-/
import Derived.Test.YtgbdpmaajihfdaaTkP
import Derived.Test.YtgbdpmaajihfdaaAddI
import Derived.Deep.Cut
import Derived.Deep.CutBlock
namespace Go.Proofs.Ytgbdpmaajihfdaa
open Go.RowKit
set_option linter.all false
def RetTTC (w : World) (X : Rowi) (e : Ending) (w' : World) : Prop := ∃ v, e = .returned v ∧ OwnTT w' w.heap.size w'.heap.size v X ∧ CapR w' v X ∧ Below w.heap.size w w'
def RetTkC (w : World) (X : Rowi) (p : Pk) (e : Ending) (w' : World) : Prop := ∃ v, e = .returned (.tuple #[v, .bool (tkB X p)]) ∧ OwnTT w' w.heap.size w'.heap.size v (tkT X p) ∧ CapR w' v (tkT X p) ∧ Below w.heap.size w w'
theorem CapR.put {w : World} {g n c : Nat} {X : Rowi} (h : CapR w (.slice (some ⟨g, 0, none⟩) n c) X) {m : Nat} (hm : m < X.length) {u : Value} (hu : CapI u) (xs : List Int) : CapR (w.setCell ⟨g, m, none⟩ u) (.slice (some ⟨g, 0, none⟩) n c) (X.set m xs) := by
  rcases h with h | ⟨b, off, cap, e, h⟩
  · rw [h] at hm; simp at hm
  · obtain ⟨e1, e2, e3⟩ := Value.slice.inj e
    injection e1 with e1
    injection e1 with e4 e5 e6
    subst e4 e5 e2 e3
    refine .inr ⟨g, 0, c, by rw [List.length_set], fun j hj => ?_⟩
    rw [List.length_set] at hj
    obtain ⟨u', h1, h2⟩ := h j hj
    rw [Nat.zero_add] at h1 ⊢
    by_cases e : m = j
    · subst e; exact ⟨u, World.cell?_setCell_same _ _ _ h1, hu⟩
    · exact ⟨u', by rw [World.cell?_setCell_other _ _ _ _ (by simpa using e)]; exact h1, h2⟩
set_option maxHeartbeats 2000000 in
theorem copyTracks_cap {w : World} {v : Value} {X : Rowi} (h : RdR w v X) (hf : Few X) :
    Calls Try.prog 16 #[v] w (RetTTC w X) := by
  obtain ⟨a, cap, rfl, h⟩ := h
  obtain ⟨hn, hi⟩ := hf
  have hmk := fun W => run_make_capT W X.length hn
  have hown0 := OwnTT.capped w X.length hn
  go_enter Try.func16, Try.ntmps16
  go_wp2_with (fail)
  go_loopw [3, 11] (fun c i wr => ∃ k : Nat, k ≤ X.length ∧ i = .int .i64 (k : Int) ∧ OwnTT wr w.heap.size wr.heap.size c (X.take k) ∧ CapR wr c (X.take k) ∧ Below w.heap.size w wr) (fun _ i _ => X.length - (intOf i).toNat)
  case atStart => exact ⟨0, Nat.zero_le _, rfl, hown0, .inl (by simp), below1 _ _⟩
  case round =>
    obtain ⟨k, hk, rfl, hown, hcr, hbel⟩ := hrel
    by_cases hkl : k < X.length
    · obtain ⟨b, off, rfl, hc⟩ := h.resolve_left (by intro e; rw [e] at hkl; simp at hkl)
      obtain ⟨u, c0, r0⟩ := hc k hkl
      have c1 : wr.cell? ⟨b, off + k, none⟩ = some u := (hbel.cell (World.block_lt_of_cell? w _ c0)).trans c0
      have r1 := r0.keep hbel
      have HT := Lib.hid (List.take_succ_eq_append_getElem hkl)
      have hxl := hi X[k] (List.getElem_mem _)
      have HTL := Lib.hid (show (X.take k).length = k by rw [List.length_take]; omega)
      have hl1 : (k : Int) < (X.length : Int) := by omega
      have hsz := hbel.size
      obtain ⟨ax, cx, rfl, -⟩ := id r0
      generalize X[k] = x at *
      clear hc h c0 r0
      obtain ⟨W1, hW1, hA1, hb1, hS1⟩ := rows1 wr #[.slice ax x.length cx] 29
      have cA := rowCells hA1
      have hown1 := hown.keep hb1
      have hcr1 := hcr.keep hb1
      have hbel1 := hbel.trans (hb1.mono hsz)
      have hs1 := hb1.size
      have hrd := hown.rd
      clear hown hcr
      generalize X.take k = acc at *
      obtain ⟨al, cl, rfl, -⟩ := id hrd
      go_wp2_with (fail)
      refine (copyTrack_cap (r1.keep hb1) (by omega)).mono ?_
      rintro e w2 ⟨v2, rfl, o2, hci, hb2⟩
      have hown2 := hown1.keep hb2
      have hcr2 := hcr1.keep hb2
      have hbel2 := hbel1.trans (hb2.mono hbel1.size)
      have o2' : OwnI w2 wr.heap.size v2 x := o2.up hs1
      obtain ⟨a2, c2, rfl, -⟩ := id o2
      clear cA
      go_wp2_with (at_builtin; refine app_trackC rfl _ _ rfl w.heap.size wr.heap.size _ acc rfl hown2 _ x o2' rfl (by have := HTL.out; omega) ?_; intro v' w4 hown' hb' hcc)
      go_roundw
      case rel => exact ⟨k + 1, by omega, by go_num, by rw [HT.out]; exact hown', by rw [HT.out]; exact hcc hcr2 hci, hbel2.trans hb'⟩
      case measure => simp [intOf]; omega
    · have e : X.take k = X := List.take_of_length_le (by omega)
      rw [e] at hown hcr
      clear e
      go_wp2_with (fail)
      go_ret
      exact ⟨_, rfl, hown, hcr, hbel⟩
set_option maxRecDepth 100000 in
set_option maxHeartbeats 8000000 in
theorem takePacket_cap {w : World} {v : Value} {X : Rowi} (h : RdR w v X) (hc : CapR w v X) (hf : Few X) {fr tick first : Int} {ins acks : List Int} {sumTick sum time echo : Int} {vi va : Value} (hp : RdP w ⟨fr, tick, first, ins, acks, sumTick, sum, time, echo⟩ vi va) (hci : CapI vi) (hfp : Pk.few ⟨fr, tick, first, ins, acks, sumTick, sum, time, echo⟩) :
    Calls Try.prog 8 #[v, .agg (pkC ⟨fr, tick, first, ins, acks, sumTick, sum, time, echo⟩ vi va)] w (RetTkC w X ⟨fr, tick, first, ins, acks, sumTick, sum, time, echo⟩) := by
  have hpk := fun {W : World} (hb : Below w.heap.size w W) => packetOk_impl (hp.keep hb) ⟨Nat.le_trans hfp.1 (by omega), Nat.le_trans hfp.2 (by omega)⟩
  obtain ⟨hp1, hp2⟩ := hp
  have hp1 : RdI w vi ins := hp1
  have hp2 : RdI w va acks := hp2
  have hil : ins.length ≤ 1048576 := hfp.1
  have hal : acks.length ≤ 1048576 := hfp.2
  obtain ⟨a, cap, e0, -⟩ := id h
  subst e0
  obtain ⟨ai, ci, e0, -⟩ := id hp1
  subst e0
  obtain ⟨aa, ca, e0, -⟩ := id hp2
  subst e0
  unfold pkC at hpk ⊢
  dsimp only at hpk ⊢
  obtain ⟨W0, hW, hA, hB0, hS0⟩ := rows1 w #[Value.int .i64 fr, .int .i64 tick, .int .i64 first, .slice ai ins.length ci, .slice aa acks.length ca, .int .i64 sumTick, .int .i64 sum, .int .i64 time, .int .i64 echo] 31
  have hs0 := hB0.size
  have hlX : (X.length : Int) ≤ 1048576 := by have := hf.1; omega
  go_enter Try.func8, Try.ntmps8
  go_wp2_with (fail)
  try rw [hW]
  clear hW
  refine (copyTracks_cap (h.keep hB0) hf).mono ?_
  rintro e w1 ⟨v1, rfl, o1, k1, hb1⟩
  obtain ⟨a1, c1, e3, -⟩ := id o1.rd
  subst e3
  have hA1 := keepHeap hb1 hA
  have hb01 := hB0.trans (hb1.mono hB0.size)
  have hs1 := hb1.size
  clear hA
  go_wp2_with (fail)
  refine (tracksOk_impl (h.keep hb01) hf).mono ?_
  rintro e w2 ⟨rfl, hb2⟩
  have hA2 := keepHeap hb2 hA1
  have hb02 := hb01.trans (hb2.mono hb01.size)
  have hs2 := hb2.size
  have cA2 := rowCells hA2
  clear hA1
  cases qt : trksB X with
  | false =>
    have HG := Lib.hid (tk_t (p := ⟨fr, tick, first, ins, acks, sumTick, sum, time, echo⟩) qt)
    have HB := Lib.hid (tkB_no HG.out)
    have HT := Lib.hid (tkT_no HG.out)
    go_wp2_with (fail)
    go_ret2
    exact ⟨.slice a1 X.length c1, by rw [HB.out]; rfl, by rw [HT.out]; exact (o1.keep hb2).wide (by omega) (by omega) (Nat.le_refl _), by rw [HT.out]; exact k1.keep hb2, hb02⟩
  | true =>
  have QT := Lib.hid qt
  clear qt
  go_wp2_with (fail)
  refine (hpk hb02).mono ?_
  rintro e w3 ⟨rfl, hb3⟩
  have hA3 := keepHeap hb3 hA2
  have hb03 := hb02.trans (hb3.mono hb02.size)
  have hs3 := hb3.size
  have hb13 := hb2.trans (hb3.mono hb2.size)
  have cA3 := rowCells hA3
  clear hA2 cA2
  cases qp : pktB ⟨fr, tick, first, ins, acks, sumTick, sum, time, echo⟩ with
  | false =>
    have HG := Lib.hid (tk_p (X := X) qp)
    have HB := Lib.hid (tkB_no HG.out)
    have HT := Lib.hid (tkT_no HG.out)
    go_wp2_with (fail)
    go_ret2
    exact ⟨.slice a1 X.length c1, by rw [HB.out]; rfl, by rw [HT.out]; exact (o1.keep hb13).wide (by omega) (by omega) (Nat.le_refl _), by rw [HT.out]; exact k1.keep hb13, hb03⟩
  | true =>
  have QP := Lib.hid qp
  have hfr := pkt_fr qp
  clear qp hpk
  by_cases hl : ¬ acks.length = X.length
  · have z1 : decide ((acks.length : Int) = (X.length : Int)) = false := by simp; omega
    have z2 : ((acks.length : Int) != (X.length : Int)) = true := by simp; omega
    have z3 : (acks.length = X.length) = False := by simp [hl]
    have HL := Lib.hid hl
    clear hl
    have HG := Lib.hid (tk_l (X := X) (p := ⟨fr, tick, first, ins, acks, sumTick, sum, time, echo⟩) HL.out)
    have HB := Lib.hid (tkB_no HG.out)
    have HT := Lib.hid (tkT_no HG.out)
    go_wp2_with (fail)
    go_ret2
    exact ⟨.slice a1 X.length c1, by rw [HB.out]; rfl, by rw [HT.out]; exact (o1.keep hb13).wide (by omega) (by omega) (Nat.le_refl _), by rw [HT.out]; exact k1.keep hb13, hb03⟩
  have hl := Classical.not_not.1 hl
  have HL := Lib.hid hl
  obtain ⟨m, rfl⟩ : ∃ m : Nat, fr = (m : Int) := ⟨fr.toNat, by omega⟩
  have hm : m < X.length := by omega
  have z1 : decide ((acks.length : Int) = (X.length : Int)) = true := by simp; omega
  have z2 : ((acks.length : Int) != (X.length : Int)) = false := by simp; omega
  clear hl hfr
  have HG := Lib.hid (tk_ok (p := ⟨(m : Int), tick, first, ins, acks, sumTick, sum, time, echo⟩) QT.out QP.out HL.out)
  have HBT := Lib.hid (tk_yes hm HG.out)
  obtain ⟨b, off, cap', ax, cx, e0, cr0, hlc, rx0⟩ := row_cap h hc hm
  obtain ⟨rfl, -, rfl⟩ := Value.slice.inj e0
  clear e0
  have cr3 : w3.cell? ⟨b, off + m, none⟩ = some (.slice ax X[m].length cx) := (hb03.cell (World.block_lt_of_cell? w _ cr0)).trans cr0
  have hlt3 := World.block_lt_of_cell? w3 _ cr3
  have rx3 := rx0.keep hb03
  have ri3 := hp1.keep hb03
  have hxl : X[m].length ≤ 1048576 := hf.2 _ (List.getElem_mem _)
  have HXM := Lib.hid (List.set_getElem_self hm)
  clear cr0 rx0
  generalize X[m] = x at *
  have hcx : CapI (.slice ax x.length cx) := ⟨_, _, _, rfl, hlc⟩
  have hmX : (m : Int) < (X.length : Int) := by omega
  have hAd := fun {W : World} {v : Value} (h1 : RdI W v x) (hc1 : CapI v) (h2 : RdI W (.slice ai ins.length ci) ins) => addInputs_cap h1 hc1 h2 hci hxl hil first
  unfold RetAdK at hAd
  have HNO := Lib.hid (fun e => addT_no (xs := x) (f := first) (ys := ins) e)
  obtain ⟨T, hT⟩ : ∃ T, T = addT x first ins := ⟨_, rfl⟩
  obtain ⟨bb, hbb⟩ : ∃ bb, bb = addB x first ins := ⟨_, rfl⟩
  rw [← hT, ← hbb] at HNO HBT
  simp only [← hT, ← hbb] at hAd
  clear hT hbb
  go_upto_region 4 with (fail)
  go_cut [7, 8] from 28 (fun q ok wr => ∃ (p' : Nat) (vg : Value) (l r : Nat), q = .pointer (some ⟨p', 0, none⟩) ∧ ok = .bool bb ∧ wr.heap[p']? = some (.cells #[vg] 29 (0, 0)) ∧ OwnIn wr l r vg T ∧ w3.heap.size ≤ l ∧ r ≤ wr.heap.size ∧ w3.heap.size ≤ p' ∧ Below w3.heap.size w3 wr ∧ CapI vg)
  case first =>
    have hdr : w3.drew.heap.size = w3.heap.size := rfl
    have bs_0 : Below w3.heap.size w3 w3.drew := belowDrew w3 1
    refine wp_region_held_drew (S := (fun w' => (∀ j, w'.cell? ⟨w.heap.size, j, none⟩ = #[Value.int .i64 (m : Int), .int .i64 tick, .int .i64 first, .slice ai ins.length ci, .slice aa acks.length ca, .int .i64 sumTick, .int .i64 sum, .int .i64 time, .int .i64 echo][j]?) ∧ w'.cell? ⟨b, off + m, none⟩ = some (.slice ax x.length cx))) (by kernel_rfl) ?_ (fun hHeld => ?_)
    · exact ⟨rowCells (keepHeap bs_0 hA3), (bs_0.cell hlt3).trans cr3⟩
    refine take_on (i := 0) (v := ?_) (some 29) rfl (by kernel_rfl) (by kernel_rfl) (by kernel_rfl) rfl (fun _ _ _ h => h) (by rfl) ?_ (by assumption) ?_
    rotate_left
    · intro w hSw; (try dsimp only at hSw); go_simp; (try with_reducible rfl)
    (try simp only [Act.put, List.setIfInBounds_toArray, List.set_cons_zero, List.set_cons_succ])
    refine take_on (i := 1) (v := ?_) (some 30) rfl (by kernel_rfl) (by kernel_rfl) (by kernel_rfl) rfl (fun _ _ _ h => h) (by rfl) ?_ (by assumption) ?_
    rotate_left
    · intro w hSw; (try dsimp only at hSw); go_simp; (try with_reducible rfl)
    (try simp only [Act.put, List.setIfInBounds_toArray, List.set_cons_zero, List.set_cons_succ])
    refine take_on (i := 2) (v := ?_) (some 31) rfl (by kernel_rfl) (by kernel_rfl) (by kernel_rfl) rfl (fun _ _ _ h => h) (by rfl) ?_ (by assumption) ?_
    rotate_left
    · intro w hSw; (try dsimp only at hSw); go_simp; (try with_reducible rfl)
    (try simp only [Act.put, List.setIfInBounds_toArray, List.set_cons_zero, List.set_cons_succ])
    refine take_on (i := 3) (v := ?_) (some 32) rfl (by kernel_rfl) (by kernel_rfl) (by kernel_rfl) rfl (fun _ _ _ h => h) (by rfl) ?_ (by assumption) ?_
    rotate_left
    · intro w hSw; (try dsimp only at hSw); go_simp; (try with_reducible rfl)
    (try simp only [Act.put, List.setIfInBounds_toArray, List.set_cons_zero, List.set_cons_succ])
    refine take_on (i := 4) (v := ?_) (some 33) rfl (by kernel_rfl) (by kernel_rfl) (by kernel_rfl) rfl (fun _ _ _ h => h) (by rfl) ?_ (by assumption) ?_
    rotate_left
    · intro w hSw; (try dsimp only at hSw); go_simp; (try with_reducible rfl)
    (try simp only [Act.put, List.setIfInBounds_toArray, List.set_cons_zero, List.set_cons_succ])
    refine take_on (i := 5) (v := ?_) (some 34) rfl (by kernel_rfl) (by kernel_rfl) (by kernel_rfl) rfl (fun _ _ _ h => h) (by rfl) ?_ (by assumption) ?_
    rotate_left
    · intro w hSw; (try dsimp only at hSw); go_simp; (try with_reducible rfl)
    (try simp only [Act.put, List.setIfInBounds_toArray, List.set_cons_zero, List.set_cons_succ])
    refine take_on (i := 6) (v := ?_) (some 35) rfl (by kernel_rfl) (by kernel_rfl) (by kernel_rfl) rfl (fun _ _ _ h => h) (by rfl) ?_ (by assumption) ?_
    rotate_left
    · intro w hSw; (try dsimp only at hSw); go_simp; (try with_reducible rfl)
    (try simp only [Act.put, List.setIfInBounds_toArray, List.set_cons_zero, List.set_cons_succ])
    refine take_on (i := 7) (v := ?_) (some 36) rfl (by kernel_rfl) (by kernel_rfl) (by kernel_rfl) rfl (fun _ _ _ h => h) (by rfl) ?_ (by assumption) ?_
    rotate_left
    · intro w hSw; (try dsimp only at hSw); go_simp; (try with_reducible rfl)
    (try simp only [Act.put, List.setIfInBounds_toArray, List.set_cons_zero, List.set_cons_succ])
    refine take_on (i := 8) (v := ?_) (some 37) rfl (by kernel_rfl) (by kernel_rfl) (by kernel_rfl) rfl (fun _ _ _ h => h) (by rfl) ?_ (by assumption) ?_
    rotate_left
    · intro w hSw; (try dsimp only at hSw); go_simp; (try with_reducible rfl)
    (try simp only [Act.put, List.setIfInBounds_toArray, List.set_cons_zero, List.set_cons_succ])
    refine wpAnyH_ready (rs := [9, 13]) (by kernel_rfl) (by simp) ?_
    refine AllReadyH.cons rfl (fun K hK => ?_) (AllReadyH.cons rfl (fun K hK => ?_) AllReadyH.nil)
    · go_simp
      refine (hAd (rx3.keep bs_0) hcx (ri3.keep bs_0)).mono ?_
      rintro e w_1 ⟨vg, rfl, ow_1, hcg, hb_1⟩
      have bs_1 := bs_0.trans (hb_1.mono bs_0.size)
      have ow_1 := OwnIn.of ow_1
      obtain ⟨ga, gc, rfl, -⟩ := id ow_1.rd
      (try go_wp2_with (fail))
      have sz_1 := hb_1.size
      refine hK.out _ _ ?_ (fun hHeld => ?_)
      · exact ⟨rowCells (keepHeap bs_1 hA3), (bs_1.cell hlt3).trans cr3⟩
      clear hK K
      (try simp only [Act.put, List.setIfInBounds_toArray, List.set_cons_zero, List.set_cons_succ])
      refine take_on (i := 10) (v := ?_) (some 28) rfl (by kernel_rfl) (by kernel_rfl) (by kernel_rfl) rfl (fun _ _ _ h => h) (by rfl) ?_ (by assumption) ?_
      rotate_left
      · intro w hSw; (try dsimp only at hSw); go_simp; (try with_reducible rfl)
      (try simp only [Act.put, List.setIfInBounds_toArray, List.set_cons_zero, List.set_cons_succ])
      refine take_on (i := 11) (v := ?_) (some 39) rfl (by kernel_rfl) (by kernel_rfl) (by kernel_rfl) rfl (fun _ _ _ h => h) (by rfl) ?_ (by assumption) ?_
      rotate_left
      · intro w hSw; (try dsimp only at hSw); go_simp; (try with_reducible rfl)
      (try simp only [Act.put, List.setIfInBounds_toArray, List.set_cons_zero, List.set_cons_succ])
      refine take_on (i := 12) (v := ?_) (some 40) rfl (by kernel_rfl) (by kernel_rfl) (by kernel_rfl) rfl (fun _ _ _ h => h) (by rfl) ?_ (by assumption) ?_
      rotate_left
      · intro w hSw; (try dsimp only at hSw); go_simp; (try with_reducible rfl)
      (try simp only [Act.put, List.setIfInBounds_toArray, List.set_cons_zero, List.set_cons_succ])
      refine wpAnyH_ready (rs := [13]) (by kernel_rfl) (by simp) ?_
      refine AllReadyH.cons rfl (fun K hK => ?_) AllReadyH.nil
      go_simp
      obtain ⟨w_2, hw_2, P_2, hb_2⟩ : ∃ W, w_1.alloc (.cells #[.slice none 0 0] 29) = W ∧ W.heap[w_1.heap.size]? = some (.cells #[.slice none 0 0] 29 (0, 0)) ∧ Below w_1.heap.size w_1 W := ⟨_, rfl, heap_alloc_new w_1 _, below1 w_1 _⟩
      try rw [hw_2]
      clear hw_2
      have hp_2 := bs_1.size
      have bs_2 := bs_1.trans (hb_2.mono bs_1.size)
      have ow_2 := ow_1.keep hb_2
      have sz_2 := hb_2.size
      have ltp := (Array.getElem?_eq_some_iff.1 P_2).1
      refine hK.out _ _ ?_ (fun hHeld => ?_)
      · exact ⟨rowCells (keepHeap bs_2 hA3), (bs_2.cell hlt3).trans cr3⟩
      clear hK K
      (try simp only [Act.put, List.setIfInBounds_toArray, List.set_cons_zero, List.set_cons_succ])
      refine wpAnyH_ready (rs := [14]) (by kernel_rfl) (by simp) ?_
      refine AllReadyH.cons rfl (fun K hK => ?_) AllReadyH.nil
      have cn := rowCells P_2
      have fn := fun j => frozenHeap P_2 j
      go_simp
      have F_3 := set_farB w_2 (w_1.heap.size) 0 (.slice ga T.length gc)
      have P_3 := setHeap (k := 0) (v := .slice ga T.length gc) P_2
      have ow_3 := ow_2.apart2 F_3 (by omega)
      have bs_3 := Below.setCell (p := ⟨w_1.heap.size, 0, none⟩) bs_2 (by show _ ≤ w_1.heap.size; omega) (.slice ga T.length gc)
      have hzz : (w_2.setCell ⟨w_1.heap.size, 0, none⟩ (.slice ga T.length gc)).heap.size = w_2.heap.size := by simp
      obtain ⟨w_3, hw_3⟩ : ∃ W, w_2.setCell ⟨w_1.heap.size, 0, none⟩ (.slice ga T.length gc) = W := ⟨_, rfl⟩
      rw [hw_3] at P_3 bs_3 ow_3 hzz
      try rw [hw_3]
      clear hw_3 cn fn F_3
      refine hK.out _ _ ?_ (fun hHeld => ?_)
      · exact ⟨rowCells (keepHeap bs_3 hA3), (bs_3.cell hlt3).trans cr3⟩
      clear hK K
      (try simp only [Act.put, List.setIfInBounds_toArray, List.set_cons_zero, List.set_cons_succ])
      refine take_on (i := 15) (v := ?_) (some 8) rfl (by kernel_rfl) (by kernel_rfl) (by kernel_rfl) rfl (fun _ _ _ h => h) (by rfl) ?_ (by assumption) ?_
      rotate_left
      · intro w hSw; (try dsimp only at hSw); go_simp; (try with_reducible rfl)
      (try simp only [Act.put, List.setIfInBounds_toArray, List.set_cons_zero, List.set_cons_succ])
      refine wpAnyH_done (by kernel_rfl) ?_ _
      go_wp2_with (fail)
      have hbs := bs_3.size
      go_meet
      case rel => exact ⟨_, _, w3.heap.size, w_1.heap.size, rfl, rfl, P_3, ow_3, by omega, by omega, by omega, bs_3, hcg⟩
    · go_simp
      obtain ⟨w_1, hw_1, P_1, hb_1⟩ : ∃ W, (w3.alloc (.cells #[.slice none 0 0] 29)).drew = W ∧ W.heap[w3.heap.size]? = some (.cells #[.slice none 0 0] 29 (0, 0)) ∧ Below w3.drew.heap.size w3.drew W := ⟨_, rfl, heap_alloc_new w3.drew _, below1 w3.drew _⟩
      try rw [hw_1]
      clear hw_1
      have hp_1 := bs_0.size
      have bs_1 := bs_0.trans (hb_1.mono bs_0.size)
      have sz_1 := hb_1.size
      have ltp := (Array.getElem?_eq_some_iff.1 P_1).1
      refine hK.out _ _ ?_ (fun hHeld => ?_)
      · exact ⟨rowCells (keepHeap bs_1 hA3), (bs_1.cell hlt3).trans cr3⟩
      clear hK K
      (try simp only [Act.put, List.setIfInBounds_toArray, List.set_cons_zero, List.set_cons_succ])
      refine wpAnyH_ready (rs := [9]) (by kernel_rfl) (by simp) ?_
      refine AllReadyH.cons rfl (fun K hK => ?_) AllReadyH.nil
      go_simp
      refine (hAd (rx3.keep bs_1) hcx (ri3.keep bs_1)).mono ?_
      rintro e w_2 ⟨vg, rfl, ow_2, hcg, hb_2⟩
      have bs_2 := bs_1.trans (hb_2.mono bs_1.size)
      have P_2 := keepHeap hb_2 P_1
      have ow_2 := OwnIn.of ow_2
      obtain ⟨ga, gc, rfl, -⟩ := id ow_2.rd
      (try go_wp2_with (fail))
      have sz_2 := hb_2.size
      refine hK.out _ _ ?_ (fun hHeld => ?_)
      · exact ⟨rowCells (keepHeap bs_2 hA3), (bs_2.cell hlt3).trans cr3⟩
      clear hK K
      (try simp only [Act.put, List.setIfInBounds_toArray, List.set_cons_zero, List.set_cons_succ])
      refine take_on (i := 10) (v := ?_) (some 28) rfl (by kernel_rfl) (by kernel_rfl) (by kernel_rfl) rfl (fun _ _ _ h => h) (by rfl) ?_ (by assumption) ?_
      rotate_left
      · intro w hSw; (try dsimp only at hSw); go_simp; (try with_reducible rfl)
      (try simp only [Act.put, List.setIfInBounds_toArray, List.set_cons_zero, List.set_cons_succ])
      refine take_on (i := 11) (v := ?_) (some 39) rfl (by kernel_rfl) (by kernel_rfl) (by kernel_rfl) rfl (fun _ _ _ h => h) (by rfl) ?_ (by assumption) ?_
      rotate_left
      · intro w hSw; (try dsimp only at hSw); go_simp; (try with_reducible rfl)
      (try simp only [Act.put, List.setIfInBounds_toArray, List.set_cons_zero, List.set_cons_succ])
      refine take_on (i := 12) (v := ?_) (some 40) rfl (by kernel_rfl) (by kernel_rfl) (by kernel_rfl) rfl (fun _ _ _ h => h) (by rfl) ?_ (by assumption) ?_
      rotate_left
      · intro w hSw; (try dsimp only at hSw); go_simp; (try with_reducible rfl)
      (try simp only [Act.put, List.setIfInBounds_toArray, List.set_cons_zero, List.set_cons_succ])
      refine wpAnyH_ready (rs := [14]) (by kernel_rfl) (by simp) ?_
      refine AllReadyH.cons rfl (fun K hK => ?_) AllReadyH.nil
      have cn := rowCells P_2
      have fn := fun j => frozenHeap P_2 j
      go_simp
      have F_3 := set_farB w_2 (w3.heap.size) 0 (.slice ga T.length gc)
      have P_3 := setHeap (k := 0) (v := .slice ga T.length gc) P_2
      have ow_3 := ow_2.apart2 F_3 (by omega)
      have bs_3 := Below.setCell (p := ⟨w3.heap.size, 0, none⟩) bs_2 (by show _ ≤ w3.heap.size; omega) (.slice ga T.length gc)
      have hzz : (w_2.setCell ⟨w3.heap.size, 0, none⟩ (.slice ga T.length gc)).heap.size = w_2.heap.size := by simp
      obtain ⟨w_3, hw_3⟩ : ∃ W, w_2.setCell ⟨w3.heap.size, 0, none⟩ (.slice ga T.length gc) = W := ⟨_, rfl⟩
      rw [hw_3] at P_3 bs_3 ow_3 hzz
      try rw [hw_3]
      clear hw_3 cn fn F_3
      refine hK.out _ _ ?_ (fun hHeld => ?_)
      · exact ⟨rowCells (keepHeap bs_3 hA3), (bs_3.cell hlt3).trans cr3⟩
      clear hK K
      (try simp only [Act.put, List.setIfInBounds_toArray, List.set_cons_zero, List.set_cons_succ])
      refine take_on (i := 15) (v := ?_) (some 8) rfl (by kernel_rfl) (by kernel_rfl) (by kernel_rfl) rfl (fun _ _ _ h => h) (by rfl) ?_ (by assumption) ?_
      rotate_left
      · intro w hSw; (try dsimp only at hSw); go_simp; (try with_reducible rfl)
      (try simp only [Act.put, List.setIfInBounds_toArray, List.set_cons_zero, List.set_cons_succ])
      refine wpAnyH_done (by kernel_rfl) ?_ _
      go_wp2_with (fail)
      have hbs := bs_3.size
      go_meet
      case rel => exact ⟨_, _, w_1.heap.size, w_2.heap.size, rfl, rfl, P_3, ow_3, by omega, by omega, by omega, bs_3, hcg⟩
  obtain ⟨p', vg, l, r, rfl, rfl, hP5, ow5, hl5, hr5, hp5, hb5, hcg⟩ := hcut
  obtain ⟨w5, ew⟩ : ∃ w5, w5 = wc := ⟨_, rfl⟩
  subst ew
  have hA5 := keepHeap hb5 hA3
  have hs5 := hb5.size
  have hb05 := hb03.trans (hb5.mono hb03.size)
  have hb15 := hb13.trans (hb5.mono hb13.size)
  have o5 := o1.keep hb15
  have k5 := k1.keep hb15
  obtain ⟨ga, gc, rfl, -⟩ := id ow5.rd
  obtain ⟨g, c9, u9, e9, q1, q2, q3, q4⟩ := o5.slot hm
  obtain ⟨rfl, -, rfl⟩ := Value.slice.inj e9
  clear e9 cA3
  have cA5 := rowCells hA5
  have cP5 := rowCells hP5
  have HT2 := HBT
  have hp9 := o5.put hm (ow5.wide (lo' := w1.heap.size) (hi' := w5.heap.size) (by omega) hr5) (Nat.le_refl _) (by omega)
  go_wp2_with (fail)
  go_ret2
  exact ⟨.slice (some ⟨g, 0, none⟩) X.length c1, by rw [(HBT.out).1]; rfl, by rw [(HBT.out).2]; exact hp9.wide (by omega) (by simp) (Nat.le_refl _), by rw [(HBT.out).2]; exact CapR.put k5 hm hcg T, hb05.setCell (p := ⟨g, m, none⟩) (by show _ ≤ g; omega) _⟩
end Go.Proofs.Ytgbdpmaajihfdaa
