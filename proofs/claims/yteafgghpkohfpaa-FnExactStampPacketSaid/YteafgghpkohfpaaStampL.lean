/-
  The law on StampPacket. No condition.
-/
import Derived.Test.YteafgghpkohfpaaStamp
import Derived.Test.YteafgghpkohfpaaPkC
import Derived.Test.YteafgghpkohfpaaReg
import Derived.Deep.RegionHeld3
namespace Go.Proofs.Yteafgghpkohfpaa
open Go.RowKit
set_option linter.all false
theorem OwnIn.putP2 {w : World} {lo hi c : Nat} {v : Value} {xs : List Int} (h : OwnIn w lo hi v xs) (hc : c < lo ∨ hi ≤ c) (p : Pk) (vi va : Value) : OwnIn (Go.Proofs.Yteafgghpkohfpaa.putP w c p vi va) lo hi v xs := by
  obtain ⟨a, cap, rfl, h⟩ := h
  refine ⟨a, cap, rfl, ?_⟩
  rcases h with h | ⟨b, h1, h2, rfl, hr⟩
  · exact .inl h
  · refine .inr ⟨b, h1, h2, rfl, ?_⟩
    unfold Go.Proofs.Yteafgghpkohfpaa.putP
    repeat (refine RowI.far ?_ (by show c ≠ b; omega) _)
    exact hr
theorem OwnPIn.putP {w : World} {lo hi c : Nat} {y : Pk} {ui ua : Value} (h : OwnPIn w lo hi y ui ua) (hc : c < lo ∨ hi ≤ c) (p : Pk) (vi va : Value) : OwnPIn (Go.Proofs.Yteafgghpkohfpaa.putP w c p vi va) lo hi y ui ua := by
  obtain ⟨a1, b1, a2, b2, c1, c2, d, e1, e2⟩ := h
  exact ⟨a1, b1, a2, b2, c1, c2, d, e1.putP2 (by omega) p vi va, e2.putP2 (by omega) p vi va⟩
theorem MkI.low {w w' : World} {B T : Nat} {v : Value} {n : Nat} (h : MkI w B T v n) (hb : Below w.heap.size w w') : MkI w' B T v n := by
  obtain ⟨a, cap, hv, h⟩ := h
  refine ⟨a, cap, hv, ?_⟩
  rcases h with h | ⟨b, h1, h2, h3, ha, hr⟩
  · exact .inl h
  · have he := hb.block b h3
    exact .inr ⟨b, h1, h2, by have := hb.size; omega, ha, fun j hj => ⟨by obtain ⟨u, hu⟩ := (hr j hj).1; exact ⟨u, by rw [World.cell?_of_block (w := w) he]; exact hu⟩, by rw [show w'.frozen? ⟨b, j, none⟩ = w.frozen? ⟨b, j, none⟩ by simp [World.frozen?, he]]; exact (hr j hj).2⟩⟩
theorem stampX_few {p : Pk} {q : Pc} {now : Int} (h : p.few) : (stampX p q now).few := by unfold stampX; split <;> exact h
set_option maxRecDepth 100000 in
set_option maxHeartbeats 16000000 in
theorem lawStampPacket {w : World} (p : Pk) (vi va : Value) (h : RdP w p vi va) (hs : p.sane) (q : Pc) (fq : q.fits) (now : Int) (wn : (Lit.int .i64 now).wf = true) :
    Calls Try.prog 14 #[.agg (pkC p vi va), pcV q, .int .i64 now] w fun e w' => e = .returned (.bool true) ∧ Below w.heap.size w w' := by
  have h0 := h
  obtain ⟨ai, ci, rfl, -⟩ := id h.1
  obtain ⟨aa, ca, rfl, -⟩ := id h.2
  obtain ⟨w_1, hW, A_1, B_1, q0_1, hS2⟩ := rows2 w #[Value.int .i64 p.fr, .int .i64 p.tick, .int .i64 p.first, .slice ai p.ins.length ci, .slice aa p.acks.length ca, .int .i64 p.sumTick, .int .i64 p.sum, .int .i64 p.time, .int .i64 p.echo] #[Value.int .i64 q.newest, .int .i64 q.their, .int .i64 q.at0, .int .i64 q.trip, .int .i64 q.samples] 40 29
  have sz_1 := q0_1.size
  have tp := fun W => toPace_any q W
  unfold pcV at tp ⊢
  unfold pkC
  go_enter Try.func14, Try.ntmps14
  have cA_1 := rowCells A_1
  have cB_1 := rowCells B_1
  go_wp2_with (fail)
  try rw [hW]
  clear hW
  refine (szPacket_any (h0.keep q0_1) hs 1048576 (by omega) (by omega)).mono ?_
  rintro e w_2 ⟨r, rfl, hr, hb_2⟩
  have q0_2 := q0_1.trans (hb_2.mono q0_1.size)
  have A_2 := keepHeap hb_2 A_1
  have B_2 := keepHeap hb_2 B_1
  have sz_2 := hb_2.size
  clear q0_1 A_1 B_1 cA_1 cB_1
  clear hb_2
  rcases hr with rfl | ⟨hr0, hr1⟩
  · go_wp2_with (fail)
    go_ret
    exact ⟨rfl, q0_2⟩
  have zr : decide (r < 0) = false := by simpa using hr0
  have hn : p.few := ⟨by omega, by omega⟩
  clear hr1
  have htp := fun {W : World} {vi va : Value} (h1 : RdP W p vi va) => toPacket_any h1 hn
  have hspec := fun {W : World} {vi va : Value} (h1 : RdP W p vi va) => stamp_spec h1 hn q now
  have himpl := fun {W : World} {vi va : Value} (h1 : RdP W p vi va) => stamp_impl h1 hn q now
  have hfy : (stampX p q now).few := stampX_few hn
  generalize stampX p q now = y at hspec himpl hfy
  have heqx := fun {W : World} {vi va vi' va' : Value} (h1 : RdP W p vi va) (h2 : RdP W p vi' va') => eqPacket_same h1 h2 hn
  have heq := fun {W : World} {vi va vi' va' : Value} (h1 : RdP W y vi va) (h2 : RdP W y vi' va') => eqPacket_same h1 h2 hfy
  have hmx := fun {W : World} {B T : Nat} {vi va : Value} (h1 : MkI W B T vi p.ins.length) (h2 : MkI W B T va p.acks.length) (h3 : B ≤ W.heap.size) (h4 : T ≤ W.heap.size) => markPacket_ch h1 h2 h3 h4 hn 1 (by omega) (by omega)
  have hmk := fun {W : World} {lo hi : Nat} {vi va : Value} (h1 : OwnPIn W lo hi y vi va) (h2 : hi ≤ W.heap.size) => markPacket_far h1 h2 hfy 1 (by omega) (by omega)
  have hhd := fun {W : World} {vi va : Value} (h1 : RdP W (y.marked 1) vi va) => heldPacket_any y 1 h1 hfy (by omega) (by omega)
  rw [show ((1 : Nat) : Int) = 1 from rfl] at hmk hhd
  unfold RetPk at htp
  unfold RetPkIn at hspec himpl
  unfold pcV at hspec himpl
  unfold pkC at htp hspec himpl heqx heq hmx hmk hhd
  generalize 1 + y.marksN = mN at hmk hhd
  have zN : decide ((mN : Int) < 0) = false := by simp
  obtain ⟨mX, hX⟩ : ∃ m : Int, m = 1 + (p.ins.length : Int) + (p.acks.length : Int) := ⟨_, rfl⟩
  rw [← hX] at hmx
  have zX : decide (mX < 0) = false := by simp; omega
  clear hX
  have r2 := (h0.keep q0_2)
  have hz : w_2.drew.heap.size = w_2.heap.size := rfl
  have cA_2 := rowCells A_2
  have cB_2 := rowCells B_2
  go_upto_region 5 with (fail)
  go_cut [8] from 20 (fun z wr => ∃ U : World, U = wr ∧ ∃ (g : Nat) (aiS : Option Addr) (ciS : Nat) (aaS : Option Addr) (caS lo hi : Nat), z = .pointer (some ⟨g, 0, none⟩) ∧ wr.heap[g]? = some (.cells #[.int .i64 y.fr, .int .i64 y.tick, .int .i64 y.first, .slice aiS y.ins.length ciS, .slice aaS y.acks.length caS, .int .i64 y.sumTick, .int .i64 y.sum, .int .i64 y.time, .int .i64 y.echo] 43 (0, 0)) ∧ OwnPIn wr lo hi y (.slice aiS y.ins.length ciS) (.slice aaS y.acks.length caS) ∧ w_2.heap.size ≤ lo ∧ hi ≤ wr.heap.size ∧ (g < lo ∨ hi ≤ g) ∧ w_2.heap.size ≤ g ∧ Below w_2.heap.size w_2 wr)
  case first =>
    have bs_0 : Below w_2.heap.size w_2 w_2.drew := belowDrew w_2 1
    refine wp_region_held_drew (S := (fun w' => (∀ j, w'.cell? ⟨w.heap.size, j, none⟩ = #[Value.int .i64 p.fr, .int .i64 p.tick, .int .i64 p.first, .slice ai p.ins.length ci, .slice aa p.acks.length ca, .int .i64 p.sumTick, .int .i64 p.sum, .int .i64 p.time, .int .i64 p.echo][j]?) ∧ (∀ j, w'.cell? ⟨w.heap.size + 1, j, none⟩ = #[Value.int .i64 q.newest, .int .i64 q.their, .int .i64 q.at0, .int .i64 q.trip, .int .i64 q.samples][j]?))) (by kernel_rfl) ?_ (fun hHeld => ?_)
    · exact ⟨rowCells (keepHeap bs_0 A_2), rowCells (keepHeap bs_0 B_2)⟩
    refine take_on (i := 0) (v := ?_) (some 20) rfl (by kernel_rfl) (by kernel_rfl) (by kernel_rfl) rfl (fun _ _ _ h => h) (by rfl) ?_ (by assumption) ?_
    rotate_left
    · intro w hSw; (try dsimp only at hSw); go_simp; (try with_reducible rfl)
    (try simp only [Act.put, List.setIfInBounds_toArray, List.set_cons_zero, List.set_cons_succ])
    refine take_on (i := 2) (v := ?_) (some 22) rfl (by kernel_rfl) (by kernel_rfl) (by kernel_rfl) rfl (fun _ _ _ h => h) (by rfl) ?_ (by assumption) ?_
    rotate_left
    · intro w hSw; (try dsimp only at hSw); go_simp; (try with_reducible rfl)
    (try simp only [Act.put, List.setIfInBounds_toArray, List.set_cons_zero, List.set_cons_succ])
    refine take_on (i := 4) (v := ?_) (some 24) rfl (by kernel_rfl) (by kernel_rfl) (by kernel_rfl) rfl (fun _ _ _ h => h) (by rfl) ?_ (by assumption) ?_
    rotate_left
    · intro w hSw; (try dsimp only at hSw); go_simp; (try with_reducible rfl)
    (try simp only [Act.put, List.setIfInBounds_toArray, List.set_cons_zero, List.set_cons_succ])
    refine wpAnyH_ready (rs := [1, 6]) (by kernel_rfl) (by simp) ?_
    refine AllReadyH.cons rfl (fun K hK => ?_) (AllReadyH.cons rfl (fun K hK => ?_) AllReadyH.nil)
    · go_simp
      refine (htp (r2.keep bs_0)).mono ?_
      rintro e v_1 ⟨vi3_1, va3_1, rfl, oi3_1, -, oa3_1, -, hb_1⟩
      have bs_1 := bs_0.trans (hb_1.mono bs_0.size)
      have rd_1 : RdP v_1 p vi3_1 va3_1 := ⟨oi3_1.rd, oa3_1.rd⟩
      obtain ⟨ai3_1, ci3_1, rfl, -⟩ := id rd_1.1
      obtain ⟨aa3_1, ca3_1, rfl, -⟩ := id rd_1.2
      have sz_1 := hb_1.size
      (try go_wp2_with (fail))
      refine hK.out _ _ ?_ (fun hHeld => ?_)
      · exact ⟨rowCells (keepHeap bs_1 A_2), rowCells (keepHeap bs_1 B_2)⟩
      clear hK K
      (try simp only [Act.put, List.setIfInBounds_toArray, List.set_cons_zero, List.set_cons_succ])
      refine wpAnyH_ready (rs := [3, 6]) (by kernel_rfl) (by simp) ?_
      refine AllReadyH.cons rfl (fun K hK => ?_) (AllReadyH.cons rfl (fun K hK => ?_) AllReadyH.nil)
      · go_simp
        refine (tp _).mono ?_
        rintro e v_2 ⟨rfl, hb_2⟩
        have bs_2 := bs_1.trans (hb_2.mono bs_1.size)
        have rd_2 := rd_1.keep hb_2
        have sz_2 := hb_2.size
        (try go_wp2_with (fail))
        refine hK.out _ _ ?_ (fun hHeld => ?_)
        · exact ⟨rowCells (keepHeap bs_2 A_2), rowCells (keepHeap bs_2 B_2)⟩
        clear hK K
        (try simp only [Act.put, List.setIfInBounds_toArray, List.set_cons_zero, List.set_cons_succ])
        refine wpAnyH_ready (rs := [5, 6]) (by kernel_rfl) (by simp) ?_
        refine AllReadyH.cons rfl (fun K hK => ?_) (AllReadyH.cons rfl (fun K hK => ?_) AllReadyH.nil)
        · go_simp
          refine (hspec rd_2).mono ?_
          rintro e v_3 ⟨viS, vaS, rfl, oS_3, -, -, hb_3⟩
          have bs_3 := bs_2.trans (hb_3.mono bs_2.size)
          have rd_3 := rd_2.keep hb_3
          obtain ⟨aiS, ciS, rfl, -⟩ := id oS_3.rd.1
          obtain ⟨aaS, caS, rfl, -⟩ := id oS_3.rd.2
          have sz_3 := hb_3.size
          (try go_wp2_with (fail))
          refine hK.out _ _ ?_ (fun hHeld => ?_)
          · exact ⟨rowCells (keepHeap bs_3 A_2), rowCells (keepHeap bs_3 B_2)⟩
          clear hK K
          (try simp only [Act.put, List.setIfInBounds_toArray, List.set_cons_zero, List.set_cons_succ])
          refine wpAnyH_ready (rs := [6]) (by kernel_rfl) (by simp) ?_
          refine AllReadyH.cons rfl (fun K hK => ?_) AllReadyH.nil
          go_simp
          obtain ⟨v_4, hw_4, P_4, hb_4⟩ : ∃ W, v_3.alloc (.cells #[.int .i64 0, .int .i64 0, .int .i64 0, .slice none 0 0, .slice none 0 0, .int .i64 0, .int .i64 0, .int .i64 0, .int .i64 0] 43) = W ∧ W.heap[v_3.heap.size]? = some (.cells #[.int .i64 0, .int .i64 0, .int .i64 0, .slice none 0 0, .slice none 0 0, .int .i64 0, .int .i64 0, .int .i64 0, .int .i64 0] 43 (0, 0)) ∧ Below v_3.heap.size v_3 W := ⟨_, rfl, heap_alloc_new v_3 _, below1 v_3 _⟩
          try rw [hw_4]
          clear hw_4
          have hp_4 := bs_3.size
          have bs_4 := bs_3.trans (hb_4.mono bs_3.size)
          have rd_4 := rd_3.keep hb_4
          have oS_4 := oS_3.keep hb_4
          have sz_4 := hb_4.size
          have lt_4 := blockLt P_4
          refine hK.out _ _ ?_ (fun hHeld => ?_)
          · exact ⟨rowCells (keepHeap bs_4 A_2), rowCells (keepHeap bs_4 B_2)⟩
          clear hK K
          (try simp only [Act.put, List.setIfInBounds_toArray, List.set_cons_zero, List.set_cons_succ])
          refine wpAnyH_ready (rs := [7]) (by kernel_rfl) (by simp) ?_
          refine AllReadyH.cons rfl (fun K hK => ?_) AllReadyH.nil
          have cn := rowCells P_4
          have fn := fun j => frozenHeap P_4 j
          go_simp
          have P_5 := putP_heap P_4 rfl y (.slice aiS y.ins.length ciS) (.slice aaS y.acks.length caS)
          have bs_5 := putP_below bs_4 (c := v_3.heap.size) (by have := hp_4; omega) y (.slice aiS y.ins.length ciS) (.slice aaS y.acks.length caS)
          have oS_5 := OwnPIn.putP oS_4 (c := v_3.heap.size) (by omega) y (.slice aiS y.ins.length ciS) (.slice aaS y.acks.length caS)
          have sz_5 : v_4.heap.size ≤ (putP v_4 (v_3.heap.size) y (.slice aiS y.ins.length ciS) (.slice aaS y.acks.length caS)).heap.size := by rw [putP_size]; exact Nat.le_refl _
          obtain ⟨v_5, hw_5⟩ : ∃ W, putP v_4 (v_3.heap.size) y (.slice aiS y.ins.length ciS) (.slice aaS y.acks.length caS) = W := ⟨_, rfl⟩
          rw [hw_5] at P_5 bs_5 oS_5 sz_5
          unfold putP at hw_5
          try rw [hw_5]
          clear hw_5 cn fn
          refine hK.out _ _ ?_ (fun hHeld => ?_)
          · exact ⟨rowCells (keepHeap bs_5 A_2), rowCells (keepHeap bs_5 B_2)⟩
          clear hK K
          (try simp only [Act.put, List.setIfInBounds_toArray, List.set_cons_zero, List.set_cons_succ])
          refine wpAnyH_done (by kernel_rfl) ?_ _
          go_wp2_with (fail)
          go_meet
          case rel => exact ⟨_, rfl, _, _, _, _, _, v_2.heap.size, v_3.heap.size, rfl, P_5, oS_5, by omega, by omega, by omega, by have := hp_4; omega, bs_5⟩
        · go_simp
          obtain ⟨v_3, hw_3, P_3, hb_3⟩ : ∃ W, v_2.alloc (.cells #[.int .i64 0, .int .i64 0, .int .i64 0, .slice none 0 0, .slice none 0 0, .int .i64 0, .int .i64 0, .int .i64 0, .int .i64 0] 43) = W ∧ W.heap[v_2.heap.size]? = some (.cells #[.int .i64 0, .int .i64 0, .int .i64 0, .slice none 0 0, .slice none 0 0, .int .i64 0, .int .i64 0, .int .i64 0, .int .i64 0] 43 (0, 0)) ∧ Below v_2.heap.size v_2 W := ⟨_, rfl, heap_alloc_new v_2 _, below1 v_2 _⟩
          try rw [hw_3]
          clear hw_3
          have hp_3 := bs_2.size
          have bs_3 := bs_2.trans (hb_3.mono bs_2.size)
          have rd_3 := rd_2.keep hb_3
          have sz_3 := hb_3.size
          have lt_3 := blockLt P_3
          refine hK.out _ _ ?_ (fun hHeld => ?_)
          · exact ⟨rowCells (keepHeap bs_3 A_2), rowCells (keepHeap bs_3 B_2)⟩
          clear hK K
          (try simp only [Act.put, List.setIfInBounds_toArray, List.set_cons_zero, List.set_cons_succ])
          refine wpAnyH_ready (rs := [5]) (by kernel_rfl) (by simp) ?_
          refine AllReadyH.cons rfl (fun K hK => ?_) AllReadyH.nil
          go_simp
          refine (hspec rd_3).mono ?_
          rintro e v_4 ⟨viS, vaS, rfl, oS_4, -, -, hb_4⟩
          have bs_4 := bs_3.trans (hb_4.mono bs_3.size)
          have rd_4 := rd_3.keep hb_4
          have P_4 := keepHeap hb_4 P_3
          obtain ⟨aiS, ciS, rfl, -⟩ := id oS_4.rd.1
          obtain ⟨aaS, caS, rfl, -⟩ := id oS_4.rd.2
          have sz_4 := hb_4.size
          have lt_4 := blockLt P_4
          (try go_wp2_with (fail))
          refine hK.out _ _ ?_ (fun hHeld => ?_)
          · exact ⟨rowCells (keepHeap bs_4 A_2), rowCells (keepHeap bs_4 B_2)⟩
          clear hK K
          (try simp only [Act.put, List.setIfInBounds_toArray, List.set_cons_zero, List.set_cons_succ])
          refine wpAnyH_ready (rs := [7]) (by kernel_rfl) (by simp) ?_
          refine AllReadyH.cons rfl (fun K hK => ?_) AllReadyH.nil
          have cn := rowCells P_4
          have fn := fun j => frozenHeap P_4 j
          go_simp
          have P_5 := putP_heap P_4 rfl y (.slice aiS y.ins.length ciS) (.slice aaS y.acks.length caS)
          have bs_5 := putP_below bs_4 (c := v_2.heap.size) (by have := hp_3; omega) y (.slice aiS y.ins.length ciS) (.slice aaS y.acks.length caS)
          have oS_5 := OwnPIn.putP oS_4 (c := v_2.heap.size) (by omega) y (.slice aiS y.ins.length ciS) (.slice aaS y.acks.length caS)
          have sz_5 : v_4.heap.size ≤ (putP v_4 (v_2.heap.size) y (.slice aiS y.ins.length ciS) (.slice aaS y.acks.length caS)).heap.size := by rw [putP_size]; exact Nat.le_refl _
          obtain ⟨v_5, hw_5⟩ : ∃ W, putP v_4 (v_2.heap.size) y (.slice aiS y.ins.length ciS) (.slice aaS y.acks.length caS) = W := ⟨_, rfl⟩
          rw [hw_5] at P_5 bs_5 oS_5 sz_5
          unfold putP at hw_5
          try rw [hw_5]
          clear hw_5 cn fn
          refine hK.out _ _ ?_ (fun hHeld => ?_)
          · exact ⟨rowCells (keepHeap bs_5 A_2), rowCells (keepHeap bs_5 B_2)⟩
          clear hK K
          (try simp only [Act.put, List.setIfInBounds_toArray, List.set_cons_zero, List.set_cons_succ])
          refine wpAnyH_done (by kernel_rfl) ?_ _
          go_wp2_with (fail)
          go_meet
          case rel => exact ⟨_, rfl, _, _, _, _, _, v_3.heap.size, v_4.heap.size, rfl, P_5, oS_5, by omega, by omega, by omega, by have := hp_3; omega, bs_5⟩
      · go_simp
        obtain ⟨v_2, hw_2, P_2, hb_2⟩ : ∃ W, v_1.alloc (.cells #[.int .i64 0, .int .i64 0, .int .i64 0, .slice none 0 0, .slice none 0 0, .int .i64 0, .int .i64 0, .int .i64 0, .int .i64 0] 43) = W ∧ W.heap[v_1.heap.size]? = some (.cells #[.int .i64 0, .int .i64 0, .int .i64 0, .slice none 0 0, .slice none 0 0, .int .i64 0, .int .i64 0, .int .i64 0, .int .i64 0] 43 (0, 0)) ∧ Below v_1.heap.size v_1 W := ⟨_, rfl, heap_alloc_new v_1 _, below1 v_1 _⟩
        try rw [hw_2]
        clear hw_2
        have hp_2 := bs_1.size
        have bs_2 := bs_1.trans (hb_2.mono bs_1.size)
        have rd_2 := rd_1.keep hb_2
        have sz_2 := hb_2.size
        have lt_2 := blockLt P_2
        refine hK.out _ _ ?_ (fun hHeld => ?_)
        · exact ⟨rowCells (keepHeap bs_2 A_2), rowCells (keepHeap bs_2 B_2)⟩
        clear hK K
        (try simp only [Act.put, List.setIfInBounds_toArray, List.set_cons_zero, List.set_cons_succ])
        refine wpAnyH_ready (rs := [3]) (by kernel_rfl) (by simp) ?_
        refine AllReadyH.cons rfl (fun K hK => ?_) AllReadyH.nil
        go_simp
        refine (tp _).mono ?_
        rintro e v_3 ⟨rfl, hb_3⟩
        have bs_3 := bs_2.trans (hb_3.mono bs_2.size)
        have rd_3 := rd_2.keep hb_3
        have P_3 := keepHeap hb_3 P_2
        have sz_3 := hb_3.size
        have lt_3 := blockLt P_3
        (try go_wp2_with (fail))
        refine hK.out _ _ ?_ (fun hHeld => ?_)
        · exact ⟨rowCells (keepHeap bs_3 A_2), rowCells (keepHeap bs_3 B_2)⟩
        clear hK K
        (try simp only [Act.put, List.setIfInBounds_toArray, List.set_cons_zero, List.set_cons_succ])
        refine wpAnyH_ready (rs := [5]) (by kernel_rfl) (by simp) ?_
        refine AllReadyH.cons rfl (fun K hK => ?_) AllReadyH.nil
        go_simp
        refine (hspec rd_3).mono ?_
        rintro e v_4 ⟨viS, vaS, rfl, oS_4, -, -, hb_4⟩
        have bs_4 := bs_3.trans (hb_4.mono bs_3.size)
        have rd_4 := rd_3.keep hb_4
        have P_4 := keepHeap hb_4 P_3
        obtain ⟨aiS, ciS, rfl, -⟩ := id oS_4.rd.1
        obtain ⟨aaS, caS, rfl, -⟩ := id oS_4.rd.2
        have sz_4 := hb_4.size
        have lt_4 := blockLt P_4
        (try go_wp2_with (fail))
        refine hK.out _ _ ?_ (fun hHeld => ?_)
        · exact ⟨rowCells (keepHeap bs_4 A_2), rowCells (keepHeap bs_4 B_2)⟩
        clear hK K
        (try simp only [Act.put, List.setIfInBounds_toArray, List.set_cons_zero, List.set_cons_succ])
        refine wpAnyH_ready (rs := [7]) (by kernel_rfl) (by simp) ?_
        refine AllReadyH.cons rfl (fun K hK => ?_) AllReadyH.nil
        have cn := rowCells P_4
        have fn := fun j => frozenHeap P_4 j
        go_simp
        have P_5 := putP_heap P_4 rfl y (.slice aiS y.ins.length ciS) (.slice aaS y.acks.length caS)
        have bs_5 := putP_below bs_4 (c := v_1.heap.size) (by have := hp_2; omega) y (.slice aiS y.ins.length ciS) (.slice aaS y.acks.length caS)
        have oS_5 := OwnPIn.putP oS_4 (c := v_1.heap.size) (by omega) y (.slice aiS y.ins.length ciS) (.slice aaS y.acks.length caS)
        have sz_5 : v_4.heap.size ≤ (putP v_4 (v_1.heap.size) y (.slice aiS y.ins.length ciS) (.slice aaS y.acks.length caS)).heap.size := by rw [putP_size]; exact Nat.le_refl _
        obtain ⟨v_5, hw_5⟩ : ∃ W, putP v_4 (v_1.heap.size) y (.slice aiS y.ins.length ciS) (.slice aaS y.acks.length caS) = W := ⟨_, rfl⟩
        rw [hw_5] at P_5 bs_5 oS_5 sz_5
        unfold putP at hw_5
        try rw [hw_5]
        clear hw_5 cn fn
        refine hK.out _ _ ?_ (fun hHeld => ?_)
        · exact ⟨rowCells (keepHeap bs_5 A_2), rowCells (keepHeap bs_5 B_2)⟩
        clear hK K
        (try simp only [Act.put, List.setIfInBounds_toArray, List.set_cons_zero, List.set_cons_succ])
        refine wpAnyH_done (by kernel_rfl) ?_ _
        go_wp2_with (fail)
        go_meet
        case rel => exact ⟨_, rfl, _, _, _, _, _, v_3.heap.size, v_4.heap.size, rfl, P_5, oS_5, by omega, by omega, by omega, by have := hp_2; omega, bs_5⟩
    · go_simp
      obtain ⟨v_1, hw_1, P_1, hb_1⟩ : ∃ W, (w_2.alloc (.cells #[.int .i64 0, .int .i64 0, .int .i64 0, .slice none 0 0, .slice none 0 0, .int .i64 0, .int .i64 0, .int .i64 0, .int .i64 0] 43)).drew = W ∧ W.heap[w_2.heap.size]? = some (.cells #[.int .i64 0, .int .i64 0, .int .i64 0, .slice none 0 0, .slice none 0 0, .int .i64 0, .int .i64 0, .int .i64 0, .int .i64 0] 43 (0, 0)) ∧ Below w_2.drew.heap.size w_2.drew W := ⟨_, rfl, heap_alloc_new w_2.drew _, below1 w_2.drew _⟩
      try rw [hw_1]
      clear hw_1
      have hp_1 := bs_0.size
      have bs_1 := bs_0.trans (hb_1.mono bs_0.size)
      have sz_1 := hb_1.size
      have lt_1 := blockLt P_1
      refine hK.out _ _ ?_ (fun hHeld => ?_)
      · exact ⟨rowCells (keepHeap bs_1 A_2), rowCells (keepHeap bs_1 B_2)⟩
      clear hK K
      (try simp only [Act.put, List.setIfInBounds_toArray, List.set_cons_zero, List.set_cons_succ])
      refine wpAnyH_ready (rs := [1]) (by kernel_rfl) (by simp) ?_
      refine AllReadyH.cons rfl (fun K hK => ?_) AllReadyH.nil
      go_simp
      refine (htp (r2.keep bs_1)).mono ?_
      rintro e v_2 ⟨vi3_2, va3_2, rfl, oi3_2, -, oa3_2, -, hb_2⟩
      have bs_2 := bs_1.trans (hb_2.mono bs_1.size)
      have P_2 := keepHeap hb_2 P_1
      have rd_2 : RdP v_2 p vi3_2 va3_2 := ⟨oi3_2.rd, oa3_2.rd⟩
      obtain ⟨ai3_2, ci3_2, rfl, -⟩ := id rd_2.1
      obtain ⟨aa3_2, ca3_2, rfl, -⟩ := id rd_2.2
      have sz_2 := hb_2.size
      have lt_2 := blockLt P_2
      (try go_wp2_with (fail))
      refine hK.out _ _ ?_ (fun hHeld => ?_)
      · exact ⟨rowCells (keepHeap bs_2 A_2), rowCells (keepHeap bs_2 B_2)⟩
      clear hK K
      (try simp only [Act.put, List.setIfInBounds_toArray, List.set_cons_zero, List.set_cons_succ])
      refine wpAnyH_ready (rs := [3]) (by kernel_rfl) (by simp) ?_
      refine AllReadyH.cons rfl (fun K hK => ?_) AllReadyH.nil
      go_simp
      refine (tp _).mono ?_
      rintro e v_3 ⟨rfl, hb_3⟩
      have bs_3 := bs_2.trans (hb_3.mono bs_2.size)
      have P_3 := keepHeap hb_3 P_2
      have rd_3 := rd_2.keep hb_3
      have sz_3 := hb_3.size
      have lt_3 := blockLt P_3
      (try go_wp2_with (fail))
      refine hK.out _ _ ?_ (fun hHeld => ?_)
      · exact ⟨rowCells (keepHeap bs_3 A_2), rowCells (keepHeap bs_3 B_2)⟩
      clear hK K
      (try simp only [Act.put, List.setIfInBounds_toArray, List.set_cons_zero, List.set_cons_succ])
      refine wpAnyH_ready (rs := [5]) (by kernel_rfl) (by simp) ?_
      refine AllReadyH.cons rfl (fun K hK => ?_) AllReadyH.nil
      go_simp
      refine (hspec rd_3).mono ?_
      rintro e v_4 ⟨viS, vaS, rfl, oS_4, -, -, hb_4⟩
      have bs_4 := bs_3.trans (hb_4.mono bs_3.size)
      have P_4 := keepHeap hb_4 P_3
      have rd_4 := rd_3.keep hb_4
      obtain ⟨aiS, ciS, rfl, -⟩ := id oS_4.rd.1
      obtain ⟨aaS, caS, rfl, -⟩ := id oS_4.rd.2
      have sz_4 := hb_4.size
      have lt_4 := blockLt P_4
      (try go_wp2_with (fail))
      refine hK.out _ _ ?_ (fun hHeld => ?_)
      · exact ⟨rowCells (keepHeap bs_4 A_2), rowCells (keepHeap bs_4 B_2)⟩
      clear hK K
      (try simp only [Act.put, List.setIfInBounds_toArray, List.set_cons_zero, List.set_cons_succ])
      refine wpAnyH_ready (rs := [7]) (by kernel_rfl) (by simp) ?_
      refine AllReadyH.cons rfl (fun K hK => ?_) AllReadyH.nil
      have cn := rowCells P_4
      have fn := fun j => frozenHeap P_4 j
      go_simp
      have P_5 := putP_heap P_4 rfl y (.slice aiS y.ins.length ciS) (.slice aaS y.acks.length caS)
      have bs_5 := putP_below bs_4 (c := w_2.heap.size) (by have := hp_1; omega) y (.slice aiS y.ins.length ciS) (.slice aaS y.acks.length caS)
      have oS_5 := OwnPIn.putP oS_4 (c := w_2.heap.size) (by omega) y (.slice aiS y.ins.length ciS) (.slice aaS y.acks.length caS)
      have sz_5 : v_4.heap.size ≤ (putP v_4 (w_2.heap.size) y (.slice aiS y.ins.length ciS) (.slice aaS y.acks.length caS)).heap.size := by rw [putP_size]; exact Nat.le_refl _
      obtain ⟨v_5, hw_5⟩ : ∃ W, putP v_4 (w_2.heap.size) y (.slice aiS y.ins.length ciS) (.slice aaS y.acks.length caS) = W := ⟨_, rfl⟩
      rw [hw_5] at P_5 bs_5 oS_5 sz_5
      unfold putP at hw_5
      try rw [hw_5]
      clear hw_5 cn fn
      refine hK.out _ _ ?_ (fun hHeld => ?_)
      · exact ⟨rowCells (keepHeap bs_5 A_2), rowCells (keepHeap bs_5 B_2)⟩
      clear hK K
      (try simp only [Act.put, List.setIfInBounds_toArray, List.set_cons_zero, List.set_cons_succ])
      refine wpAnyH_done (by kernel_rfl) ?_ _
      go_wp2_with (fail)
      go_meet
      case rel => exact ⟨_, rfl, _, _, _, _, _, v_3.heap.size, v_4.heap.size, rfl, P_5, oS_5, by omega, by omega, by omega, by have := hp_1; omega, bs_5⟩
  obtain ⟨u5, hu5, gP, aiP, ciP, aaP, caP, loP, hiP, rfl, hP0, oP0, hlP, hhP, hgP, hgW, hbX⟩ := hcut
  subst hu5
  clear r2 hz
  have q0_3 := q0_2.trans (hbX.mono q0_2.size)
  have A_3 := keepHeap hbX A_2
  have B_3 := keepHeap hbX B_2
  have sz_3 := hbX.size
  clear q0_2 A_2 B_2 cA_2 cB_2
  have qP_3 : Below u5.heap.size u5 u5 := Below.refl _ _
  have ltP : gP < u5.heap.size := blockLt hP0
  have cA_3 := rowCells A_3
  go_wp2_with (fail)
  refine (htp (h0.keep q0_3)).mono ?_
  rintro e w_4 ⟨vix, vax, rfl, oix, -, oax, -, hb_4⟩
  have q0_4 := q0_3.trans (hb_4.mono q0_3.size)
  have qP_4 := qP_3.trans (hb_4.mono qP_3.size)
  have A_4 := keepHeap hb_4 A_3
  have B_4 := keepHeap hb_4 B_3
  have P_4 := keepHeap hb_4 hP0
  have sz_4 := hb_4.size
  clear q0_3 qP_3 A_3 B_3 hP0 cA_3
  clear hb_4
  have rdx0 : RdP w_4 p vix vax := ⟨oix.rd, oax.rd⟩
  obtain ⟨aix, cix, rfl, -⟩ := id rdx0.1
  obtain ⟨aax, cax, rfl, -⟩ := id rdx0.2
  have qX_4 : Below w_4.heap.size w_4 w_4 := Below.refl _ _
  obtain ⟨w_5, hw_5, X_5, hb_5⟩ : ∃ W, w_4.alloc (.cells #[Value.int .i64 p.fr, .int .i64 p.tick, .int .i64 p.first, .slice aix p.ins.length cix, .slice aax p.acks.length cax, .int .i64 p.sumTick, .int .i64 p.sum, .int .i64 p.time, .int .i64 p.echo] 43) = W ∧ W.heap[w_4.heap.size]? = some (.cells #[Value.int .i64 p.fr, .int .i64 p.tick, .int .i64 p.first, .slice aix p.ins.length cix, .slice aax p.acks.length cax, .int .i64 p.sumTick, .int .i64 p.sum, .int .i64 p.time, .int .i64 p.echo] 43 (0, 0)) ∧ Below w_4.heap.size w_4 W := ⟨_, rfl, heap_alloc_new _ _, below1 _ _⟩
  have q0_5 := q0_4.trans (hb_5.mono q0_4.size)
  have qP_5 := qP_4.trans (hb_5.mono qP_4.size)
  have qX_5 := qX_4.trans (hb_5.mono qX_4.size)
  have A_5 := keepHeap hb_5 A_4
  have B_5 := keepHeap hb_5 B_4
  have P_5 := keepHeap hb_5 P_4
  have sz_5 := hb_5.size
  clear q0_4 qP_4 qX_4 A_4 B_4 P_4
  clear hb_5
  have ltX : w_4.heap.size < w_5.heap.size := blockLt X_5
  have rdx := (rdx0.keep qX_5)
  have hz : w_5.drew.heap.size = w_5.heap.size := rfl
  have cX_5 := rowCells X_5
  have cB_5 := rowCells B_5
  go_upto_region 7 with (fail)
  try rw [hw_5]
  clear hw_5
  go_cut [10] from 28 (fun z wr => ∃ U : World, U = wr ∧ ∃ (g : Nat) (aiS : Option Addr) (ciS : Nat) (aaS : Option Addr) (caS lo hi : Nat), z = .pointer (some ⟨g, 0, none⟩) ∧ wr.heap[g]? = some (.cells #[.int .i64 y.fr, .int .i64 y.tick, .int .i64 y.first, .slice aiS y.ins.length ciS, .slice aaS y.acks.length caS, .int .i64 y.sumTick, .int .i64 y.sum, .int .i64 y.time, .int .i64 y.echo] 43 (0, 0)) ∧ OwnPIn wr lo hi y (.slice aiS y.ins.length ciS) (.slice aaS y.acks.length caS) ∧ w_5.heap.size ≤ lo ∧ hi ≤ wr.heap.size ∧ (g < lo ∨ hi ≤ g) ∧ w_5.heap.size ≤ g ∧ Below w_5.heap.size w_5 wr)
  case first =>
    have bs_0 : Below w_5.heap.size w_5 w_5.drew := belowDrew w_5 1
    refine wp_region_held_drew (S := (fun w' => (∀ j, w'.cell? ⟨w_4.heap.size, j, none⟩ = #[Value.int .i64 p.fr, .int .i64 p.tick, .int .i64 p.first, .slice aix p.ins.length cix, .slice aax p.acks.length cax, .int .i64 p.sumTick, .int .i64 p.sum, .int .i64 p.time, .int .i64 p.echo][j]?) ∧ (∀ j, w'.cell? ⟨w.heap.size + 1, j, none⟩ = #[Value.int .i64 q.newest, .int .i64 q.their, .int .i64 q.at0, .int .i64 q.trip, .int .i64 q.samples][j]?))) (by kernel_rfl) ?_ (fun hHeld => ?_)
    · exact ⟨rowCells (keepHeap bs_0 X_5), rowCells (keepHeap bs_0 B_5)⟩
    refine take_on (i := 0) (v := ?_) (some 28) rfl (by kernel_rfl) (by kernel_rfl) (by kernel_rfl) rfl (fun _ _ _ h => h) (by rfl) ?_ (by assumption) ?_
    rotate_left
    · intro w hSw; (try dsimp only at hSw); go_simp; (try with_reducible rfl)
    (try simp only [Act.put, List.setIfInBounds_toArray, List.set_cons_zero, List.set_cons_succ])
    refine take_on (i := 1) (v := ?_) (some 29) rfl (by kernel_rfl) (by kernel_rfl) (by kernel_rfl) rfl (fun _ _ _ h => h) (by rfl) ?_ (by assumption) ?_
    rotate_left
    · intro w hSw; (try dsimp only at hSw); go_simp; (try with_reducible rfl)
    (try simp only [Act.put, List.setIfInBounds_toArray, List.set_cons_zero, List.set_cons_succ])
    refine take_on (i := 3) (v := ?_) (some 31) rfl (by kernel_rfl) (by kernel_rfl) (by kernel_rfl) rfl (fun _ _ _ h => h) (by rfl) ?_ (by assumption) ?_
    rotate_left
    · intro w hSw; (try dsimp only at hSw); go_simp; (try with_reducible rfl)
    (try simp only [Act.put, List.setIfInBounds_toArray, List.set_cons_zero, List.set_cons_succ])
    refine wpAnyH_ready (rs := [2, 5]) (by kernel_rfl) (by simp) ?_
    refine AllReadyH.cons rfl (fun K hK => ?_) (AllReadyH.cons rfl (fun K hK => ?_) AllReadyH.nil)
    · go_simp
      refine (tp _).mono ?_
      rintro e v_1 ⟨rfl, hb_1⟩
      have bs_1 := bs_0.trans (hb_1.mono bs_0.size)
      have sz_1 := hb_1.size
      (try go_wp2_with (fail))
      refine hK.out _ _ ?_ (fun hHeld => ?_)
      · exact ⟨rowCells (keepHeap bs_1 X_5), rowCells (keepHeap bs_1 B_5)⟩
      clear hK K
      (try simp only [Act.put, List.setIfInBounds_toArray, List.set_cons_zero, List.set_cons_succ])
      refine wpAnyH_ready (rs := [4, 5]) (by kernel_rfl) (by simp) ?_
      refine AllReadyH.cons rfl (fun K hK => ?_) (AllReadyH.cons rfl (fun K hK => ?_) AllReadyH.nil)
      · go_simp
        refine (himpl (rdx.keep bs_1)).mono ?_
        rintro e v_2 ⟨viS, vaS, rfl, oS_2, -, -, hb_2⟩
        have bs_2 := bs_1.trans (hb_2.mono bs_1.size)
        obtain ⟨aiS, ciS, rfl, -⟩ := id oS_2.rd.1
        obtain ⟨aaS, caS, rfl, -⟩ := id oS_2.rd.2
        have sz_2 := hb_2.size
        (try go_wp2_with (fail))
        refine hK.out _ _ ?_ (fun hHeld => ?_)
        · exact ⟨rowCells (keepHeap bs_2 X_5), rowCells (keepHeap bs_2 B_5)⟩
        clear hK K
        (try simp only [Act.put, List.setIfInBounds_toArray, List.set_cons_zero, List.set_cons_succ])
        refine wpAnyH_ready (rs := [5]) (by kernel_rfl) (by simp) ?_
        refine AllReadyH.cons rfl (fun K hK => ?_) AllReadyH.nil
        go_simp
        obtain ⟨v_3, hw_3, P_3, hb_3⟩ : ∃ W, v_2.alloc (.cells #[.int .i64 0, .int .i64 0, .int .i64 0, .slice none 0 0, .slice none 0 0, .int .i64 0, .int .i64 0, .int .i64 0, .int .i64 0] 43) = W ∧ W.heap[v_2.heap.size]? = some (.cells #[.int .i64 0, .int .i64 0, .int .i64 0, .slice none 0 0, .slice none 0 0, .int .i64 0, .int .i64 0, .int .i64 0, .int .i64 0] 43 (0, 0)) ∧ Below v_2.heap.size v_2 W := ⟨_, rfl, heap_alloc_new v_2 _, below1 v_2 _⟩
        try rw [hw_3]
        clear hw_3
        have hp_3 := bs_2.size
        have bs_3 := bs_2.trans (hb_3.mono bs_2.size)
        have oS_3 := oS_2.keep hb_3
        have sz_3 := hb_3.size
        have lt_3 := blockLt P_3
        refine hK.out _ _ ?_ (fun hHeld => ?_)
        · exact ⟨rowCells (keepHeap bs_3 X_5), rowCells (keepHeap bs_3 B_5)⟩
        clear hK K
        (try simp only [Act.put, List.setIfInBounds_toArray, List.set_cons_zero, List.set_cons_succ])
        refine wpAnyH_ready (rs := [6]) (by kernel_rfl) (by simp) ?_
        refine AllReadyH.cons rfl (fun K hK => ?_) AllReadyH.nil
        have cn := rowCells P_3
        have fn := fun j => frozenHeap P_3 j
        go_simp
        have P_4 := putP_heap P_3 rfl y (.slice aiS y.ins.length ciS) (.slice aaS y.acks.length caS)
        have bs_4 := putP_below bs_3 (c := v_2.heap.size) (by have := hp_3; omega) y (.slice aiS y.ins.length ciS) (.slice aaS y.acks.length caS)
        have oS_4 := OwnPIn.putP oS_3 (c := v_2.heap.size) (by omega) y (.slice aiS y.ins.length ciS) (.slice aaS y.acks.length caS)
        have sz_4 : v_3.heap.size ≤ (putP v_3 (v_2.heap.size) y (.slice aiS y.ins.length ciS) (.slice aaS y.acks.length caS)).heap.size := by rw [putP_size]; exact Nat.le_refl _
        obtain ⟨v_4, hw_4⟩ : ∃ W, putP v_3 (v_2.heap.size) y (.slice aiS y.ins.length ciS) (.slice aaS y.acks.length caS) = W := ⟨_, rfl⟩
        rw [hw_4] at P_4 bs_4 oS_4 sz_4
        unfold putP at hw_4
        try rw [hw_4]
        clear hw_4 cn fn
        refine hK.out _ _ ?_ (fun hHeld => ?_)
        · exact ⟨rowCells (keepHeap bs_4 X_5), rowCells (keepHeap bs_4 B_5)⟩
        clear hK K
        (try simp only [Act.put, List.setIfInBounds_toArray, List.set_cons_zero, List.set_cons_succ])
        refine wpAnyH_done (by kernel_rfl) ?_ _
        go_wp2_with (fail)
        go_meet
        case rel => exact ⟨_, rfl, _, _, _, _, _, v_1.heap.size, v_2.heap.size, rfl, P_4, oS_4, by omega, by omega, by omega, by have := hp_3; omega, bs_4⟩
      · go_simp
        obtain ⟨v_2, hw_2, P_2, hb_2⟩ : ∃ W, v_1.alloc (.cells #[.int .i64 0, .int .i64 0, .int .i64 0, .slice none 0 0, .slice none 0 0, .int .i64 0, .int .i64 0, .int .i64 0, .int .i64 0] 43) = W ∧ W.heap[v_1.heap.size]? = some (.cells #[.int .i64 0, .int .i64 0, .int .i64 0, .slice none 0 0, .slice none 0 0, .int .i64 0, .int .i64 0, .int .i64 0, .int .i64 0] 43 (0, 0)) ∧ Below v_1.heap.size v_1 W := ⟨_, rfl, heap_alloc_new v_1 _, below1 v_1 _⟩
        try rw [hw_2]
        clear hw_2
        have hp_2 := bs_1.size
        have bs_2 := bs_1.trans (hb_2.mono bs_1.size)
        have sz_2 := hb_2.size
        have lt_2 := blockLt P_2
        refine hK.out _ _ ?_ (fun hHeld => ?_)
        · exact ⟨rowCells (keepHeap bs_2 X_5), rowCells (keepHeap bs_2 B_5)⟩
        clear hK K
        (try simp only [Act.put, List.setIfInBounds_toArray, List.set_cons_zero, List.set_cons_succ])
        refine wpAnyH_ready (rs := [4]) (by kernel_rfl) (by simp) ?_
        refine AllReadyH.cons rfl (fun K hK => ?_) AllReadyH.nil
        go_simp
        refine (himpl (rdx.keep bs_2)).mono ?_
        rintro e v_3 ⟨viS, vaS, rfl, oS_3, -, -, hb_3⟩
        have bs_3 := bs_2.trans (hb_3.mono bs_2.size)
        have P_3 := keepHeap hb_3 P_2
        obtain ⟨aiS, ciS, rfl, -⟩ := id oS_3.rd.1
        obtain ⟨aaS, caS, rfl, -⟩ := id oS_3.rd.2
        have sz_3 := hb_3.size
        have lt_3 := blockLt P_3
        (try go_wp2_with (fail))
        refine hK.out _ _ ?_ (fun hHeld => ?_)
        · exact ⟨rowCells (keepHeap bs_3 X_5), rowCells (keepHeap bs_3 B_5)⟩
        clear hK K
        (try simp only [Act.put, List.setIfInBounds_toArray, List.set_cons_zero, List.set_cons_succ])
        refine wpAnyH_ready (rs := [6]) (by kernel_rfl) (by simp) ?_
        refine AllReadyH.cons rfl (fun K hK => ?_) AllReadyH.nil
        have cn := rowCells P_3
        have fn := fun j => frozenHeap P_3 j
        go_simp
        have P_4 := putP_heap P_3 rfl y (.slice aiS y.ins.length ciS) (.slice aaS y.acks.length caS)
        have bs_4 := putP_below bs_3 (c := v_1.heap.size) (by have := hp_2; omega) y (.slice aiS y.ins.length ciS) (.slice aaS y.acks.length caS)
        have oS_4 := OwnPIn.putP oS_3 (c := v_1.heap.size) (by omega) y (.slice aiS y.ins.length ciS) (.slice aaS y.acks.length caS)
        have sz_4 : v_3.heap.size ≤ (putP v_3 (v_1.heap.size) y (.slice aiS y.ins.length ciS) (.slice aaS y.acks.length caS)).heap.size := by rw [putP_size]; exact Nat.le_refl _
        obtain ⟨v_4, hw_4⟩ : ∃ W, putP v_3 (v_1.heap.size) y (.slice aiS y.ins.length ciS) (.slice aaS y.acks.length caS) = W := ⟨_, rfl⟩
        rw [hw_4] at P_4 bs_4 oS_4 sz_4
        unfold putP at hw_4
        try rw [hw_4]
        clear hw_4 cn fn
        refine hK.out _ _ ?_ (fun hHeld => ?_)
        · exact ⟨rowCells (keepHeap bs_4 X_5), rowCells (keepHeap bs_4 B_5)⟩
        clear hK K
        (try simp only [Act.put, List.setIfInBounds_toArray, List.set_cons_zero, List.set_cons_succ])
        refine wpAnyH_done (by kernel_rfl) ?_ _
        go_wp2_with (fail)
        go_meet
        case rel => exact ⟨_, rfl, _, _, _, _, _, v_2.heap.size, v_3.heap.size, rfl, P_4, oS_4, by omega, by omega, by omega, by have := hp_2; omega, bs_4⟩
    · go_simp
      obtain ⟨v_1, hw_1, P_1, hb_1⟩ : ∃ W, (w_5.alloc (.cells #[.int .i64 0, .int .i64 0, .int .i64 0, .slice none 0 0, .slice none 0 0, .int .i64 0, .int .i64 0, .int .i64 0, .int .i64 0] 43)).drew = W ∧ W.heap[w_5.heap.size]? = some (.cells #[.int .i64 0, .int .i64 0, .int .i64 0, .slice none 0 0, .slice none 0 0, .int .i64 0, .int .i64 0, .int .i64 0, .int .i64 0] 43 (0, 0)) ∧ Below w_5.drew.heap.size w_5.drew W := ⟨_, rfl, heap_alloc_new w_5.drew _, below1 w_5.drew _⟩
      try rw [hw_1]
      clear hw_1
      have hp_1 := bs_0.size
      have bs_1 := bs_0.trans (hb_1.mono bs_0.size)
      have sz_1 := hb_1.size
      have lt_1 := blockLt P_1
      refine hK.out _ _ ?_ (fun hHeld => ?_)
      · exact ⟨rowCells (keepHeap bs_1 X_5), rowCells (keepHeap bs_1 B_5)⟩
      clear hK K
      (try simp only [Act.put, List.setIfInBounds_toArray, List.set_cons_zero, List.set_cons_succ])
      refine wpAnyH_ready (rs := [2]) (by kernel_rfl) (by simp) ?_
      refine AllReadyH.cons rfl (fun K hK => ?_) AllReadyH.nil
      go_simp
      refine (tp _).mono ?_
      rintro e v_2 ⟨rfl, hb_2⟩
      have bs_2 := bs_1.trans (hb_2.mono bs_1.size)
      have P_2 := keepHeap hb_2 P_1
      have sz_2 := hb_2.size
      have lt_2 := blockLt P_2
      (try go_wp2_with (fail))
      refine hK.out _ _ ?_ (fun hHeld => ?_)
      · exact ⟨rowCells (keepHeap bs_2 X_5), rowCells (keepHeap bs_2 B_5)⟩
      clear hK K
      (try simp only [Act.put, List.setIfInBounds_toArray, List.set_cons_zero, List.set_cons_succ])
      refine wpAnyH_ready (rs := [4]) (by kernel_rfl) (by simp) ?_
      refine AllReadyH.cons rfl (fun K hK => ?_) AllReadyH.nil
      go_simp
      refine (himpl (rdx.keep bs_2)).mono ?_
      rintro e v_3 ⟨viS, vaS, rfl, oS_3, -, -, hb_3⟩
      have bs_3 := bs_2.trans (hb_3.mono bs_2.size)
      have P_3 := keepHeap hb_3 P_2
      obtain ⟨aiS, ciS, rfl, -⟩ := id oS_3.rd.1
      obtain ⟨aaS, caS, rfl, -⟩ := id oS_3.rd.2
      have sz_3 := hb_3.size
      have lt_3 := blockLt P_3
      (try go_wp2_with (fail))
      refine hK.out _ _ ?_ (fun hHeld => ?_)
      · exact ⟨rowCells (keepHeap bs_3 X_5), rowCells (keepHeap bs_3 B_5)⟩
      clear hK K
      (try simp only [Act.put, List.setIfInBounds_toArray, List.set_cons_zero, List.set_cons_succ])
      refine wpAnyH_ready (rs := [6]) (by kernel_rfl) (by simp) ?_
      refine AllReadyH.cons rfl (fun K hK => ?_) AllReadyH.nil
      have cn := rowCells P_3
      have fn := fun j => frozenHeap P_3 j
      go_simp
      have P_4 := putP_heap P_3 rfl y (.slice aiS y.ins.length ciS) (.slice aaS y.acks.length caS)
      have bs_4 := putP_below bs_3 (c := w_5.heap.size) (by have := hp_1; omega) y (.slice aiS y.ins.length ciS) (.slice aaS y.acks.length caS)
      have oS_4 := OwnPIn.putP oS_3 (c := w_5.heap.size) (by omega) y (.slice aiS y.ins.length ciS) (.slice aaS y.acks.length caS)
      have sz_4 : v_3.heap.size ≤ (putP v_3 (w_5.heap.size) y (.slice aiS y.ins.length ciS) (.slice aaS y.acks.length caS)).heap.size := by rw [putP_size]; exact Nat.le_refl _
      obtain ⟨v_4, hw_4⟩ : ∃ W, putP v_3 (w_5.heap.size) y (.slice aiS y.ins.length ciS) (.slice aaS y.acks.length caS) = W := ⟨_, rfl⟩
      rw [hw_4] at P_4 bs_4 oS_4 sz_4
      unfold putP at hw_4
      try rw [hw_4]
      clear hw_4 cn fn
      refine hK.out _ _ ?_ (fun hHeld => ?_)
      · exact ⟨rowCells (keepHeap bs_4 X_5), rowCells (keepHeap bs_4 B_5)⟩
      clear hK K
      (try simp only [Act.put, List.setIfInBounds_toArray, List.set_cons_zero, List.set_cons_succ])
      refine wpAnyH_done (by kernel_rfl) ?_ _
      go_wp2_with (fail)
      go_meet
      case rel => exact ⟨_, rfl, _, _, _, _, _, v_2.heap.size, v_3.heap.size, rfl, P_4, oS_4, by omega, by omega, by omega, by have := hp_1; omega, bs_4⟩
  obtain ⟨u7, hu7, gG, aiG, ciG, aaG, caG, loG, hiG, rfl, hG0, oG0, hlG, hhG, hgG, hgGW, hbY⟩ := hcut
  subst hu7
  clear rdx hz
  have q0_6 := q0_5.trans (hbY.mono q0_5.size)
  have qP_6 := qP_5.trans (hbY.mono qP_5.size)
  have qX_6 := qX_5.trans (hbY.mono qX_5.size)
  have A_6 := keepHeap hbY A_5
  have B_6 := keepHeap hbY B_5
  have P_6 := keepHeap hbY P_5
  have X_6 := keepHeap hbY X_5
  have sz_6 := hbY.size
  clear q0_5 qP_5 qX_5 A_5 B_5 P_5 X_5 cX_5 cB_5
  have qG_6 : Below u7.heap.size u7 u7 := Below.refl _ _
  have ltG : gG < u7.heap.size := blockLt hG0
  have cP_6 := rowCells P_6
  have chG0 := rowCells hG0
  go_wp2_with (fail)
  refine (heq (oG0.rd.keep qG_6) (oP0.rd.keep qP_6)).mono ?_
  rintro e w_7 ⟨rfl, hb_7⟩
  have q0_7 := q0_6.trans (hb_7.mono q0_6.size)
  have qP_7 := qP_6.trans (hb_7.mono qP_6.size)
  have qX_7 := qX_6.trans (hb_7.mono qX_6.size)
  have qG_7 := qG_6.trans (hb_7.mono qG_6.size)
  have A_7 := keepHeap hb_7 A_6
  have B_7 := keepHeap hb_7 B_6
  have P_7 := keepHeap hb_7 P_6
  have X_7 := keepHeap hb_7 X_6
  have G_7 := keepHeap hb_7 hG0
  have sz_7 := hb_7.size
  clear q0_6 qP_6 qX_6 qG_6 A_6 B_6 P_6 X_6 hG0 cP_6 chG0
  clear hb_7
  have cA_7 := rowCells A_7
  have cX_7 := rowCells X_7
  go_wp2_with (fail)
  have ra := (h0.keep q0_7)
  have rx := (rdx0.keep qX_7)
  go_region_held3 (fun w' => (∀ j, w'.cell? ⟨w.heap.size, j, none⟩ = #[Value.int .i64 p.fr, .int .i64 p.tick, .int .i64 p.first, .slice ai p.ins.length ci, .slice aa p.acks.length ca, .int .i64 p.sumTick, .int .i64 p.sum, .int .i64 p.time, .int .i64 p.echo][j]?) ∧ (∀ j, w'.cell? ⟨w_4.heap.size, j, none⟩ = #[Value.int .i64 p.fr, .int .i64 p.tick, .int .i64 p.first, .slice aix p.ins.length cix, .slice aax p.acks.length cax, .int .i64 p.sumTick, .int .i64 p.sum, .int .i64 p.time, .int .i64 p.echo][j]?)) (first | go_keep | (exact ⟨cA8, cX8⟩) | exact ⟨cA9, cX9⟩)
    (first
    | (go_at_call 28; refine (htp (RdP.keep ra (belowDrew _ 1))).mono ?_; rintro e w8 ⟨vi8, va8, rfl, oi8, -, oa8, -, hb8⟩; have hA8 := keepHeap hb8 (keepHeap (belowDrew _ 1) A_7); have hX8 := keepHeap hb8 (keepHeap (belowDrew _ 1) X_7); have cA8 := rowCells hA8; have cX8 := rowCells hX8; have rd8 : RdP w8 p vi8 va8 := ⟨oi8.rd, oa8.rd⟩; obtain ⟨ai8, ci8, rfl, -⟩ := id rd8.1; obtain ⟨aa8, ca8, rfl, -⟩ := id rd8.2; have rdx8 := (RdP.keep rx (belowDrew _ 1)).keep hb8; have hb18 := (belowDrew w_7 1).trans (hb8.mono (by simp)))
    | (go_at_call 31; refine (heqx rdx8 rd8).mono ?_; rintro e w9 ⟨rfl, hb9⟩; have cA9 := rowCells (keepHeap hb9 hA8); have cX9 := rowCells (keepHeap hb9 hX8); have hb19 := hb18.trans (hb9.mono hb18.size)))
  clear ra rx
  have q0_8 := q0_7.trans (hb19.mono q0_7.size)
  have qP_8 := qP_7.trans (hb19.mono qP_7.size)
  have qX_8 := qX_7.trans (hb19.mono qX_7.size)
  have qG_8 := qG_7.trans (hb19.mono qG_7.size)
  have A_8 := keepHeap hb19 A_7
  have B_8 := keepHeap hb19 B_7
  have P_8 := keepHeap hb19 P_7
  have X_8 := keepHeap hb19 X_7
  have G_8 := keepHeap hb19 G_7
  have sz_8 := hb19.size
  clear q0_7 qP_7 qX_7 qG_7 A_7 B_7 P_7 X_7 G_7 cA_7 cX_7
  have mxi : MkI w9 u5.heap.size w_4.heap.size (.slice aix p.ins.length cix) p.ins.length := (MkI.of_own oix (Nat.le_refl _)).low qX_8
  have mxa : MkI w9 u5.heap.size w_4.heap.size (.slice aax p.acks.length cax) p.acks.length := (MkI.of_own oax (Nat.le_refl _)).low qX_8
  have mg := oG0.keep qG_8
  clear oix oax oG0 rdx0 qX_8 qG_8
  have cX_8 := rowCells X_8
  go_wp2_with (fail)
  refine (hmx mxi mxa (by omega) (by omega)).mono ?_
  rintro e w_9 ⟨rfl, far_9⟩
  have q0_9 := q0_8.trans (far_9.1.mono (by omega))
  have qP_9 := qP_8.trans (far_9.1.mono (by omega))
  have A_9 := keepHeapFar far_9 A_8 (by omega)
  have B_9 := keepHeapFar far_9 B_8 (by omega)
  have P_9 := keepHeapFar far_9 P_8 (by omega)
  have G_9 := keepHeapFar far_9 G_8 (by omega)
  have mg := mg.afar far_9 (by omega)
  clear mxi mxa
  have sz_9 := far_9.1.size
  clear q0_8 qP_8 A_8 B_8 P_8 X_8 G_8 cX_8 far_9
  have cP_9 := rowCells P_9
  have cG_9 := rowCells G_9
  go_wp2_with (fail)
  refine (heq mg.rd (oP0.rd.keep qP_9)).mono ?_
  rintro e w_10 ⟨rfl, hb_10⟩
  have q0_10 := q0_9.trans (hb_10.mono q0_9.size)
  have qP_10 := qP_9.trans (hb_10.mono qP_9.size)
  have A_10 := keepHeap hb_10 A_9
  have B_10 := keepHeap hb_10 B_9
  have P_10 := keepHeap hb_10 P_9
  have G_10 := keepHeap hb_10 G_9
  have sz_10 := hb_10.size
  clear q0_9 qP_9 A_9 B_9 P_9 G_9 cP_9 cG_9
  have mg := mg.keep hb_10
  clear hb_10
  have cG_10 := rowCells G_10
  go_wp2_with (fail)
  refine (hmk mg (by omega)).mono ?_
  rintro e w_11 ⟨rfl, mg, far_11⟩
  have q0_11 := q0_10.trans (far_11.1.mono (by omega))
  have qP_11 := qP_10.trans (far_11.1.mono (by omega))
  have A_11 := keepHeapFar far_11 A_10 (by omega)
  have B_11 := keepHeapFar far_11 B_10 (by omega)
  have P_11 := keepHeapFar far_11 P_10 (by omega)
  have G_11 := keepHeapFar far_11 G_10 (by omega)
  have sz_11 := far_11.1.size
  clear q0_10 qP_10 A_10 B_10 P_10 G_10 cG_10 far_11
  have cG_11 := rowCells G_11
  go_wp2_with (fail)
  refine (hhd mg.rd).mono ?_
  rintro e w_12 ⟨rfl, hb_12⟩
  have q0_12 := q0_11.trans (hb_12.mono q0_11.size)
  have qP_12 := qP_11.trans (hb_12.mono qP_11.size)
  have A_12 := keepHeap hb_12 A_11
  have B_12 := keepHeap hb_12 B_11
  have P_12 := keepHeap hb_12 P_11
  have G_12 := keepHeap hb_12 G_11
  have sz_12 := hb_12.size
  clear q0_11 qP_11 A_11 B_11 P_11 G_11 cG_11
  have mg := mg.keep hb_12
  clear hb_12
  have qM_12 : Below w_12.heap.size w_12 w_12 := Below.refl _ _
  have r2 := (h0.keep q0_12)
  have hz : w_12.drew.heap.size = w_12.heap.size := rfl
  have cA_12 := rowCells A_12
  have cB_12 := rowCells B_12
  go_upto_region 24 with (fail)
  go_cut [14] from 64 (fun z wr => ∃ U : World, U = wr ∧ ∃ (g : Nat) (aiS : Option Addr) (ciS : Nat) (aaS : Option Addr) (caS lo hi : Nat), z = .pointer (some ⟨g, 0, none⟩) ∧ wr.heap[g]? = some (.cells #[.int .i64 y.fr, .int .i64 y.tick, .int .i64 y.first, .slice aiS y.ins.length ciS, .slice aaS y.acks.length caS, .int .i64 y.sumTick, .int .i64 y.sum, .int .i64 y.time, .int .i64 y.echo] 43 (0, 0)) ∧ OwnPIn wr lo hi y (.slice aiS y.ins.length ciS) (.slice aaS y.acks.length caS) ∧ w_12.heap.size ≤ lo ∧ hi ≤ wr.heap.size ∧ (g < lo ∨ hi ≤ g) ∧ w_12.heap.size ≤ g ∧ Below w_12.heap.size w_12 wr)
  case first =>
    have bs_0 : Below w_12.heap.size w_12 w_12.drew := belowDrew w_12 1
    refine wp_region_held_drew (S := (fun w' => (∀ j, w'.cell? ⟨w.heap.size, j, none⟩ = #[Value.int .i64 p.fr, .int .i64 p.tick, .int .i64 p.first, .slice ai p.ins.length ci, .slice aa p.acks.length ca, .int .i64 p.sumTick, .int .i64 p.sum, .int .i64 p.time, .int .i64 p.echo][j]?) ∧ (∀ j, w'.cell? ⟨w.heap.size + 1, j, none⟩ = #[Value.int .i64 q.newest, .int .i64 q.their, .int .i64 q.at0, .int .i64 q.trip, .int .i64 q.samples][j]?))) (by kernel_rfl) ?_ (fun hHeld => ?_)
    · exact ⟨rowCells (keepHeap bs_0 A_12), rowCells (keepHeap bs_0 B_12)⟩
    refine take_on (i := 0) (v := ?_) (some 64) rfl (by kernel_rfl) (by kernel_rfl) (by kernel_rfl) rfl (fun _ _ _ h => h) (by rfl) ?_ (by assumption) ?_
    rotate_left
    · intro w hSw; (try dsimp only at hSw); go_simp; (try with_reducible rfl)
    (try simp only [Act.put, List.setIfInBounds_toArray, List.set_cons_zero, List.set_cons_succ])
    refine take_on (i := 2) (v := ?_) (some 66) rfl (by kernel_rfl) (by kernel_rfl) (by kernel_rfl) rfl (fun _ _ _ h => h) (by rfl) ?_ (by assumption) ?_
    rotate_left
    · intro w hSw; (try dsimp only at hSw); go_simp; (try with_reducible rfl)
    (try simp only [Act.put, List.setIfInBounds_toArray, List.set_cons_zero, List.set_cons_succ])
    refine take_on (i := 4) (v := ?_) (some 68) rfl (by kernel_rfl) (by kernel_rfl) (by kernel_rfl) rfl (fun _ _ _ h => h) (by rfl) ?_ (by assumption) ?_
    rotate_left
    · intro w hSw; (try dsimp only at hSw); go_simp; (try with_reducible rfl)
    (try simp only [Act.put, List.setIfInBounds_toArray, List.set_cons_zero, List.set_cons_succ])
    refine wpAnyH_ready (rs := [1, 6]) (by kernel_rfl) (by simp) ?_
    refine AllReadyH.cons rfl (fun K hK => ?_) (AllReadyH.cons rfl (fun K hK => ?_) AllReadyH.nil)
    · go_simp
      refine (htp (r2.keep bs_0)).mono ?_
      rintro e v_1 ⟨vi3_1, va3_1, rfl, oi3_1, -, oa3_1, -, hb_1⟩
      have bs_1 := bs_0.trans (hb_1.mono bs_0.size)
      have rd_1 : RdP v_1 p vi3_1 va3_1 := ⟨oi3_1.rd, oa3_1.rd⟩
      obtain ⟨ai3_1, ci3_1, rfl, -⟩ := id rd_1.1
      obtain ⟨aa3_1, ca3_1, rfl, -⟩ := id rd_1.2
      have sz_1 := hb_1.size
      (try go_wp2_with (fail))
      refine hK.out _ _ ?_ (fun hHeld => ?_)
      · exact ⟨rowCells (keepHeap bs_1 A_12), rowCells (keepHeap bs_1 B_12)⟩
      clear hK K
      (try simp only [Act.put, List.setIfInBounds_toArray, List.set_cons_zero, List.set_cons_succ])
      refine wpAnyH_ready (rs := [3, 6]) (by kernel_rfl) (by simp) ?_
      refine AllReadyH.cons rfl (fun K hK => ?_) (AllReadyH.cons rfl (fun K hK => ?_) AllReadyH.nil)
      · go_simp
        refine (tp _).mono ?_
        rintro e v_2 ⟨rfl, hb_2⟩
        have bs_2 := bs_1.trans (hb_2.mono bs_1.size)
        have rd_2 := rd_1.keep hb_2
        have sz_2 := hb_2.size
        (try go_wp2_with (fail))
        refine hK.out _ _ ?_ (fun hHeld => ?_)
        · exact ⟨rowCells (keepHeap bs_2 A_12), rowCells (keepHeap bs_2 B_12)⟩
        clear hK K
        (try simp only [Act.put, List.setIfInBounds_toArray, List.set_cons_zero, List.set_cons_succ])
        refine wpAnyH_ready (rs := [5, 6]) (by kernel_rfl) (by simp) ?_
        refine AllReadyH.cons rfl (fun K hK => ?_) (AllReadyH.cons rfl (fun K hK => ?_) AllReadyH.nil)
        · go_simp
          refine (himpl rd_2).mono ?_
          rintro e v_3 ⟨viS, vaS, rfl, oS_3, -, -, hb_3⟩
          have bs_3 := bs_2.trans (hb_3.mono bs_2.size)
          have rd_3 := rd_2.keep hb_3
          obtain ⟨aiS, ciS, rfl, -⟩ := id oS_3.rd.1
          obtain ⟨aaS, caS, rfl, -⟩ := id oS_3.rd.2
          have sz_3 := hb_3.size
          (try go_wp2_with (fail))
          refine hK.out _ _ ?_ (fun hHeld => ?_)
          · exact ⟨rowCells (keepHeap bs_3 A_12), rowCells (keepHeap bs_3 B_12)⟩
          clear hK K
          (try simp only [Act.put, List.setIfInBounds_toArray, List.set_cons_zero, List.set_cons_succ])
          refine wpAnyH_ready (rs := [6]) (by kernel_rfl) (by simp) ?_
          refine AllReadyH.cons rfl (fun K hK => ?_) AllReadyH.nil
          go_simp
          obtain ⟨v_4, hw_4, P_4, hb_4⟩ : ∃ W, v_3.alloc (.cells #[.int .i64 0, .int .i64 0, .int .i64 0, .slice none 0 0, .slice none 0 0, .int .i64 0, .int .i64 0, .int .i64 0, .int .i64 0] 43) = W ∧ W.heap[v_3.heap.size]? = some (.cells #[.int .i64 0, .int .i64 0, .int .i64 0, .slice none 0 0, .slice none 0 0, .int .i64 0, .int .i64 0, .int .i64 0, .int .i64 0] 43 (0, 0)) ∧ Below v_3.heap.size v_3 W := ⟨_, rfl, heap_alloc_new v_3 _, below1 v_3 _⟩
          try rw [hw_4]
          clear hw_4
          have hp_4 := bs_3.size
          have bs_4 := bs_3.trans (hb_4.mono bs_3.size)
          have rd_4 := rd_3.keep hb_4
          have oS_4 := oS_3.keep hb_4
          have sz_4 := hb_4.size
          have lt_4 := blockLt P_4
          refine hK.out _ _ ?_ (fun hHeld => ?_)
          · exact ⟨rowCells (keepHeap bs_4 A_12), rowCells (keepHeap bs_4 B_12)⟩
          clear hK K
          (try simp only [Act.put, List.setIfInBounds_toArray, List.set_cons_zero, List.set_cons_succ])
          refine wpAnyH_ready (rs := [7]) (by kernel_rfl) (by simp) ?_
          refine AllReadyH.cons rfl (fun K hK => ?_) AllReadyH.nil
          have cn := rowCells P_4
          have fn := fun j => frozenHeap P_4 j
          go_simp
          have P_5 := putP_heap P_4 rfl y (.slice aiS y.ins.length ciS) (.slice aaS y.acks.length caS)
          have bs_5 := putP_below bs_4 (c := v_3.heap.size) (by have := hp_4; omega) y (.slice aiS y.ins.length ciS) (.slice aaS y.acks.length caS)
          have oS_5 := OwnPIn.putP oS_4 (c := v_3.heap.size) (by omega) y (.slice aiS y.ins.length ciS) (.slice aaS y.acks.length caS)
          have sz_5 : v_4.heap.size ≤ (putP v_4 (v_3.heap.size) y (.slice aiS y.ins.length ciS) (.slice aaS y.acks.length caS)).heap.size := by rw [putP_size]; exact Nat.le_refl _
          obtain ⟨v_5, hw_5⟩ : ∃ W, putP v_4 (v_3.heap.size) y (.slice aiS y.ins.length ciS) (.slice aaS y.acks.length caS) = W := ⟨_, rfl⟩
          rw [hw_5] at P_5 bs_5 oS_5 sz_5
          unfold putP at hw_5
          try rw [hw_5]
          clear hw_5 cn fn
          refine hK.out _ _ ?_ (fun hHeld => ?_)
          · exact ⟨rowCells (keepHeap bs_5 A_12), rowCells (keepHeap bs_5 B_12)⟩
          clear hK K
          (try simp only [Act.put, List.setIfInBounds_toArray, List.set_cons_zero, List.set_cons_succ])
          refine wpAnyH_done (by kernel_rfl) ?_ _
          go_wp2_with (fail)
          go_meet
          case rel => exact ⟨_, rfl, _, _, _, _, _, v_2.heap.size, v_3.heap.size, rfl, P_5, oS_5, by omega, by omega, by omega, by have := hp_4; omega, bs_5⟩
        · go_simp
          obtain ⟨v_3, hw_3, P_3, hb_3⟩ : ∃ W, v_2.alloc (.cells #[.int .i64 0, .int .i64 0, .int .i64 0, .slice none 0 0, .slice none 0 0, .int .i64 0, .int .i64 0, .int .i64 0, .int .i64 0] 43) = W ∧ W.heap[v_2.heap.size]? = some (.cells #[.int .i64 0, .int .i64 0, .int .i64 0, .slice none 0 0, .slice none 0 0, .int .i64 0, .int .i64 0, .int .i64 0, .int .i64 0] 43 (0, 0)) ∧ Below v_2.heap.size v_2 W := ⟨_, rfl, heap_alloc_new v_2 _, below1 v_2 _⟩
          try rw [hw_3]
          clear hw_3
          have hp_3 := bs_2.size
          have bs_3 := bs_2.trans (hb_3.mono bs_2.size)
          have rd_3 := rd_2.keep hb_3
          have sz_3 := hb_3.size
          have lt_3 := blockLt P_3
          refine hK.out _ _ ?_ (fun hHeld => ?_)
          · exact ⟨rowCells (keepHeap bs_3 A_12), rowCells (keepHeap bs_3 B_12)⟩
          clear hK K
          (try simp only [Act.put, List.setIfInBounds_toArray, List.set_cons_zero, List.set_cons_succ])
          refine wpAnyH_ready (rs := [5]) (by kernel_rfl) (by simp) ?_
          refine AllReadyH.cons rfl (fun K hK => ?_) AllReadyH.nil
          go_simp
          refine (himpl rd_3).mono ?_
          rintro e v_4 ⟨viS, vaS, rfl, oS_4, -, -, hb_4⟩
          have bs_4 := bs_3.trans (hb_4.mono bs_3.size)
          have rd_4 := rd_3.keep hb_4
          have P_4 := keepHeap hb_4 P_3
          obtain ⟨aiS, ciS, rfl, -⟩ := id oS_4.rd.1
          obtain ⟨aaS, caS, rfl, -⟩ := id oS_4.rd.2
          have sz_4 := hb_4.size
          have lt_4 := blockLt P_4
          (try go_wp2_with (fail))
          refine hK.out _ _ ?_ (fun hHeld => ?_)
          · exact ⟨rowCells (keepHeap bs_4 A_12), rowCells (keepHeap bs_4 B_12)⟩
          clear hK K
          (try simp only [Act.put, List.setIfInBounds_toArray, List.set_cons_zero, List.set_cons_succ])
          refine wpAnyH_ready (rs := [7]) (by kernel_rfl) (by simp) ?_
          refine AllReadyH.cons rfl (fun K hK => ?_) AllReadyH.nil
          have cn := rowCells P_4
          have fn := fun j => frozenHeap P_4 j
          go_simp
          have P_5 := putP_heap P_4 rfl y (.slice aiS y.ins.length ciS) (.slice aaS y.acks.length caS)
          have bs_5 := putP_below bs_4 (c := v_2.heap.size) (by have := hp_3; omega) y (.slice aiS y.ins.length ciS) (.slice aaS y.acks.length caS)
          have oS_5 := OwnPIn.putP oS_4 (c := v_2.heap.size) (by omega) y (.slice aiS y.ins.length ciS) (.slice aaS y.acks.length caS)
          have sz_5 : v_4.heap.size ≤ (putP v_4 (v_2.heap.size) y (.slice aiS y.ins.length ciS) (.slice aaS y.acks.length caS)).heap.size := by rw [putP_size]; exact Nat.le_refl _
          obtain ⟨v_5, hw_5⟩ : ∃ W, putP v_4 (v_2.heap.size) y (.slice aiS y.ins.length ciS) (.slice aaS y.acks.length caS) = W := ⟨_, rfl⟩
          rw [hw_5] at P_5 bs_5 oS_5 sz_5
          unfold putP at hw_5
          try rw [hw_5]
          clear hw_5 cn fn
          refine hK.out _ _ ?_ (fun hHeld => ?_)
          · exact ⟨rowCells (keepHeap bs_5 A_12), rowCells (keepHeap bs_5 B_12)⟩
          clear hK K
          (try simp only [Act.put, List.setIfInBounds_toArray, List.set_cons_zero, List.set_cons_succ])
          refine wpAnyH_done (by kernel_rfl) ?_ _
          go_wp2_with (fail)
          go_meet
          case rel => exact ⟨_, rfl, _, _, _, _, _, v_3.heap.size, v_4.heap.size, rfl, P_5, oS_5, by omega, by omega, by omega, by have := hp_3; omega, bs_5⟩
      · go_simp
        obtain ⟨v_2, hw_2, P_2, hb_2⟩ : ∃ W, v_1.alloc (.cells #[.int .i64 0, .int .i64 0, .int .i64 0, .slice none 0 0, .slice none 0 0, .int .i64 0, .int .i64 0, .int .i64 0, .int .i64 0] 43) = W ∧ W.heap[v_1.heap.size]? = some (.cells #[.int .i64 0, .int .i64 0, .int .i64 0, .slice none 0 0, .slice none 0 0, .int .i64 0, .int .i64 0, .int .i64 0, .int .i64 0] 43 (0, 0)) ∧ Below v_1.heap.size v_1 W := ⟨_, rfl, heap_alloc_new v_1 _, below1 v_1 _⟩
        try rw [hw_2]
        clear hw_2
        have hp_2 := bs_1.size
        have bs_2 := bs_1.trans (hb_2.mono bs_1.size)
        have rd_2 := rd_1.keep hb_2
        have sz_2 := hb_2.size
        have lt_2 := blockLt P_2
        refine hK.out _ _ ?_ (fun hHeld => ?_)
        · exact ⟨rowCells (keepHeap bs_2 A_12), rowCells (keepHeap bs_2 B_12)⟩
        clear hK K
        (try simp only [Act.put, List.setIfInBounds_toArray, List.set_cons_zero, List.set_cons_succ])
        refine wpAnyH_ready (rs := [3]) (by kernel_rfl) (by simp) ?_
        refine AllReadyH.cons rfl (fun K hK => ?_) AllReadyH.nil
        go_simp
        refine (tp _).mono ?_
        rintro e v_3 ⟨rfl, hb_3⟩
        have bs_3 := bs_2.trans (hb_3.mono bs_2.size)
        have rd_3 := rd_2.keep hb_3
        have P_3 := keepHeap hb_3 P_2
        have sz_3 := hb_3.size
        have lt_3 := blockLt P_3
        (try go_wp2_with (fail))
        refine hK.out _ _ ?_ (fun hHeld => ?_)
        · exact ⟨rowCells (keepHeap bs_3 A_12), rowCells (keepHeap bs_3 B_12)⟩
        clear hK K
        (try simp only [Act.put, List.setIfInBounds_toArray, List.set_cons_zero, List.set_cons_succ])
        refine wpAnyH_ready (rs := [5]) (by kernel_rfl) (by simp) ?_
        refine AllReadyH.cons rfl (fun K hK => ?_) AllReadyH.nil
        go_simp
        refine (himpl rd_3).mono ?_
        rintro e v_4 ⟨viS, vaS, rfl, oS_4, -, -, hb_4⟩
        have bs_4 := bs_3.trans (hb_4.mono bs_3.size)
        have rd_4 := rd_3.keep hb_4
        have P_4 := keepHeap hb_4 P_3
        obtain ⟨aiS, ciS, rfl, -⟩ := id oS_4.rd.1
        obtain ⟨aaS, caS, rfl, -⟩ := id oS_4.rd.2
        have sz_4 := hb_4.size
        have lt_4 := blockLt P_4
        (try go_wp2_with (fail))
        refine hK.out _ _ ?_ (fun hHeld => ?_)
        · exact ⟨rowCells (keepHeap bs_4 A_12), rowCells (keepHeap bs_4 B_12)⟩
        clear hK K
        (try simp only [Act.put, List.setIfInBounds_toArray, List.set_cons_zero, List.set_cons_succ])
        refine wpAnyH_ready (rs := [7]) (by kernel_rfl) (by simp) ?_
        refine AllReadyH.cons rfl (fun K hK => ?_) AllReadyH.nil
        have cn := rowCells P_4
        have fn := fun j => frozenHeap P_4 j
        go_simp
        have P_5 := putP_heap P_4 rfl y (.slice aiS y.ins.length ciS) (.slice aaS y.acks.length caS)
        have bs_5 := putP_below bs_4 (c := v_1.heap.size) (by have := hp_2; omega) y (.slice aiS y.ins.length ciS) (.slice aaS y.acks.length caS)
        have oS_5 := OwnPIn.putP oS_4 (c := v_1.heap.size) (by omega) y (.slice aiS y.ins.length ciS) (.slice aaS y.acks.length caS)
        have sz_5 : v_4.heap.size ≤ (putP v_4 (v_1.heap.size) y (.slice aiS y.ins.length ciS) (.slice aaS y.acks.length caS)).heap.size := by rw [putP_size]; exact Nat.le_refl _
        obtain ⟨v_5, hw_5⟩ : ∃ W, putP v_4 (v_1.heap.size) y (.slice aiS y.ins.length ciS) (.slice aaS y.acks.length caS) = W := ⟨_, rfl⟩
        rw [hw_5] at P_5 bs_5 oS_5 sz_5
        unfold putP at hw_5
        try rw [hw_5]
        clear hw_5 cn fn
        refine hK.out _ _ ?_ (fun hHeld => ?_)
        · exact ⟨rowCells (keepHeap bs_5 A_12), rowCells (keepHeap bs_5 B_12)⟩
        clear hK K
        (try simp only [Act.put, List.setIfInBounds_toArray, List.set_cons_zero, List.set_cons_succ])
        refine wpAnyH_done (by kernel_rfl) ?_ _
        go_wp2_with (fail)
        go_meet
        case rel => exact ⟨_, rfl, _, _, _, _, _, v_3.heap.size, v_4.heap.size, rfl, P_5, oS_5, by omega, by omega, by omega, by have := hp_2; omega, bs_5⟩
    · go_simp
      obtain ⟨v_1, hw_1, P_1, hb_1⟩ : ∃ W, (w_12.alloc (.cells #[.int .i64 0, .int .i64 0, .int .i64 0, .slice none 0 0, .slice none 0 0, .int .i64 0, .int .i64 0, .int .i64 0, .int .i64 0] 43)).drew = W ∧ W.heap[w_12.heap.size]? = some (.cells #[.int .i64 0, .int .i64 0, .int .i64 0, .slice none 0 0, .slice none 0 0, .int .i64 0, .int .i64 0, .int .i64 0, .int .i64 0] 43 (0, 0)) ∧ Below w_12.drew.heap.size w_12.drew W := ⟨_, rfl, heap_alloc_new w_12.drew _, below1 w_12.drew _⟩
      try rw [hw_1]
      clear hw_1
      have hp_1 := bs_0.size
      have bs_1 := bs_0.trans (hb_1.mono bs_0.size)
      have sz_1 := hb_1.size
      have lt_1 := blockLt P_1
      refine hK.out _ _ ?_ (fun hHeld => ?_)
      · exact ⟨rowCells (keepHeap bs_1 A_12), rowCells (keepHeap bs_1 B_12)⟩
      clear hK K
      (try simp only [Act.put, List.setIfInBounds_toArray, List.set_cons_zero, List.set_cons_succ])
      refine wpAnyH_ready (rs := [1]) (by kernel_rfl) (by simp) ?_
      refine AllReadyH.cons rfl (fun K hK => ?_) AllReadyH.nil
      go_simp
      refine (htp (r2.keep bs_1)).mono ?_
      rintro e v_2 ⟨vi3_2, va3_2, rfl, oi3_2, -, oa3_2, -, hb_2⟩
      have bs_2 := bs_1.trans (hb_2.mono bs_1.size)
      have P_2 := keepHeap hb_2 P_1
      have rd_2 : RdP v_2 p vi3_2 va3_2 := ⟨oi3_2.rd, oa3_2.rd⟩
      obtain ⟨ai3_2, ci3_2, rfl, -⟩ := id rd_2.1
      obtain ⟨aa3_2, ca3_2, rfl, -⟩ := id rd_2.2
      have sz_2 := hb_2.size
      have lt_2 := blockLt P_2
      (try go_wp2_with (fail))
      refine hK.out _ _ ?_ (fun hHeld => ?_)
      · exact ⟨rowCells (keepHeap bs_2 A_12), rowCells (keepHeap bs_2 B_12)⟩
      clear hK K
      (try simp only [Act.put, List.setIfInBounds_toArray, List.set_cons_zero, List.set_cons_succ])
      refine wpAnyH_ready (rs := [3]) (by kernel_rfl) (by simp) ?_
      refine AllReadyH.cons rfl (fun K hK => ?_) AllReadyH.nil
      go_simp
      refine (tp _).mono ?_
      rintro e v_3 ⟨rfl, hb_3⟩
      have bs_3 := bs_2.trans (hb_3.mono bs_2.size)
      have P_3 := keepHeap hb_3 P_2
      have rd_3 := rd_2.keep hb_3
      have sz_3 := hb_3.size
      have lt_3 := blockLt P_3
      (try go_wp2_with (fail))
      refine hK.out _ _ ?_ (fun hHeld => ?_)
      · exact ⟨rowCells (keepHeap bs_3 A_12), rowCells (keepHeap bs_3 B_12)⟩
      clear hK K
      (try simp only [Act.put, List.setIfInBounds_toArray, List.set_cons_zero, List.set_cons_succ])
      refine wpAnyH_ready (rs := [5]) (by kernel_rfl) (by simp) ?_
      refine AllReadyH.cons rfl (fun K hK => ?_) AllReadyH.nil
      go_simp
      refine (himpl rd_3).mono ?_
      rintro e v_4 ⟨viS, vaS, rfl, oS_4, -, -, hb_4⟩
      have bs_4 := bs_3.trans (hb_4.mono bs_3.size)
      have P_4 := keepHeap hb_4 P_3
      have rd_4 := rd_3.keep hb_4
      obtain ⟨aiS, ciS, rfl, -⟩ := id oS_4.rd.1
      obtain ⟨aaS, caS, rfl, -⟩ := id oS_4.rd.2
      have sz_4 := hb_4.size
      have lt_4 := blockLt P_4
      (try go_wp2_with (fail))
      refine hK.out _ _ ?_ (fun hHeld => ?_)
      · exact ⟨rowCells (keepHeap bs_4 A_12), rowCells (keepHeap bs_4 B_12)⟩
      clear hK K
      (try simp only [Act.put, List.setIfInBounds_toArray, List.set_cons_zero, List.set_cons_succ])
      refine wpAnyH_ready (rs := [7]) (by kernel_rfl) (by simp) ?_
      refine AllReadyH.cons rfl (fun K hK => ?_) AllReadyH.nil
      have cn := rowCells P_4
      have fn := fun j => frozenHeap P_4 j
      go_simp
      have P_5 := putP_heap P_4 rfl y (.slice aiS y.ins.length ciS) (.slice aaS y.acks.length caS)
      have bs_5 := putP_below bs_4 (c := w_12.heap.size) (by have := hp_1; omega) y (.slice aiS y.ins.length ciS) (.slice aaS y.acks.length caS)
      have oS_5 := OwnPIn.putP oS_4 (c := w_12.heap.size) (by omega) y (.slice aiS y.ins.length ciS) (.slice aaS y.acks.length caS)
      have sz_5 : v_4.heap.size ≤ (putP v_4 (w_12.heap.size) y (.slice aiS y.ins.length ciS) (.slice aaS y.acks.length caS)).heap.size := by rw [putP_size]; exact Nat.le_refl _
      obtain ⟨v_5, hw_5⟩ : ∃ W, putP v_4 (w_12.heap.size) y (.slice aiS y.ins.length ciS) (.slice aaS y.acks.length caS) = W := ⟨_, rfl⟩
      rw [hw_5] at P_5 bs_5 oS_5 sz_5
      unfold putP at hw_5
      try rw [hw_5]
      clear hw_5 cn fn
      refine hK.out _ _ ?_ (fun hHeld => ?_)
      · exact ⟨rowCells (keepHeap bs_5 A_12), rowCells (keepHeap bs_5 B_12)⟩
      clear hK K
      (try simp only [Act.put, List.setIfInBounds_toArray, List.set_cons_zero, List.set_cons_succ])
      refine wpAnyH_done (by kernel_rfl) ?_ _
      go_wp2_with (fail)
      go_meet
      case rel => exact ⟨_, rfl, _, _, _, _, _, v_3.heap.size, v_4.heap.size, rfl, P_5, oS_5, by omega, by omega, by omega, by have := hp_1; omega, bs_5⟩
  obtain ⟨u9, hu9, gH, aiH, ciH, aaH, caH, loH, hiH, rfl, hH0, oH0, hlH, hhH, hgH, hgHW, hbZ⟩ := hcut
  subst hu9
  clear r2 hz
  have q0_13 := q0_12.trans (hbZ.mono q0_12.size)
  have qP_13 := qP_12.trans (hbZ.mono qP_12.size)
  have qM_13 := qM_12.trans (hbZ.mono qM_12.size)
  have A_13 := keepHeap hbZ A_12
  have B_13 := keepHeap hbZ B_12
  have P_13 := keepHeap hbZ P_12
  have G_13 := keepHeap hbZ G_12
  have sz_13 := hbZ.size
  clear q0_12 qP_12 qM_12 A_12 B_12 P_12 G_12 cA_12 cB_12
  have qH_13 : Below u9.heap.size u9 u9 := Below.refl _ _
  have cP_13 := rowCells P_13
  have chH0 := rowCells hH0
  go_wp2_with (fail)
  refine (heq (oH0.rd.keep qH_13) (oP0.rd.keep qP_13)).mono ?_
  rintro e w_14 ⟨rfl, hb_14⟩
  have q0_14 := q0_13.trans (hb_14.mono q0_13.size)
  have qP_14 := qP_13.trans (hb_14.mono qP_13.size)
  have qM_14 := qM_13.trans (hb_14.mono qM_13.size)
  have qH_14 := qH_13.trans (hb_14.mono qH_13.size)
  have A_14 := keepHeap hb_14 A_13
  have B_14 := keepHeap hb_14 B_13
  have P_14 := keepHeap hb_14 P_13
  have G_14 := keepHeap hb_14 G_13
  have H_14 := keepHeap hb_14 hH0
  have sz_14 := hb_14.size
  clear q0_13 qP_13 qM_13 qH_13 A_13 B_13 P_13 G_13 hH0 cP_13 chH0
  clear hb_14
  have cG_14 := rowCells G_14
  go_wp2_with (fail)
  refine (hhd (mg.rd.keep qM_14)).mono ?_
  rintro e w_15 ⟨rfl, hb_15⟩
  have q0_15 := q0_14.trans (hb_15.mono q0_14.size)
  have qP_15 := qP_14.trans (hb_15.mono qP_14.size)
  have qM_15 := qM_14.trans (hb_15.mono qM_14.size)
  have qH_15 := qH_14.trans (hb_15.mono qH_14.size)
  have A_15 := keepHeap hb_15 A_14
  have B_15 := keepHeap hb_15 B_14
  have P_15 := keepHeap hb_15 P_14
  have G_15 := keepHeap hb_15 G_14
  have H_15 := keepHeap hb_15 H_14
  have sz_15 := hb_15.size
  clear q0_14 qP_14 qM_14 qH_14 A_14 B_14 P_14 G_14 H_14 cG_14
  clear hb_15
  go_wp2_with (fail)
  go_ret
  exact ⟨rfl, q0_15⟩
end Go.Proofs.Yteafgghpkohfpaa
