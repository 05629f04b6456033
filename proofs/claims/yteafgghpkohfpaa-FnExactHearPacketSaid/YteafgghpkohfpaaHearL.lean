/-
  The law on HearPacket. No condition.
-/
import Derived.Test.YteafgghpkohfpaaHearS
import Derived.Test.YteafgghpkohfpaaReg
import Derived.Deep.RegionHeld3
namespace Go.Proofs.Yteafgghpkohfpaa
open Go.RowKit
set_option linter.all false
set_option maxRecDepth 100000 in
set_option maxHeartbeats 8000000 in
theorem lawHearPacket (q : Pc) (fq : q.fits) {w : World} (p : Pk) (vi va : Value) (h : RdP w p vi va) (hs : p.sane) (now : Int) (wn : (Lit.int .i64 now).wf = true) :
    Calls Try.prog 8 #[pcV q, .agg (pkC p vi va), .int .i64 now] w fun e w' => e = .returned (.bool true) ∧ Below w.heap.size w w' := by
  obtain ⟨ai, ci, rfl, -⟩ := id h.1
  obtain ⟨aa, ca, rfl, -⟩ := id h.2
  obtain ⟨W1, hW, hA1, hB1, hb1, -⟩ := rows2 w #[.int .i64 q.newest, .int .i64 q.their, .int .i64 q.at0, .int .i64 q.trip, .int .i64 q.samples] #[.int .i64 p.fr, .int .i64 p.tick, .int .i64 p.first, (.slice ai p.ins.length ci), (.slice aa p.acks.length ca), .int .i64 p.sumTick, .int .i64 p.sum, .int .i64 p.time, .int .i64 p.echo] 29 40
  have cA1 := rowCells hA1
  have cB1 := rowCells hB1
  have r1 := h.keep hb1
  have tp := fun W => toPace_any q W
  have hspec := fun {W : World} {vi va : Value} (h : RdP W p vi va) => hear_spec q h hs now
  have himpl := fun {W : World} {vi va : Value} (h : RdP W p vi va) => hear_impl q h hs now
  generalize hearR q p now = c at hspec himpl
  have ep := fun W => eqPace_same c W
  unfold pcV at tp hspec himpl ep ⊢
  unfold pkC at hspec himpl ⊢
  go_enter Try.func8, Try.ntmps8
  go_wp2_with (fail)
  try rw [hW]
  clear hW
  refine (szPacket_any r1 hs 1048576 (by omega) (by omega)).mono ?_
  rintro e w2 ⟨r, rfl, hr, hb2⟩
  have hb12 := hb1.trans (hb2.mono hb1.size)
  have hA2 := keepHeap hb2 hA1
  have hB2 := keepHeap hb2 hB1
  have cA2 := rowCells hA2
  have cB2 := rowCells hB2
  have r2 := h.keep hb12
  clear r1 cA1 hA1 cB1 hB1 hb1 hb2
  rcases hr with rfl | ⟨hr0, hr1⟩
  · go_wp2_with (fail)
    go_ret
    exact ⟨rfl, hb12⟩
  have zr : decide (r < 0) = false := by simpa using hr0
  have hn : p.few := ⟨by omega, by omega⟩
  clear hr1
  have hs2 := hb12.size
  go_upto_region 5 with (fail)
  go_cut [8] from 16 (fun q wr => ∃ p : Nat, q = .pointer (some ⟨p, 0, none⟩) ∧ wr.heap[p]? = some (.cells #[.int .i64 c.newest, .int .i64 c.their, .int .i64 c.at0, .int .i64 c.trip, .int .i64 c.samples] 31 (0, 0)) ∧ Below w2.heap.size w2 wr)
  case first =>
    have bs_0 : Below w2.heap.size w2 w2.drew := belowDrew w2 1
    refine wp_region_held_drew (S := (fun w' => (∀ j, w'.cell? ⟨w.heap.size, j, none⟩ = #[Value.int .i64 q.newest, .int .i64 q.their, .int .i64 q.at0, .int .i64 q.trip, .int .i64 q.samples][j]?) ∧ (∀ j, w'.cell? ⟨w.heap.size + 1, j, none⟩ = #[Value.int .i64 p.fr, .int .i64 p.tick, .int .i64 p.first, (.slice ai p.ins.length ci), (.slice aa p.acks.length ca), .int .i64 p.sumTick, .int .i64 p.sum, .int .i64 p.time, .int .i64 p.echo][j]?))) (by kernel_rfl) ?_ (fun hHeld => ?_)
    · exact ⟨rowCells (keepHeap bs_0 hA2), rowCells (keepHeap bs_0 hB2)⟩
    refine take_on (i := 0) (v := ?_) (some 16) rfl (by kernel_rfl) (by kernel_rfl) (by kernel_rfl) rfl (fun _ _ _ h => h) (by rfl) ?_ (by assumption) ?_
    rotate_left
    · intro w hSw; (try dsimp only at hSw); go_simp; (try with_reducible rfl)
    (try simp only [Act.put, List.setIfInBounds_toArray, List.set_cons_zero, List.set_cons_succ])
    refine take_on (i := 2) (v := ?_) (some 18) rfl (by kernel_rfl) (by kernel_rfl) (by kernel_rfl) rfl (fun _ _ _ h => h) (by rfl) ?_ (by assumption) ?_
    rotate_left
    · intro w hSw; (try dsimp only at hSw); go_simp; (try with_reducible rfl)
    (try simp only [Act.put, List.setIfInBounds_toArray, List.set_cons_zero, List.set_cons_succ])
    refine take_on (i := 4) (v := ?_) (some 20) rfl (by kernel_rfl) (by kernel_rfl) (by kernel_rfl) rfl (fun _ _ _ h => h) (by rfl) ?_ (by assumption) ?_
    rotate_left
    · intro w hSw; (try dsimp only at hSw); go_simp; (try with_reducible rfl)
    (try simp only [Act.put, List.setIfInBounds_toArray, List.set_cons_zero, List.set_cons_succ])
    refine wpAnyH_ready (rs := [1, 6]) (by kernel_rfl) (by simp) ?_
    refine AllReadyH.cons rfl (fun K hK => ?_) (AllReadyH.cons rfl (fun K hK => ?_) AllReadyH.nil)
    · go_simp
      refine (tp _).mono ?_
      rintro e w_1 ⟨rfl, hb_1⟩
      have bs_1 := bs_0.trans (hb_1.mono bs_0.size)
      (try go_wp2_with (fail))
      refine hK.out _ _ ?_ (fun hHeld => ?_)
      · exact ⟨rowCells (keepHeap bs_1 hA2), rowCells (keepHeap bs_1 hB2)⟩
      clear hK K
      (try simp only [Act.put, List.setIfInBounds_toArray, List.set_cons_zero, List.set_cons_succ])
      refine wpAnyH_ready (rs := [3, 6]) (by kernel_rfl) (by simp) ?_
      refine AllReadyH.cons rfl (fun K hK => ?_) (AllReadyH.cons rfl (fun K hK => ?_) AllReadyH.nil)
      · go_simp
        refine (toPacket_any (r2.keep bs_1) hn).mono ?_
        rintro e w_2 ⟨vi3_2, va3_2, rfl, oi3_2, -, oa3_2, -, hb_2⟩
        have bs_2 := bs_1.trans (hb_2.mono bs_1.size)
        have rd_2 : RdP w_2 p vi3_2 va3_2 := ⟨oi3_2.rd, oa3_2.rd⟩
        obtain ⟨ai3_2, ci3_2, rfl, -⟩ := id rd_2.1
        obtain ⟨aa3_2, ca3_2, rfl, -⟩ := id rd_2.2
        unfold pkC
        (try go_wp2_with (fail))
        refine hK.out _ _ ?_ (fun hHeld => ?_)
        · exact ⟨rowCells (keepHeap bs_2 hA2), rowCells (keepHeap bs_2 hB2)⟩
        clear hK K
        (try simp only [Act.put, List.setIfInBounds_toArray, List.set_cons_zero, List.set_cons_succ])
        refine wpAnyH_ready (rs := [5, 6]) (by kernel_rfl) (by simp) ?_
        refine AllReadyH.cons rfl (fun K hK => ?_) (AllReadyH.cons rfl (fun K hK => ?_) AllReadyH.nil)
        · go_simp
          refine (hspec rd_2).mono ?_
          rintro e w_3 ⟨rfl, hb_3⟩
          have bs_3 := bs_2.trans (hb_3.mono bs_2.size)
          have rd_3 := rd_2.keep hb_3
          (try go_wp2_with (fail))
          refine hK.out _ _ ?_ (fun hHeld => ?_)
          · exact ⟨rowCells (keepHeap bs_3 hA2), rowCells (keepHeap bs_3 hB2)⟩
          clear hK K
          (try simp only [Act.put, List.setIfInBounds_toArray, List.set_cons_zero, List.set_cons_succ])
          refine wpAnyH_ready (rs := [6]) (by kernel_rfl) (by simp) ?_
          refine AllReadyH.cons rfl (fun K hK => ?_) AllReadyH.nil
          go_simp
          obtain ⟨w_4, hw_4, P_4, hb_4⟩ : ∃ W, w_3.alloc (.cells #[.int .i64 0, .int .i64 0, .int .i64 0, .int .i64 0, .int .i64 0] 31) = W ∧ W.heap[w_3.heap.size]? = some (.cells #[.int .i64 0, .int .i64 0, .int .i64 0, .int .i64 0, .int .i64 0] 31 (0, 0)) ∧ Below w_3.heap.size w_3 W := ⟨_, rfl, heap_alloc_new w_3 _, below1 w_3 _⟩
          try rw [hw_4]
          clear hw_4
          have hp_4 := bs_3.size
          have bs_4 := bs_3.trans (hb_4.mono bs_3.size)
          have rd_4 := rd_3.keep hb_4
          refine hK.out _ _ ?_ (fun hHeld => ?_)
          · exact ⟨rowCells (keepHeap bs_4 hA2), rowCells (keepHeap bs_4 hB2)⟩
          clear hK K
          (try simp only [Act.put, List.setIfInBounds_toArray, List.set_cons_zero, List.set_cons_succ])
          refine wpAnyH_ready (rs := [7]) (by kernel_rfl) (by simp) ?_
          refine AllReadyH.cons rfl (fun K hK => ?_) AllReadyH.nil
          have cn := rowCells P_4
          have fn := fun j => frozenHeap P_4 j
          go_simp
          have P_5 := boxPc_heap P_4 rfl c
          have bs_5 := boxPc_below bs_4 (c := w_3.heap.size) (by have := hp_4; first | omega | (simp at this ⊢; omega)) c
          obtain ⟨w_5, hw_5⟩ : ∃ W, boxPc w_4 (w_3.heap.size) c = W := ⟨_, rfl⟩
          rw [hw_5] at P_5 bs_5
          unfold boxPc at hw_5
          try rw [hw_5]
          clear hw_5 cn fn
          refine hK.out _ _ ?_ (fun hHeld => ?_)
          · exact ⟨rowCells (keepHeap bs_5 hA2), rowCells (keepHeap bs_5 hB2)⟩
          clear hK K
          (try simp only [Act.put, List.setIfInBounds_toArray, List.set_cons_zero, List.set_cons_succ])
          refine wpAnyH_done (by kernel_rfl) ?_ _
          go_wp2_with (fail)
          go_meet
          case rel => exact ⟨_, rfl, P_5, bs_5⟩
        · go_simp
          obtain ⟨w_3, hw_3, P_3, hb_3⟩ : ∃ W, w_2.alloc (.cells #[.int .i64 0, .int .i64 0, .int .i64 0, .int .i64 0, .int .i64 0] 31) = W ∧ W.heap[w_2.heap.size]? = some (.cells #[.int .i64 0, .int .i64 0, .int .i64 0, .int .i64 0, .int .i64 0] 31 (0, 0)) ∧ Below w_2.heap.size w_2 W := ⟨_, rfl, heap_alloc_new w_2 _, below1 w_2 _⟩
          try rw [hw_3]
          clear hw_3
          have hp_3 := bs_2.size
          have bs_3 := bs_2.trans (hb_3.mono bs_2.size)
          have rd_3 := rd_2.keep hb_3
          refine hK.out _ _ ?_ (fun hHeld => ?_)
          · exact ⟨rowCells (keepHeap bs_3 hA2), rowCells (keepHeap bs_3 hB2)⟩
          clear hK K
          (try simp only [Act.put, List.setIfInBounds_toArray, List.set_cons_zero, List.set_cons_succ])
          refine wpAnyH_ready (rs := [5]) (by kernel_rfl) (by simp) ?_
          refine AllReadyH.cons rfl (fun K hK => ?_) AllReadyH.nil
          go_simp
          refine (hspec rd_3).mono ?_
          rintro e w_4 ⟨rfl, hb_4⟩
          have bs_4 := bs_3.trans (hb_4.mono bs_3.size)
          have rd_4 := rd_3.keep hb_4
          have P_4 := keepHeap hb_4 P_3
          (try go_wp2_with (fail))
          refine hK.out _ _ ?_ (fun hHeld => ?_)
          · exact ⟨rowCells (keepHeap bs_4 hA2), rowCells (keepHeap bs_4 hB2)⟩
          clear hK K
          (try simp only [Act.put, List.setIfInBounds_toArray, List.set_cons_zero, List.set_cons_succ])
          refine wpAnyH_ready (rs := [7]) (by kernel_rfl) (by simp) ?_
          refine AllReadyH.cons rfl (fun K hK => ?_) AllReadyH.nil
          have cn := rowCells P_4
          have fn := fun j => frozenHeap P_4 j
          go_simp
          have P_5 := boxPc_heap P_4 rfl c
          have bs_5 := boxPc_below bs_4 (c := w_2.heap.size) (by have := hp_3; first | omega | (simp at this ⊢; omega)) c
          obtain ⟨w_5, hw_5⟩ : ∃ W, boxPc w_4 (w_2.heap.size) c = W := ⟨_, rfl⟩
          rw [hw_5] at P_5 bs_5
          unfold boxPc at hw_5
          try rw [hw_5]
          clear hw_5 cn fn
          refine hK.out _ _ ?_ (fun hHeld => ?_)
          · exact ⟨rowCells (keepHeap bs_5 hA2), rowCells (keepHeap bs_5 hB2)⟩
          clear hK K
          (try simp only [Act.put, List.setIfInBounds_toArray, List.set_cons_zero, List.set_cons_succ])
          refine wpAnyH_done (by kernel_rfl) ?_ _
          go_wp2_with (fail)
          go_meet
          case rel => exact ⟨_, rfl, P_5, bs_5⟩
      · go_simp
        obtain ⟨w_2, hw_2, P_2, hb_2⟩ : ∃ W, w_1.alloc (.cells #[.int .i64 0, .int .i64 0, .int .i64 0, .int .i64 0, .int .i64 0] 31) = W ∧ W.heap[w_1.heap.size]? = some (.cells #[.int .i64 0, .int .i64 0, .int .i64 0, .int .i64 0, .int .i64 0] 31 (0, 0)) ∧ Below w_1.heap.size w_1 W := ⟨_, rfl, heap_alloc_new w_1 _, below1 w_1 _⟩
        try rw [hw_2]
        clear hw_2
        have hp_2 := bs_1.size
        have bs_2 := bs_1.trans (hb_2.mono bs_1.size)
        refine hK.out _ _ ?_ (fun hHeld => ?_)
        · exact ⟨rowCells (keepHeap bs_2 hA2), rowCells (keepHeap bs_2 hB2)⟩
        clear hK K
        (try simp only [Act.put, List.setIfInBounds_toArray, List.set_cons_zero, List.set_cons_succ])
        refine wpAnyH_ready (rs := [3]) (by kernel_rfl) (by simp) ?_
        refine AllReadyH.cons rfl (fun K hK => ?_) AllReadyH.nil
        go_simp
        refine (toPacket_any (r2.keep bs_2) hn).mono ?_
        rintro e w_3 ⟨vi3_3, va3_3, rfl, oi3_3, -, oa3_3, -, hb_3⟩
        have bs_3 := bs_2.trans (hb_3.mono bs_2.size)
        have P_3 := keepHeap hb_3 P_2
        have rd_3 : RdP w_3 p vi3_3 va3_3 := ⟨oi3_3.rd, oa3_3.rd⟩
        obtain ⟨ai3_3, ci3_3, rfl, -⟩ := id rd_3.1
        obtain ⟨aa3_3, ca3_3, rfl, -⟩ := id rd_3.2
        unfold pkC
        (try go_wp2_with (fail))
        refine hK.out _ _ ?_ (fun hHeld => ?_)
        · exact ⟨rowCells (keepHeap bs_3 hA2), rowCells (keepHeap bs_3 hB2)⟩
        clear hK K
        (try simp only [Act.put, List.setIfInBounds_toArray, List.set_cons_zero, List.set_cons_succ])
        refine wpAnyH_ready (rs := [5]) (by kernel_rfl) (by simp) ?_
        refine AllReadyH.cons rfl (fun K hK => ?_) AllReadyH.nil
        go_simp
        refine (hspec rd_3).mono ?_
        rintro e w_4 ⟨rfl, hb_4⟩
        have bs_4 := bs_3.trans (hb_4.mono bs_3.size)
        have P_4 := keepHeap hb_4 P_3
        have rd_4 := rd_3.keep hb_4
        (try go_wp2_with (fail))
        refine hK.out _ _ ?_ (fun hHeld => ?_)
        · exact ⟨rowCells (keepHeap bs_4 hA2), rowCells (keepHeap bs_4 hB2)⟩
        clear hK K
        (try simp only [Act.put, List.setIfInBounds_toArray, List.set_cons_zero, List.set_cons_succ])
        refine wpAnyH_ready (rs := [7]) (by kernel_rfl) (by simp) ?_
        refine AllReadyH.cons rfl (fun K hK => ?_) AllReadyH.nil
        have cn := rowCells P_4
        have fn := fun j => frozenHeap P_4 j
        go_simp
        have P_5 := boxPc_heap P_4 rfl c
        have bs_5 := boxPc_below bs_4 (c := w_1.heap.size) (by have := hp_2; first | omega | (simp at this ⊢; omega)) c
        obtain ⟨w_5, hw_5⟩ : ∃ W, boxPc w_4 (w_1.heap.size) c = W := ⟨_, rfl⟩
        rw [hw_5] at P_5 bs_5
        unfold boxPc at hw_5
        try rw [hw_5]
        clear hw_5 cn fn
        refine hK.out _ _ ?_ (fun hHeld => ?_)
        · exact ⟨rowCells (keepHeap bs_5 hA2), rowCells (keepHeap bs_5 hB2)⟩
        clear hK K
        (try simp only [Act.put, List.setIfInBounds_toArray, List.set_cons_zero, List.set_cons_succ])
        refine wpAnyH_done (by kernel_rfl) ?_ _
        go_wp2_with (fail)
        go_meet
        case rel => exact ⟨_, rfl, P_5, bs_5⟩
    · go_simp
      obtain ⟨w_1, hw_1, P_1, hb_1⟩ : ∃ W, (w2.alloc (.cells #[.int .i64 0, .int .i64 0, .int .i64 0, .int .i64 0, .int .i64 0] 31)).drew = W ∧ W.heap[w2.heap.size]? = some (.cells #[.int .i64 0, .int .i64 0, .int .i64 0, .int .i64 0, .int .i64 0] 31 (0, 0)) ∧ Below w2.drew.heap.size w2.drew W := ⟨_, rfl, heap_alloc_new w2.drew _, below1 w2.drew _⟩
      try rw [hw_1]
      clear hw_1
      have hp_1 := bs_0.size
      have bs_1 := bs_0.trans (hb_1.mono bs_0.size)
      refine hK.out _ _ ?_ (fun hHeld => ?_)
      · exact ⟨rowCells (keepHeap bs_1 hA2), rowCells (keepHeap bs_1 hB2)⟩
      clear hK K
      (try simp only [Act.put, List.setIfInBounds_toArray, List.set_cons_zero, List.set_cons_succ])
      refine wpAnyH_ready (rs := [1]) (by kernel_rfl) (by simp) ?_
      refine AllReadyH.cons rfl (fun K hK => ?_) AllReadyH.nil
      go_simp
      refine (tp _).mono ?_
      rintro e w_2 ⟨rfl, hb_2⟩
      have bs_2 := bs_1.trans (hb_2.mono bs_1.size)
      have P_2 := keepHeap hb_2 P_1
      (try go_wp2_with (fail))
      refine hK.out _ _ ?_ (fun hHeld => ?_)
      · exact ⟨rowCells (keepHeap bs_2 hA2), rowCells (keepHeap bs_2 hB2)⟩
      clear hK K
      (try simp only [Act.put, List.setIfInBounds_toArray, List.set_cons_zero, List.set_cons_succ])
      refine wpAnyH_ready (rs := [3]) (by kernel_rfl) (by simp) ?_
      refine AllReadyH.cons rfl (fun K hK => ?_) AllReadyH.nil
      go_simp
      refine (toPacket_any (r2.keep bs_2) hn).mono ?_
      rintro e w_3 ⟨vi3_3, va3_3, rfl, oi3_3, -, oa3_3, -, hb_3⟩
      have bs_3 := bs_2.trans (hb_3.mono bs_2.size)
      have P_3 := keepHeap hb_3 P_2
      have rd_3 : RdP w_3 p vi3_3 va3_3 := ⟨oi3_3.rd, oa3_3.rd⟩
      obtain ⟨ai3_3, ci3_3, rfl, -⟩ := id rd_3.1
      obtain ⟨aa3_3, ca3_3, rfl, -⟩ := id rd_3.2
      unfold pkC
      (try go_wp2_with (fail))
      refine hK.out _ _ ?_ (fun hHeld => ?_)
      · exact ⟨rowCells (keepHeap bs_3 hA2), rowCells (keepHeap bs_3 hB2)⟩
      clear hK K
      (try simp only [Act.put, List.setIfInBounds_toArray, List.set_cons_zero, List.set_cons_succ])
      refine wpAnyH_ready (rs := [5]) (by kernel_rfl) (by simp) ?_
      refine AllReadyH.cons rfl (fun K hK => ?_) AllReadyH.nil
      go_simp
      refine (hspec rd_3).mono ?_
      rintro e w_4 ⟨rfl, hb_4⟩
      have bs_4 := bs_3.trans (hb_4.mono bs_3.size)
      have P_4 := keepHeap hb_4 P_3
      have rd_4 := rd_3.keep hb_4
      (try go_wp2_with (fail))
      refine hK.out _ _ ?_ (fun hHeld => ?_)
      · exact ⟨rowCells (keepHeap bs_4 hA2), rowCells (keepHeap bs_4 hB2)⟩
      clear hK K
      (try simp only [Act.put, List.setIfInBounds_toArray, List.set_cons_zero, List.set_cons_succ])
      refine wpAnyH_ready (rs := [7]) (by kernel_rfl) (by simp) ?_
      refine AllReadyH.cons rfl (fun K hK => ?_) AllReadyH.nil
      have cn := rowCells P_4
      have fn := fun j => frozenHeap P_4 j
      go_simp
      have P_5 := boxPc_heap P_4 rfl c
      have bs_5 := boxPc_below bs_4 (c := w2.heap.size) (by have := hp_1; first | omega | (simp at this ⊢; omega)) c
      obtain ⟨w_5, hw_5⟩ : ∃ W, boxPc w_4 (w2.heap.size) c = W := ⟨_, rfl⟩
      rw [hw_5] at P_5 bs_5
      unfold boxPc at hw_5
      try rw [hw_5]
      clear hw_5 cn fn
      refine hK.out _ _ ?_ (fun hHeld => ?_)
      · exact ⟨rowCells (keepHeap bs_5 hA2), rowCells (keepHeap bs_5 hB2)⟩
      clear hK K
      (try simp only [Act.put, List.setIfInBounds_toArray, List.set_cons_zero, List.set_cons_succ])
      refine wpAnyH_done (by kernel_rfl) ?_ _
      go_wp2_with (fail)
      go_meet
      case rel => exact ⟨_, rfl, P_5, bs_5⟩
  obtain ⟨g, rfl, hP, hb5⟩ := hcut
  have hA6 := keepHeap hb5 hA2
  have hB6 := keepHeap hb5 hB2
  have hb16 := hb12.trans (hb5.mono hs2)
  have cA6 := rowCells hA6
  have cB6 := rowCells hB6
  have r6 := h.keep hb16
  clear hA2 hB2 cA2 cB2 hb12 r2 hb5
  go_wp2_with (fail)
  refine (toPacket_any r6 hn).mono ?_
  rintro e w7 ⟨vi7, va7, rfl, oi7, -, oa7, -, hb7⟩
  have hb17 := hb16.trans (hb7.mono hb16.size)
  have hA7 := keepHeap hb7 hA6
  have hB7 := keepHeap hb7 hB6
  have hP7 := keepHeap hb7 hP
  have rd7 : RdP w7 p vi7 va7 := ⟨oi7.rd, oa7.rd⟩
  obtain ⟨ai7, ci7, rfl, -⟩ := id rd7.1
  obtain ⟨aa7, ca7, rfl, -⟩ := id rd7.2
  unfold pkC
  obtain ⟨W8, hW8, hA8, hB8, hX8, hb8, hb18⟩ : ∃ W8, w7.alloc (.cells #[.int .i64 p.fr, .int .i64 p.tick, .int .i64 p.first, (.slice ai7 p.ins.length ci7), (.slice aa7 p.acks.length ca7), .int .i64 p.sumTick, .int .i64 p.sum, .int .i64 p.time, .int .i64 p.echo] 43) = W8 ∧ W8.heap[w.heap.size]? = some (.cells #[.int .i64 q.newest, .int .i64 q.their, .int .i64 q.at0, .int .i64 q.trip, .int .i64 q.samples] 29 (0, 0)) ∧ W8.heap[w.heap.size + 1]? = some (.cells #[.int .i64 p.fr, .int .i64 p.tick, .int .i64 p.first, (.slice ai p.ins.length ci), (.slice aa p.acks.length ca), .int .i64 p.sumTick, .int .i64 p.sum, .int .i64 p.time, .int .i64 p.echo] 40 (0, 0)) ∧ W8.heap[w7.heap.size]? = some (.cells #[.int .i64 p.fr, .int .i64 p.tick, .int .i64 p.first, (.slice ai7 p.ins.length ci7), (.slice aa7 p.acks.length ca7), .int .i64 p.sumTick, .int .i64 p.sum, .int .i64 p.time, .int .i64 p.echo] 43 (0, 0)) ∧ Below w7.heap.size w7 W8 ∧ Below w.heap.size w W8 := ⟨_, rfl, keepHeap (below1 _ _) hA7, keepHeap (below1 _ _) hB7, heap_alloc_new _ _, below1 _ _, hb17.trans ((below1 _ _).mono hb17.size)⟩
  have hP8 := keepHeap hb8 hP7
  have rd8 := rd7.keep hb8
  have hs8 := hb18.size
  clear hA6 hB6 cA6 cB6 r6 hA7 hB7 hb16 hb17 oi7 oa7 rd7
  go_upto_region 7 with (fail)
  try rw [hW8]
  clear hW8
  go_cut [10] from 24 (fun q wr => ∃ p : Nat, q = .pointer (some ⟨p, 0, none⟩) ∧ wr.heap[p]? = some (.cells #[.int .i64 c.newest, .int .i64 c.their, .int .i64 c.at0, .int .i64 c.trip, .int .i64 c.samples] 31 (0, 0)) ∧ Below W8.heap.size W8 wr)
  case first =>
    have bs_0 : Below W8.heap.size W8 W8.drew := belowDrew W8 1
    refine wp_region_held_drew (S := (fun w' => (∀ j, w'.cell? ⟨w.heap.size, j, none⟩ = #[Value.int .i64 q.newest, .int .i64 q.their, .int .i64 q.at0, .int .i64 q.trip, .int .i64 q.samples][j]?) ∧ (∀ j, w'.cell? ⟨w7.heap.size, j, none⟩ = #[Value.int .i64 p.fr, .int .i64 p.tick, .int .i64 p.first, (.slice ai7 p.ins.length ci7), (.slice aa7 p.acks.length ca7), .int .i64 p.sumTick, .int .i64 p.sum, .int .i64 p.time, .int .i64 p.echo][j]?))) (by kernel_rfl) ?_ (fun hHeld => ?_)
    · exact ⟨rowCells (keepHeap bs_0 hA8), rowCells (keepHeap bs_0 hX8)⟩
    refine take_on (i := 0) (v := ?_) (some 24) rfl (by kernel_rfl) (by kernel_rfl) (by kernel_rfl) rfl (fun _ _ _ h => h) (by rfl) ?_ (by assumption) ?_
    rotate_left
    · intro w hSw; (try dsimp only at hSw); go_simp; (try with_reducible rfl)
    (try simp only [Act.put, List.setIfInBounds_toArray, List.set_cons_zero, List.set_cons_succ])
    refine take_on (i := 2) (v := ?_) (some 26) rfl (by kernel_rfl) (by kernel_rfl) (by kernel_rfl) rfl (fun _ _ _ h => h) (by rfl) ?_ (by assumption) ?_
    rotate_left
    · intro w hSw; (try dsimp only at hSw); go_simp; (try with_reducible rfl)
    (try simp only [Act.put, List.setIfInBounds_toArray, List.set_cons_zero, List.set_cons_succ])
    refine take_on (i := 3) (v := ?_) (some 27) rfl (by kernel_rfl) (by kernel_rfl) (by kernel_rfl) rfl (fun _ _ _ h => h) (by rfl) ?_ (by assumption) ?_
    rotate_left
    · intro w hSw; (try dsimp only at hSw); go_simp; (try with_reducible rfl)
    (try simp only [Act.put, List.setIfInBounds_toArray, List.set_cons_zero, List.set_cons_succ])
    refine wpAnyH_ready (rs := [1, 5]) (by kernel_rfl) (by simp) ?_
    refine AllReadyH.cons rfl (fun K hK => ?_) (AllReadyH.cons rfl (fun K hK => ?_) AllReadyH.nil)
    · go_simp
      refine (tp _).mono ?_
      rintro e w_1 ⟨rfl, hb_1⟩
      have bs_1 := bs_0.trans (hb_1.mono bs_0.size)
      (try go_wp2_with (fail))
      refine hK.out _ _ ?_ (fun hHeld => ?_)
      · exact ⟨rowCells (keepHeap bs_1 hA8), rowCells (keepHeap bs_1 hX8)⟩
      clear hK K
      (try simp only [Act.put, List.setIfInBounds_toArray, List.set_cons_zero, List.set_cons_succ])
      refine wpAnyH_ready (rs := [4, 5]) (by kernel_rfl) (by simp) ?_
      refine AllReadyH.cons rfl (fun K hK => ?_) (AllReadyH.cons rfl (fun K hK => ?_) AllReadyH.nil)
      · go_simp
        refine (himpl (rd8.keep bs_1)).mono ?_
        rintro e w_2 ⟨rfl, hb_2⟩
        have bs_2 := bs_1.trans (hb_2.mono bs_1.size)
        (try go_wp2_with (fail))
        refine hK.out _ _ ?_ (fun hHeld => ?_)
        · exact ⟨rowCells (keepHeap bs_2 hA8), rowCells (keepHeap bs_2 hX8)⟩
        clear hK K
        (try simp only [Act.put, List.setIfInBounds_toArray, List.set_cons_zero, List.set_cons_succ])
        refine wpAnyH_ready (rs := [5]) (by kernel_rfl) (by simp) ?_
        refine AllReadyH.cons rfl (fun K hK => ?_) AllReadyH.nil
        go_simp
        obtain ⟨w_3, hw_3, P_3, hb_3⟩ : ∃ W, w_2.alloc (.cells #[.int .i64 0, .int .i64 0, .int .i64 0, .int .i64 0, .int .i64 0] 31) = W ∧ W.heap[w_2.heap.size]? = some (.cells #[.int .i64 0, .int .i64 0, .int .i64 0, .int .i64 0, .int .i64 0] 31 (0, 0)) ∧ Below w_2.heap.size w_2 W := ⟨_, rfl, heap_alloc_new w_2 _, below1 w_2 _⟩
        try rw [hw_3]
        clear hw_3
        have hp_3 := bs_2.size
        have bs_3 := bs_2.trans (hb_3.mono bs_2.size)
        refine hK.out _ _ ?_ (fun hHeld => ?_)
        · exact ⟨rowCells (keepHeap bs_3 hA8), rowCells (keepHeap bs_3 hX8)⟩
        clear hK K
        (try simp only [Act.put, List.setIfInBounds_toArray, List.set_cons_zero, List.set_cons_succ])
        refine wpAnyH_ready (rs := [6]) (by kernel_rfl) (by simp) ?_
        refine AllReadyH.cons rfl (fun K hK => ?_) AllReadyH.nil
        have cn := rowCells P_3
        have fn := fun j => frozenHeap P_3 j
        go_simp
        have P_4 := boxPc_heap P_3 rfl c
        have bs_4 := boxPc_below bs_3 (c := w_2.heap.size) (by have := hp_3; first | omega | (simp at this ⊢; omega)) c
        obtain ⟨w_4, hw_4⟩ : ∃ W, boxPc w_3 (w_2.heap.size) c = W := ⟨_, rfl⟩
        rw [hw_4] at P_4 bs_4
        unfold boxPc at hw_4
        try rw [hw_4]
        clear hw_4 cn fn
        refine hK.out _ _ ?_ (fun hHeld => ?_)
        · exact ⟨rowCells (keepHeap bs_4 hA8), rowCells (keepHeap bs_4 hX8)⟩
        clear hK K
        (try simp only [Act.put, List.setIfInBounds_toArray, List.set_cons_zero, List.set_cons_succ])
        refine wpAnyH_done (by kernel_rfl) ?_ _
        go_wp2_with (fail)
        go_meet
        case rel => exact ⟨_, rfl, P_4, bs_4⟩
      · go_simp
        obtain ⟨w_2, hw_2, P_2, hb_2⟩ : ∃ W, w_1.alloc (.cells #[.int .i64 0, .int .i64 0, .int .i64 0, .int .i64 0, .int .i64 0] 31) = W ∧ W.heap[w_1.heap.size]? = some (.cells #[.int .i64 0, .int .i64 0, .int .i64 0, .int .i64 0, .int .i64 0] 31 (0, 0)) ∧ Below w_1.heap.size w_1 W := ⟨_, rfl, heap_alloc_new w_1 _, below1 w_1 _⟩
        try rw [hw_2]
        clear hw_2
        have hp_2 := bs_1.size
        have bs_2 := bs_1.trans (hb_2.mono bs_1.size)
        refine hK.out _ _ ?_ (fun hHeld => ?_)
        · exact ⟨rowCells (keepHeap bs_2 hA8), rowCells (keepHeap bs_2 hX8)⟩
        clear hK K
        (try simp only [Act.put, List.setIfInBounds_toArray, List.set_cons_zero, List.set_cons_succ])
        refine wpAnyH_ready (rs := [4]) (by kernel_rfl) (by simp) ?_
        refine AllReadyH.cons rfl (fun K hK => ?_) AllReadyH.nil
        go_simp
        refine (himpl (rd8.keep bs_2)).mono ?_
        rintro e w_3 ⟨rfl, hb_3⟩
        have bs_3 := bs_2.trans (hb_3.mono bs_2.size)
        have P_3 := keepHeap hb_3 P_2
        (try go_wp2_with (fail))
        refine hK.out _ _ ?_ (fun hHeld => ?_)
        · exact ⟨rowCells (keepHeap bs_3 hA8), rowCells (keepHeap bs_3 hX8)⟩
        clear hK K
        (try simp only [Act.put, List.setIfInBounds_toArray, List.set_cons_zero, List.set_cons_succ])
        refine wpAnyH_ready (rs := [6]) (by kernel_rfl) (by simp) ?_
        refine AllReadyH.cons rfl (fun K hK => ?_) AllReadyH.nil
        have cn := rowCells P_3
        have fn := fun j => frozenHeap P_3 j
        go_simp
        have P_4 := boxPc_heap P_3 rfl c
        have bs_4 := boxPc_below bs_3 (c := w_1.heap.size) (by have := hp_2; first | omega | (simp at this ⊢; omega)) c
        obtain ⟨w_4, hw_4⟩ : ∃ W, boxPc w_3 (w_1.heap.size) c = W := ⟨_, rfl⟩
        rw [hw_4] at P_4 bs_4
        unfold boxPc at hw_4
        try rw [hw_4]
        clear hw_4 cn fn
        refine hK.out _ _ ?_ (fun hHeld => ?_)
        · exact ⟨rowCells (keepHeap bs_4 hA8), rowCells (keepHeap bs_4 hX8)⟩
        clear hK K
        (try simp only [Act.put, List.setIfInBounds_toArray, List.set_cons_zero, List.set_cons_succ])
        refine wpAnyH_done (by kernel_rfl) ?_ _
        go_wp2_with (fail)
        go_meet
        case rel => exact ⟨_, rfl, P_4, bs_4⟩
    · go_simp
      obtain ⟨w_1, hw_1, P_1, hb_1⟩ : ∃ W, (W8.alloc (.cells #[.int .i64 0, .int .i64 0, .int .i64 0, .int .i64 0, .int .i64 0] 31)).drew = W ∧ W.heap[W8.heap.size]? = some (.cells #[.int .i64 0, .int .i64 0, .int .i64 0, .int .i64 0, .int .i64 0] 31 (0, 0)) ∧ Below W8.drew.heap.size W8.drew W := ⟨_, rfl, heap_alloc_new W8.drew _, below1 W8.drew _⟩
      try rw [hw_1]
      clear hw_1
      have hp_1 := bs_0.size
      have bs_1 := bs_0.trans (hb_1.mono bs_0.size)
      refine hK.out _ _ ?_ (fun hHeld => ?_)
      · exact ⟨rowCells (keepHeap bs_1 hA8), rowCells (keepHeap bs_1 hX8)⟩
      clear hK K
      (try simp only [Act.put, List.setIfInBounds_toArray, List.set_cons_zero, List.set_cons_succ])
      refine wpAnyH_ready (rs := [1]) (by kernel_rfl) (by simp) ?_
      refine AllReadyH.cons rfl (fun K hK => ?_) AllReadyH.nil
      go_simp
      refine (tp _).mono ?_
      rintro e w_2 ⟨rfl, hb_2⟩
      have bs_2 := bs_1.trans (hb_2.mono bs_1.size)
      have P_2 := keepHeap hb_2 P_1
      (try go_wp2_with (fail))
      refine hK.out _ _ ?_ (fun hHeld => ?_)
      · exact ⟨rowCells (keepHeap bs_2 hA8), rowCells (keepHeap bs_2 hX8)⟩
      clear hK K
      (try simp only [Act.put, List.setIfInBounds_toArray, List.set_cons_zero, List.set_cons_succ])
      refine wpAnyH_ready (rs := [4]) (by kernel_rfl) (by simp) ?_
      refine AllReadyH.cons rfl (fun K hK => ?_) AllReadyH.nil
      go_simp
      refine (himpl (rd8.keep bs_2)).mono ?_
      rintro e w_3 ⟨rfl, hb_3⟩
      have bs_3 := bs_2.trans (hb_3.mono bs_2.size)
      have P_3 := keepHeap hb_3 P_2
      (try go_wp2_with (fail))
      refine hK.out _ _ ?_ (fun hHeld => ?_)
      · exact ⟨rowCells (keepHeap bs_3 hA8), rowCells (keepHeap bs_3 hX8)⟩
      clear hK K
      (try simp only [Act.put, List.setIfInBounds_toArray, List.set_cons_zero, List.set_cons_succ])
      refine wpAnyH_ready (rs := [6]) (by kernel_rfl) (by simp) ?_
      refine AllReadyH.cons rfl (fun K hK => ?_) AllReadyH.nil
      have cn := rowCells P_3
      have fn := fun j => frozenHeap P_3 j
      go_simp
      have P_4 := boxPc_heap P_3 rfl c
      have bs_4 := boxPc_below bs_3 (c := W8.heap.size) (by have := hp_1; first | omega | (simp at this ⊢; omega)) c
      obtain ⟨w_4, hw_4⟩ : ∃ W, boxPc w_3 (W8.heap.size) c = W := ⟨_, rfl⟩
      rw [hw_4] at P_4 bs_4
      unfold boxPc at hw_4
      try rw [hw_4]
      clear hw_4 cn fn
      refine hK.out _ _ ?_ (fun hHeld => ?_)
      · exact ⟨rowCells (keepHeap bs_4 hA8), rowCells (keepHeap bs_4 hX8)⟩
      clear hK K
      (try simp only [Act.put, List.setIfInBounds_toArray, List.set_cons_zero, List.set_cons_succ])
      refine wpAnyH_done (by kernel_rfl) ?_ _
      go_wp2_with (fail)
      go_meet
      case rel => exact ⟨_, rfl, P_4, bs_4⟩
  obtain ⟨g2, rfl, hG, hb9⟩ := hcut
  have hB11 := keepHeap hb9 hB8
  have hX11 := keepHeap hb9 hX8
  have hb111 := hb18.trans (hb9.mono hs8)
  have rd11 := rd8.keep hb9
  have cP11 := rowCells (keepHeap hb9 hP8)
  have cG11 := rowCells hG
  clear hA8 hB8 hX8 rd8 hb18 hb9
  go_wp2_with (fail)
  refine (ep _).mono ?_
  rintro e w12 ⟨rfl, hb12⟩
  have hb112 := hb111.trans (hb12.mono hb111.size)
  have hB12 := keepHeap hb12 hB11
  have hX12 := keepHeap hb12 hX11
  have rd12 := rd11.keep hb12
  clear hB11 hX11 hG cP11 cG11 rd11 hb111
  have cB12 := rowCells hB12
  have cX12 := rowCells hX12
  have r12 := h.keep hb112
  have hs12 := hb112.size
  have hx12 : w7.heap.size < w12.heap.size := (Array.getElem?_eq_some_iff.1 hX12).1
  go_wp2_with (fail)
  go_region_held3 (fun w' => (∀ j, w'.cell? ⟨w.heap.size + 1, j, none⟩ = #[Value.int .i64 p.fr, .int .i64 p.tick, .int .i64 p.first, (.slice ai p.ins.length ci), (.slice aa p.acks.length ca), .int .i64 p.sumTick, .int .i64 p.sum, .int .i64 p.time, .int .i64 p.echo][j]?) ∧ (∀ j, w'.cell? ⟨w7.heap.size, j, none⟩ = #[Value.int .i64 p.fr, .int .i64 p.tick, .int .i64 p.first, (.slice ai7 p.ins.length ci7), (.slice aa7 p.acks.length ca7), .int .i64 p.sumTick, .int .i64 p.sum, .int .i64 p.time, .int .i64 p.echo][j]?)) (first | go_keep | (exact ⟨cB13, cX13⟩) | exact ⟨cB14, cX14⟩)
    (first
    | (go_at_call 28; refine (toPacket_any (RdP.keep r12 (belowDrew _ 1)) hn).mono ?_; rintro e w13 ⟨vi13, va13, rfl, oi13, -, oa13, -, hb13⟩; have hB13 := keepHeap hb13 hB12; have hX13 := keepHeap hb13 hX12; have cB13 := rowCells hB13; have cX13 := rowCells hX13; have rd13 : RdP w13 p vi13 va13 := ⟨oi13.rd, oa13.rd⟩; obtain ⟨ai13, ci13, rfl, -⟩ := id rd13.1; obtain ⟨aa13, ca13, rfl, -⟩ := id rd13.2; have rdx13 := (RdP.keep rd12 (belowDrew _ 1)).keep hb13; have hb113 := (hb112.trans ((belowDrew w12 1).mono hs12)).trans (hb13.mono (by simp; omega)); unfold pkC)
    | (go_at_call 31; refine (eqPacket_same rdx13 rd13 hn).mono ?_; rintro e w14 ⟨rfl, hb14⟩; have hB14 := keepHeap hb14 hB13; have hX14 := keepHeap hb14 hX13; have cB14 := rowCells hB14; have cX14 := rowCells hX14; have hb114 := hb113.trans (hb14.mono hb113.size)))
  go_wp2_with (fail)
  go_ret
  exact ⟨rfl, hb114⟩
end Go.Proofs.Yteafgghpkohfpaa
