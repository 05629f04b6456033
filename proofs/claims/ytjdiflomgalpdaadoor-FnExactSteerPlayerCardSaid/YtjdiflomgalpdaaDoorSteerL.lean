/-
  The law on SteerPlayer. No condition.
-/
import Derived.Test.YtjdiflomgalpdaaDoorSteerP
import Derived.Test.YtjdiflomgalpdaaDoorLvLaw
import Derived.Test.YtjdiflomgalpdaaDoorReg
import Derived.Test.YtjdiflomgalpdaaDoorOpenB
import Derived.Deep.Cut
namespace Go.Proofs.YtjdiflomgalpdaaDoor
open Go.RowKit
set_option linter.all false
theorem eqBodyS (b : Bd) (w : World) : Calls Tryd.prog 22 #[bdV b, bdV b] w fun e w' => e = .returned (.bool true) ∧ Below w.heap.size w w' := by
  unfold bdV
  go_enter Tryd.func22, Tryd.ntmps22
  go_wp2_with (fail)
  go_ret
  exact ⟨rfl, below2 _ _ _⟩
set_option maxRecDepth 100000 in
set_option maxHeartbeats 8000000 in
theorem lawSteerPlayer (v : Value) (ls : Rowz) {w : World} (h : RdS w v ls) (hs : Sane ls) (b : Bd) (fb : b.fits) (i : Int) (wi : (Lit.int .i64 i).wf = true) :
    Calls Tryd.prog 6 #[.agg #[v], bdV b, .int .i64 i] w fun e w' => e = .returned (.bool true) ∧ Below w.heap.size w w' := by
  obtain ⟨a, cap, rfl, -⟩ := id h
  obtain ⟨W1, hW, hA1, hB1, hb1, -⟩ := rows2 w #[.slice a ls.length cap] #[.int .i64 b.kind, .int .i64 b.owner, .int .i64 b.x, .int .i64 b.y, .int .i64 b.vx, .int .i64 b.vy, .int .i64 b.aim, .int .i64 b.life, .int .i64 b.timer] 36 38
  have hx : I64 b.x := I64.of fb.2.2.1
  have hy : I64 b.y := I64.of fb.2.2.2.1
  have cA1 := rowCells hA1
  have cB1 := rowCells hB1
  have r1 := h.keep hb1
  have tb := fun W => toBody_any b W
  have hspec := fun {w' : World} {v : Value} (h' : RdS w' v ls) => steerPlayer_spec h' hs b hx hy i
  have himpl := fun {w' : World} {v : Value} (h' : RdS w' v ls) => steerPlayer_impl h' hs b hx hy i
  obtain ⟨c, hc⟩ : ∃ c, c = stB ls b i := ⟨_, rfl⟩
  obtain ⟨t, ht⟩ : ∃ t, t = stT ls b i := ⟨_, rfl⟩
  rw [← hc, ← ht] at hspec himpl
  have es := fun W => eqBodyS c W
  clear hc ht
  unfold bdV at tb hspec himpl es ⊢
  go_enter Tryd.func6, Tryd.ntmps6
  go_wp2_with (fail)
  clear hW
  refine (szLevel_any r1 hs 1048576 (by omega) (by omega)).mono ?_
  rintro e w2 ⟨r, rfl, hr, hb2⟩
  have hb12 := hb1.trans (hb2.mono hb1.size)
  have hA2 := keepHeap hb2 hA1
  have hB2 := keepHeap hb2 hB1
  have cA2 := rowCells hA2
  have cB2 := rowCells hB2
  have r2 := h.keep hb12
  clear r1 cA1 hA1 cB1 hB1 hb1 hb2
  rcases hr with rfl | ⟨hr0, hr1⟩
  · go_wp2_with (fail)
    go_ret
    exact ⟨rfl, hb12⟩
  have zr : decide (r < 0) = false := by simpa using hr0
  obtain ⟨hn, -⟩ := Sane.small hr0 hr1
  clear hr1
  have hs2 := hb12.size
  go_upto_region 5 with (fail)
  go_cut [8, 9] from 10 (fun q s wr => ∃ p : Nat, q = .pointer (some ⟨p, 0, none⟩) ∧ s = .bool t ∧ wr.heap[p]? = some (.cells #[.int .i64 c.kind, .int .i64 c.owner, .int .i64 c.x, .int .i64 c.y, .int .i64 c.vx, .int .i64 c.vy, .int .i64 c.aim, .int .i64 c.life, .int .i64 c.timer] 43 (0, 0)) ∧ Below w2.heap.size w2 wr)
  case first =>
    have bs_0 : Below w2.heap.size w2 w2.drew := belowDrew w2 1
    refine wp_region_held_drew (S := (fun w' => (∀ j, w'.cell? ⟨w.heap.size, j, none⟩ = #[Value.slice a ls.length cap][j]?) ∧ (∀ j, w'.cell? ⟨w.heap.size + 1, j, none⟩ = #[.int .i64 b.kind, .int .i64 b.owner, .int .i64 b.x, .int .i64 b.y, .int .i64 b.vx, .int .i64 b.vy, .int .i64 b.aim, .int .i64 b.life, .int .i64 b.timer][j]?))) (by kernel_rfl) ?_ (fun hHeld => ?_)
    · exact ⟨rowCells (keepHeap bs_0 hA2), rowCells (keepHeap bs_0 hB2)⟩
    refine take_on (i := 0) (v := ?_) (some 19) rfl (by kernel_rfl) (by kernel_rfl) (by kernel_rfl) rfl (fun _ _ _ h => h) (by rfl) ?_ (by assumption) ?_
    rotate_left
    · intro w hSw; (try dsimp only at hSw); go_simp; (try with_reducible rfl)
    (try simp only [Act.put, List.setIfInBounds_toArray, List.set_cons_zero, List.set_cons_succ])
    refine take_on (i := 2) (v := ?_) (some 21) rfl (by kernel_rfl) (by kernel_rfl) (by kernel_rfl) rfl (fun _ _ _ h => h) (by rfl) ?_ (by assumption) ?_
    rotate_left
    · intro w hSw; (try dsimp only at hSw); go_simp; (try with_reducible rfl)
    (try simp only [Act.put, List.setIfInBounds_toArray, List.set_cons_zero, List.set_cons_succ])
    refine take_on (i := 4) (v := ?_) (some 23) rfl (by kernel_rfl) (by kernel_rfl) (by kernel_rfl) rfl (fun _ _ _ h => h) (by rfl) ?_ (by assumption) ?_
    rotate_left
    · intro w hSw; (try dsimp only at hSw); go_simp; (try with_reducible rfl)
    (try simp only [Act.put, List.setIfInBounds_toArray, List.set_cons_zero, List.set_cons_succ])
    refine wpAnyH_ready (rs := [1, 9]) (by kernel_rfl) (by simp) ?_
    refine AllReadyH.cons rfl (fun K hK => ?_) (AllReadyH.cons rfl (fun K hK => ?_) AllReadyH.nil)
    · go_simp
      refine (toLevel_any (r2.keep bs_0) (by omega)).mono ?_
      rintro e w_1 ⟨v3_1, rfl, wr_1, hb_1⟩
      have bs_1 := bs_0.trans (hb_1.mono bs_0.size)
      have rd_1 := wr_1.rd
      obtain ⟨a3_1, c3_1, rfl, -⟩ := id rd_1
      (try go_wp2_with (fail))
      refine hK.out _ _ ?_ (fun hHeld => ?_)
      · exact ⟨rowCells (keepHeap bs_1 hA2), rowCells (keepHeap bs_1 hB2)⟩
      clear hK K
      (try simp only [Act.put, List.setIfInBounds_toArray, List.set_cons_zero, List.set_cons_succ])
      refine wpAnyH_ready (rs := [3, 9]) (by kernel_rfl) (by simp) ?_
      refine AllReadyH.cons rfl (fun K hK => ?_) (AllReadyH.cons rfl (fun K hK => ?_) AllReadyH.nil)
      · go_simp
        refine (tb _).mono ?_
        rintro e w_2 ⟨rfl, hb_2⟩
        have bs_2 := bs_1.trans (hb_2.mono bs_1.size)
        have rd_2 := rd_1.keep hb_2
        (try go_wp2_with (fail))
        refine hK.out _ _ ?_ (fun hHeld => ?_)
        · exact ⟨rowCells (keepHeap bs_2 hA2), rowCells (keepHeap bs_2 hB2)⟩
        clear hK K
        (try simp only [Act.put, List.setIfInBounds_toArray, List.set_cons_zero, List.set_cons_succ])
        refine wpAnyH_ready (rs := [5, 9]) (by kernel_rfl) (by simp) ?_
        refine AllReadyH.cons rfl (fun K hK => ?_) (AllReadyH.cons rfl (fun K hK => ?_) AllReadyH.nil)
        · go_simp
          refine (hspec rd_2).mono ?_
          rintro e w_3 ⟨rfl, hb_3⟩
          have bs_3 := bs_2.trans (hb_3.mono bs_2.size)
          have rd_3 := rd_2.keep hb_3
          (try go_wp2_with (fail))
          refine hK.out _ _ ?_ (fun hHeld => ?_)
          · exact ⟨rowCells (keepHeap bs_3 hA2), rowCells (keepHeap bs_3 hB2)⟩
          clear hK K
          (try simp only [Act.put, List.setIfInBounds_toArray, List.set_cons_zero, List.set_cons_succ])
          refine take_on (i := 6) (v := ?_) (some 18) rfl (by kernel_rfl) (by kernel_rfl) (by kernel_rfl) rfl (fun _ _ _ h => h) (by rfl) ?_ (by assumption) ?_
          rotate_left
          · intro w hSw; (try dsimp only at hSw); go_simp; (try with_reducible rfl)
          (try simp only [Act.put, List.setIfInBounds_toArray, List.set_cons_zero, List.set_cons_succ])
          refine take_on (i := 7) (v := ?_) (some 25) rfl (by kernel_rfl) (by kernel_rfl) (by kernel_rfl) rfl (fun _ _ _ h => h) (by rfl) ?_ (by assumption) ?_
          rotate_left
          · intro w hSw; (try dsimp only at hSw); go_simp; (try with_reducible rfl)
          (try simp only [Act.put, List.setIfInBounds_toArray, List.set_cons_zero, List.set_cons_succ])
          refine take_on (i := 8) (v := ?_) (some 26) rfl (by kernel_rfl) (by kernel_rfl) (by kernel_rfl) rfl (fun _ _ _ h => h) (by rfl) ?_ (by assumption) ?_
          rotate_left
          · intro w hSw; (try dsimp only at hSw); go_simp; (try with_reducible rfl)
          (try simp only [Act.put, List.setIfInBounds_toArray, List.set_cons_zero, List.set_cons_succ])
          refine wpAnyH_ready (rs := [9]) (by kernel_rfl) (by simp) ?_
          refine AllReadyH.cons rfl (fun K hK => ?_) AllReadyH.nil
          go_simp
          obtain ⟨w_4, hw_4, P_4, hb_4⟩ : ∃ W, w_3.alloc (.cells #[.int .i64 0, .int .i64 0, .int .i64 0, .int .i64 0, .int .i64 0, .int .i64 0, .int .i64 0, .int .i64 0, .int .i64 0] 43) = W ∧ W.heap[w_3.heap.size]? = some (.cells #[.int .i64 0, .int .i64 0, .int .i64 0, .int .i64 0, .int .i64 0, .int .i64 0, .int .i64 0, .int .i64 0, .int .i64 0] 43 (0, 0)) ∧ Below w_3.heap.size w_3 W := ⟨_, rfl, heap_alloc_new w_3 _, below1 w_3 _⟩
          try rw [hw_4]
          clear hw_4
          have hp_4 := bs_3.size
          have bs_4 := bs_3.trans (hb_4.mono bs_3.size)
          have rd_4 := rd_3.keep hb_4
          refine hK.out _ _ ?_ (fun hHeld => ?_)
          · exact ⟨rowCells (keepHeap bs_4 hA2), rowCells (keepHeap bs_4 hB2)⟩
          clear hK K
          (try simp only [Act.put, List.setIfInBounds_toArray, List.set_cons_zero, List.set_cons_succ])
          refine wpAnyH_ready (rs := [10]) (by kernel_rfl) (by simp) ?_
          refine AllReadyH.cons rfl (fun K hK => ?_) AllReadyH.nil
          have cn := rowCells P_4
          have fn := fun j => frozenHeap P_4 j
          go_simp
          have P_5 := putB_heap P_4 rfl c c.x c.y c.vx c.vy
          have bs_5 := putB_below bs_4 (c := w_3.heap.size) (by have := hp_4; first | omega | (simp at this ⊢; omega)) c c.x c.y c.vx c.vy
          obtain ⟨w_5, hw_5⟩ : ∃ W, putB w_4 (w_3.heap.size) c c.x c.y c.vx c.vy = W := ⟨_, rfl⟩
          rw [hw_5] at P_5 bs_5
          unfold putB at hw_5
          try rw [hw_5]
          clear hw_5 cn fn
          refine hK.out _ _ ?_ (fun hHeld => ?_)
          · exact ⟨rowCells (keepHeap bs_5 hA2), rowCells (keepHeap bs_5 hB2)⟩
          clear hK K
          (try simp only [Act.put, List.setIfInBounds_toArray, List.set_cons_zero, List.set_cons_succ])
          refine take_on (i := 11) (v := ?_) (some 9) rfl (by kernel_rfl) (by kernel_rfl) (by kernel_rfl) rfl (fun _ _ _ h => h) (by rfl) ?_ (by assumption) ?_
          rotate_left
          · intro w hSw; (try dsimp only at hSw); go_simp; (try with_reducible rfl)
          (try simp only [Act.put, List.setIfInBounds_toArray, List.set_cons_zero, List.set_cons_succ])
          refine wpAnyH_done (by kernel_rfl) ?_ _
          go_wp2_with (fail)
          go_meet
          case rel => exact ⟨_, rfl, rfl, P_5, bs_5⟩
        · go_simp
          obtain ⟨w_3, hw_3, P_3, hb_3⟩ : ∃ W, w_2.alloc (.cells #[.int .i64 0, .int .i64 0, .int .i64 0, .int .i64 0, .int .i64 0, .int .i64 0, .int .i64 0, .int .i64 0, .int .i64 0] 43) = W ∧ W.heap[w_2.heap.size]? = some (.cells #[.int .i64 0, .int .i64 0, .int .i64 0, .int .i64 0, .int .i64 0, .int .i64 0, .int .i64 0, .int .i64 0, .int .i64 0] 43 (0, 0)) ∧ Below w_2.heap.size w_2 W := ⟨_, rfl, heap_alloc_new w_2 _, below1 w_2 _⟩
          try rw [hw_3]
          clear hw_3
          have hp_3 := bs_2.size
          have bs_3 := bs_2.trans (hb_3.mono bs_2.size)
          have rd_3 := rd_2.keep hb_3
          refine hK.out _ _ ?_ (fun hHeld => ?_)
          · exact ⟨rowCells (keepHeap bs_3 hA2), rowCells (keepHeap bs_3 hB2)⟩
          clear hK K
          (try simp only [Act.put, List.setIfInBounds_toArray, List.set_cons_zero, List.set_cons_succ])
          refine wpAnyH_ready (rs := [5]) (by kernel_rfl) (by simp) ?_
          refine AllReadyH.cons rfl (fun K hK => ?_) AllReadyH.nil
          go_simp
          refine (hspec rd_3).mono ?_
          rintro e w_4 ⟨rfl, hb_4⟩
          have bs_4 := bs_3.trans (hb_4.mono bs_3.size)
          have rd_4 := rd_3.keep hb_4
          have P_4 := keepHeap hb_4 P_3
          (try go_wp2_with (fail))
          refine hK.out _ _ ?_ (fun hHeld => ?_)
          · exact ⟨rowCells (keepHeap bs_4 hA2), rowCells (keepHeap bs_4 hB2)⟩
          clear hK K
          (try simp only [Act.put, List.setIfInBounds_toArray, List.set_cons_zero, List.set_cons_succ])
          refine take_on (i := 6) (v := ?_) (some 18) rfl (by kernel_rfl) (by kernel_rfl) (by kernel_rfl) rfl (fun _ _ _ h => h) (by rfl) ?_ (by assumption) ?_
          rotate_left
          · intro w hSw; (try dsimp only at hSw); go_simp; (try with_reducible rfl)
          (try simp only [Act.put, List.setIfInBounds_toArray, List.set_cons_zero, List.set_cons_succ])
          refine take_on (i := 7) (v := ?_) (some 25) rfl (by kernel_rfl) (by kernel_rfl) (by kernel_rfl) rfl (fun _ _ _ h => h) (by rfl) ?_ (by assumption) ?_
          rotate_left
          · intro w hSw; (try dsimp only at hSw); go_simp; (try with_reducible rfl)
          (try simp only [Act.put, List.setIfInBounds_toArray, List.set_cons_zero, List.set_cons_succ])
          refine take_on (i := 8) (v := ?_) (some 26) rfl (by kernel_rfl) (by kernel_rfl) (by kernel_rfl) rfl (fun _ _ _ h => h) (by rfl) ?_ (by assumption) ?_
          rotate_left
          · intro w hSw; (try dsimp only at hSw); go_simp; (try with_reducible rfl)
          (try simp only [Act.put, List.setIfInBounds_toArray, List.set_cons_zero, List.set_cons_succ])
          refine wpAnyH_ready (rs := [10]) (by kernel_rfl) (by simp) ?_
          refine AllReadyH.cons rfl (fun K hK => ?_) AllReadyH.nil
          have cn := rowCells P_4
          have fn := fun j => frozenHeap P_4 j
          go_simp
          have P_5 := putB_heap P_4 rfl c c.x c.y c.vx c.vy
          have bs_5 := putB_below bs_4 (c := w_2.heap.size) (by have := hp_3; first | omega | (simp at this ⊢; omega)) c c.x c.y c.vx c.vy
          obtain ⟨w_5, hw_5⟩ : ∃ W, putB w_4 (w_2.heap.size) c c.x c.y c.vx c.vy = W := ⟨_, rfl⟩
          rw [hw_5] at P_5 bs_5
          unfold putB at hw_5
          try rw [hw_5]
          clear hw_5 cn fn
          refine hK.out _ _ ?_ (fun hHeld => ?_)
          · exact ⟨rowCells (keepHeap bs_5 hA2), rowCells (keepHeap bs_5 hB2)⟩
          clear hK K
          (try simp only [Act.put, List.setIfInBounds_toArray, List.set_cons_zero, List.set_cons_succ])
          refine take_on (i := 11) (v := ?_) (some 9) rfl (by kernel_rfl) (by kernel_rfl) (by kernel_rfl) rfl (fun _ _ _ h => h) (by rfl) ?_ (by assumption) ?_
          rotate_left
          · intro w hSw; (try dsimp only at hSw); go_simp; (try with_reducible rfl)
          (try simp only [Act.put, List.setIfInBounds_toArray, List.set_cons_zero, List.set_cons_succ])
          refine wpAnyH_done (by kernel_rfl) ?_ _
          go_wp2_with (fail)
          go_meet
          case rel => exact ⟨_, rfl, rfl, P_5, bs_5⟩
      · go_simp
        obtain ⟨w_2, hw_2, P_2, hb_2⟩ : ∃ W, w_1.alloc (.cells #[.int .i64 0, .int .i64 0, .int .i64 0, .int .i64 0, .int .i64 0, .int .i64 0, .int .i64 0, .int .i64 0, .int .i64 0] 43) = W ∧ W.heap[w_1.heap.size]? = some (.cells #[.int .i64 0, .int .i64 0, .int .i64 0, .int .i64 0, .int .i64 0, .int .i64 0, .int .i64 0, .int .i64 0, .int .i64 0] 43 (0, 0)) ∧ Below w_1.heap.size w_1 W := ⟨_, rfl, heap_alloc_new w_1 _, below1 w_1 _⟩
        try rw [hw_2]
        clear hw_2
        have hp_2 := bs_1.size
        have bs_2 := bs_1.trans (hb_2.mono bs_1.size)
        have rd_2 := rd_1.keep hb_2
        refine hK.out _ _ ?_ (fun hHeld => ?_)
        · exact ⟨rowCells (keepHeap bs_2 hA2), rowCells (keepHeap bs_2 hB2)⟩
        clear hK K
        (try simp only [Act.put, List.setIfInBounds_toArray, List.set_cons_zero, List.set_cons_succ])
        refine wpAnyH_ready (rs := [3]) (by kernel_rfl) (by simp) ?_
        refine AllReadyH.cons rfl (fun K hK => ?_) AllReadyH.nil
        go_simp
        refine (tb _).mono ?_
        rintro e w_3 ⟨rfl, hb_3⟩
        have bs_3 := bs_2.trans (hb_3.mono bs_2.size)
        have rd_3 := rd_2.keep hb_3
        have P_3 := keepHeap hb_3 P_2
        (try go_wp2_with (fail))
        refine hK.out _ _ ?_ (fun hHeld => ?_)
        · exact ⟨rowCells (keepHeap bs_3 hA2), rowCells (keepHeap bs_3 hB2)⟩
        clear hK K
        (try simp only [Act.put, List.setIfInBounds_toArray, List.set_cons_zero, List.set_cons_succ])
        refine wpAnyH_ready (rs := [5]) (by kernel_rfl) (by simp) ?_
        refine AllReadyH.cons rfl (fun K hK => ?_) AllReadyH.nil
        go_simp
        refine (hspec rd_3).mono ?_
        rintro e w_4 ⟨rfl, hb_4⟩
        have bs_4 := bs_3.trans (hb_4.mono bs_3.size)
        have rd_4 := rd_3.keep hb_4
        have P_4 := keepHeap hb_4 P_3
        (try go_wp2_with (fail))
        refine hK.out _ _ ?_ (fun hHeld => ?_)
        · exact ⟨rowCells (keepHeap bs_4 hA2), rowCells (keepHeap bs_4 hB2)⟩
        clear hK K
        (try simp only [Act.put, List.setIfInBounds_toArray, List.set_cons_zero, List.set_cons_succ])
        refine take_on (i := 6) (v := ?_) (some 18) rfl (by kernel_rfl) (by kernel_rfl) (by kernel_rfl) rfl (fun _ _ _ h => h) (by rfl) ?_ (by assumption) ?_
        rotate_left
        · intro w hSw; (try dsimp only at hSw); go_simp; (try with_reducible rfl)
        (try simp only [Act.put, List.setIfInBounds_toArray, List.set_cons_zero, List.set_cons_succ])
        refine take_on (i := 7) (v := ?_) (some 25) rfl (by kernel_rfl) (by kernel_rfl) (by kernel_rfl) rfl (fun _ _ _ h => h) (by rfl) ?_ (by assumption) ?_
        rotate_left
        · intro w hSw; (try dsimp only at hSw); go_simp; (try with_reducible rfl)
        (try simp only [Act.put, List.setIfInBounds_toArray, List.set_cons_zero, List.set_cons_succ])
        refine take_on (i := 8) (v := ?_) (some 26) rfl (by kernel_rfl) (by kernel_rfl) (by kernel_rfl) rfl (fun _ _ _ h => h) (by rfl) ?_ (by assumption) ?_
        rotate_left
        · intro w hSw; (try dsimp only at hSw); go_simp; (try with_reducible rfl)
        (try simp only [Act.put, List.setIfInBounds_toArray, List.set_cons_zero, List.set_cons_succ])
        refine wpAnyH_ready (rs := [10]) (by kernel_rfl) (by simp) ?_
        refine AllReadyH.cons rfl (fun K hK => ?_) AllReadyH.nil
        have cn := rowCells P_4
        have fn := fun j => frozenHeap P_4 j
        go_simp
        have P_5 := putB_heap P_4 rfl c c.x c.y c.vx c.vy
        have bs_5 := putB_below bs_4 (c := w_1.heap.size) (by have := hp_2; first | omega | (simp at this ⊢; omega)) c c.x c.y c.vx c.vy
        obtain ⟨w_5, hw_5⟩ : ∃ W, putB w_4 (w_1.heap.size) c c.x c.y c.vx c.vy = W := ⟨_, rfl⟩
        rw [hw_5] at P_5 bs_5
        unfold putB at hw_5
        try rw [hw_5]
        clear hw_5 cn fn
        refine hK.out _ _ ?_ (fun hHeld => ?_)
        · exact ⟨rowCells (keepHeap bs_5 hA2), rowCells (keepHeap bs_5 hB2)⟩
        clear hK K
        (try simp only [Act.put, List.setIfInBounds_toArray, List.set_cons_zero, List.set_cons_succ])
        refine take_on (i := 11) (v := ?_) (some 9) rfl (by kernel_rfl) (by kernel_rfl) (by kernel_rfl) rfl (fun _ _ _ h => h) (by rfl) ?_ (by assumption) ?_
        rotate_left
        · intro w hSw; (try dsimp only at hSw); go_simp; (try with_reducible rfl)
        (try simp only [Act.put, List.setIfInBounds_toArray, List.set_cons_zero, List.set_cons_succ])
        refine wpAnyH_done (by kernel_rfl) ?_ _
        go_wp2_with (fail)
        go_meet
        case rel => exact ⟨_, rfl, rfl, P_5, bs_5⟩
    · go_simp
      obtain ⟨w_1, hw_1, P_1, hb_1⟩ : ∃ W, (w2.alloc (.cells #[.int .i64 0, .int .i64 0, .int .i64 0, .int .i64 0, .int .i64 0, .int .i64 0, .int .i64 0, .int .i64 0, .int .i64 0] 43)).drew = W ∧ W.heap[w2.heap.size]? = some (.cells #[.int .i64 0, .int .i64 0, .int .i64 0, .int .i64 0, .int .i64 0, .int .i64 0, .int .i64 0, .int .i64 0, .int .i64 0] 43 (0, 0)) ∧ Below w2.drew.heap.size w2.drew W := ⟨_, rfl, heap_alloc_new w2.drew _, below1 w2.drew _⟩
      try rw [hw_1]
      clear hw_1
      have hp_1 := bs_0.size
      have bs_1 := bs_0.trans (hb_1.mono bs_0.size)
      refine hK.out _ _ ?_ (fun hHeld => ?_)
      · exact ⟨rowCells (keepHeap bs_1 hA2), rowCells (keepHeap bs_1 hB2)⟩
      clear hK K
      (try simp only [Act.put, List.setIfInBounds_toArray, List.set_cons_zero, List.set_cons_succ])
      refine wpAnyH_ready (rs := [1]) (by kernel_rfl) (by simp) ?_
      refine AllReadyH.cons rfl (fun K hK => ?_) AllReadyH.nil
      go_simp
      refine (toLevel_any (r2.keep bs_1) (by omega)).mono ?_
      rintro e w_2 ⟨v3_2, rfl, wr_2, hb_2⟩
      have bs_2 := bs_1.trans (hb_2.mono bs_1.size)
      have P_2 := keepHeap hb_2 P_1
      have rd_2 := wr_2.rd
      obtain ⟨a3_2, c3_2, rfl, -⟩ := id rd_2
      (try go_wp2_with (fail))
      refine hK.out _ _ ?_ (fun hHeld => ?_)
      · exact ⟨rowCells (keepHeap bs_2 hA2), rowCells (keepHeap bs_2 hB2)⟩
      clear hK K
      (try simp only [Act.put, List.setIfInBounds_toArray, List.set_cons_zero, List.set_cons_succ])
      refine wpAnyH_ready (rs := [3]) (by kernel_rfl) (by simp) ?_
      refine AllReadyH.cons rfl (fun K hK => ?_) AllReadyH.nil
      go_simp
      refine (tb _).mono ?_
      rintro e w_3 ⟨rfl, hb_3⟩
      have bs_3 := bs_2.trans (hb_3.mono bs_2.size)
      have P_3 := keepHeap hb_3 P_2
      have rd_3 := rd_2.keep hb_3
      (try go_wp2_with (fail))
      refine hK.out _ _ ?_ (fun hHeld => ?_)
      · exact ⟨rowCells (keepHeap bs_3 hA2), rowCells (keepHeap bs_3 hB2)⟩
      clear hK K
      (try simp only [Act.put, List.setIfInBounds_toArray, List.set_cons_zero, List.set_cons_succ])
      refine wpAnyH_ready (rs := [5]) (by kernel_rfl) (by simp) ?_
      refine AllReadyH.cons rfl (fun K hK => ?_) AllReadyH.nil
      go_simp
      refine (hspec rd_3).mono ?_
      rintro e w_4 ⟨rfl, hb_4⟩
      have bs_4 := bs_3.trans (hb_4.mono bs_3.size)
      have P_4 := keepHeap hb_4 P_3
      have rd_4 := rd_3.keep hb_4
      (try go_wp2_with (fail))
      refine hK.out _ _ ?_ (fun hHeld => ?_)
      · exact ⟨rowCells (keepHeap bs_4 hA2), rowCells (keepHeap bs_4 hB2)⟩
      clear hK K
      (try simp only [Act.put, List.setIfInBounds_toArray, List.set_cons_zero, List.set_cons_succ])
      refine take_on (i := 6) (v := ?_) (some 18) rfl (by kernel_rfl) (by kernel_rfl) (by kernel_rfl) rfl (fun _ _ _ h => h) (by rfl) ?_ (by assumption) ?_
      rotate_left
      · intro w hSw; (try dsimp only at hSw); go_simp; (try with_reducible rfl)
      (try simp only [Act.put, List.setIfInBounds_toArray, List.set_cons_zero, List.set_cons_succ])
      refine take_on (i := 7) (v := ?_) (some 25) rfl (by kernel_rfl) (by kernel_rfl) (by kernel_rfl) rfl (fun _ _ _ h => h) (by rfl) ?_ (by assumption) ?_
      rotate_left
      · intro w hSw; (try dsimp only at hSw); go_simp; (try with_reducible rfl)
      (try simp only [Act.put, List.setIfInBounds_toArray, List.set_cons_zero, List.set_cons_succ])
      refine take_on (i := 8) (v := ?_) (some 26) rfl (by kernel_rfl) (by kernel_rfl) (by kernel_rfl) rfl (fun _ _ _ h => h) (by rfl) ?_ (by assumption) ?_
      rotate_left
      · intro w hSw; (try dsimp only at hSw); go_simp; (try with_reducible rfl)
      (try simp only [Act.put, List.setIfInBounds_toArray, List.set_cons_zero, List.set_cons_succ])
      refine wpAnyH_ready (rs := [10]) (by kernel_rfl) (by simp) ?_
      refine AllReadyH.cons rfl (fun K hK => ?_) AllReadyH.nil
      have cn := rowCells P_4
      have fn := fun j => frozenHeap P_4 j
      go_simp
      have P_5 := putB_heap P_4 rfl c c.x c.y c.vx c.vy
      have bs_5 := putB_below bs_4 (c := w2.heap.size) (by have := hp_1; first | omega | (simp at this ⊢; omega)) c c.x c.y c.vx c.vy
      obtain ⟨w_5, hw_5⟩ : ∃ W, putB w_4 (w2.heap.size) c c.x c.y c.vx c.vy = W := ⟨_, rfl⟩
      rw [hw_5] at P_5 bs_5
      unfold putB at hw_5
      try rw [hw_5]
      clear hw_5 cn fn
      refine hK.out _ _ ?_ (fun hHeld => ?_)
      · exact ⟨rowCells (keepHeap bs_5 hA2), rowCells (keepHeap bs_5 hB2)⟩
      clear hK K
      (try simp only [Act.put, List.setIfInBounds_toArray, List.set_cons_zero, List.set_cons_succ])
      refine take_on (i := 11) (v := ?_) (some 9) rfl (by kernel_rfl) (by kernel_rfl) (by kernel_rfl) rfl (fun _ _ _ h => h) (by rfl) ?_ (by assumption) ?_
      rotate_left
      · intro w hSw; (try dsimp only at hSw); go_simp; (try with_reducible rfl)
      (try simp only [Act.put, List.setIfInBounds_toArray, List.set_cons_zero, List.set_cons_succ])
      refine wpAnyH_done (by kernel_rfl) ?_ _
      go_wp2_with (fail)
      go_meet
      case rel => exact ⟨_, rfl, rfl, P_5, bs_5⟩
  obtain ⟨p, rfl, rfl, hP, hb5⟩ := hcut
  have hA6 := keepHeap hb5 hA2
  have hB6 := keepHeap hb5 hB2
  have hb16 := hb12.trans (hb5.mono hs2)
  have cA6 := rowCells hA6
  have r6 := h.keep hb16
  clear hA2 hB2 cA2 cB2 hb12 r2 hb5
  go_wp2_with (fail)
  refine (toLevel_any r6 (by omega)).mono ?_
  rintro e w7 ⟨v7, rfl, wr7, hb7⟩
  have hb17 := hb16.trans (hb7.mono hb16.size)
  have hA7 := keepHeap hb7 hA6
  have hB7 := keepHeap hb7 hB6
  have hP7 := keepHeap hb7 hP
  have rd7 := wr7.rd
  obtain ⟨a7, c7, rfl, -⟩ := id rd7
  obtain ⟨W8, hW8, hA8, hB8, hX8, hb8, hb18⟩ : ∃ W8, w7.alloc (.cells #[.slice a7 ls.length c7] 41) = W8 ∧ W8.heap[w.heap.size]? = some (.cells #[.slice a ls.length cap] 36 (0, 0)) ∧ W8.heap[w.heap.size + 1]? = some (.cells #[.int .i64 b.kind, .int .i64 b.owner, .int .i64 b.x, .int .i64 b.y, .int .i64 b.vx, .int .i64 b.vy, .int .i64 b.aim, .int .i64 b.life, .int .i64 b.timer] 38 (0, 0)) ∧ W8.heap[w7.heap.size]? = some (.cells #[.slice a7 ls.length c7] 41 (0, 0)) ∧ Below w7.heap.size w7 W8 ∧ Below w.heap.size w W8 := ⟨_, rfl, keepHeap (below1 _ _) hA7, keepHeap (below1 _ _) hB7, heap_alloc_new _ _, below1 _ _, hb17.trans ((below1 _ _).mono hb17.size)⟩
  have hP8 := keepHeap hb8 hP7
  have rd8 := rd7.keep hb8
  have hs8 := hb18.size
  clear hA6 hB6 cA6 r6 hA7 hB7 hb16 hb17 wr7 rd7
  go_upto_region 7 with (fail)
  try rw [hW8]
  clear hW8
  go_cut [11, 12] from 13 (fun q s wr => ∃ p : Nat, q = .pointer (some ⟨p, 0, none⟩) ∧ s = .bool t ∧ wr.heap[p]? = some (.cells #[.int .i64 c.kind, .int .i64 c.owner, .int .i64 c.x, .int .i64 c.y, .int .i64 c.vx, .int .i64 c.vy, .int .i64 c.aim, .int .i64 c.life, .int .i64 c.timer] 43 (0, 0)) ∧ Below W8.heap.size W8 wr)
  case first =>
    have bs_0 : Below W8.heap.size W8 W8.drew := belowDrew W8 1
    refine wp_region_held_drew (S := (fun w' => (∀ j, w'.cell? ⟨w.heap.size + 1, j, none⟩ = #[.int .i64 b.kind, .int .i64 b.owner, .int .i64 b.x, .int .i64 b.y, .int .i64 b.vx, .int .i64 b.vy, .int .i64 b.aim, .int .i64 b.life, .int .i64 b.timer][j]?) ∧ (∀ j, w'.cell? ⟨w7.heap.size, j, none⟩ = #[Value.slice a7 ls.length c7][j]?))) (by kernel_rfl) ?_ (fun hHeld => ?_)
    · exact ⟨rowCells (keepHeap bs_0 hB8), rowCells (keepHeap bs_0 hX8)⟩
    refine take_on (i := 0) (v := ?_) (some 30) rfl (by kernel_rfl) (by kernel_rfl) (by kernel_rfl) rfl (fun _ _ _ h => h) (by rfl) ?_ (by assumption) ?_
    rotate_left
    · intro w hSw; (try dsimp only at hSw); go_simp; (try with_reducible rfl)
    (try simp only [Act.put, List.setIfInBounds_toArray, List.set_cons_zero, List.set_cons_succ])
    refine take_on (i := 1) (v := ?_) (some 31) rfl (by kernel_rfl) (by kernel_rfl) (by kernel_rfl) rfl (fun _ _ _ h => h) (by rfl) ?_ (by assumption) ?_
    rotate_left
    · intro w hSw; (try dsimp only at hSw); go_simp; (try with_reducible rfl)
    (try simp only [Act.put, List.setIfInBounds_toArray, List.set_cons_zero, List.set_cons_succ])
    refine take_on (i := 3) (v := ?_) (some 33) rfl (by kernel_rfl) (by kernel_rfl) (by kernel_rfl) rfl (fun _ _ _ h => h) (by rfl) ?_ (by assumption) ?_
    rotate_left
    · intro w hSw; (try dsimp only at hSw); go_simp; (try with_reducible rfl)
    (try simp only [Act.put, List.setIfInBounds_toArray, List.set_cons_zero, List.set_cons_succ])
    refine wpAnyH_ready (rs := [2, 8]) (by kernel_rfl) (by simp) ?_
    refine AllReadyH.cons rfl (fun K hK => ?_) (AllReadyH.cons rfl (fun K hK => ?_) AllReadyH.nil)
    · go_simp
      refine (tb _).mono ?_
      rintro e w_1 ⟨rfl, hb_1⟩
      have bs_1 := bs_0.trans (hb_1.mono bs_0.size)
      (try go_wp2_with (fail))
      refine hK.out _ _ ?_ (fun hHeld => ?_)
      · exact ⟨rowCells (keepHeap bs_1 hB8), rowCells (keepHeap bs_1 hX8)⟩
      clear hK K
      (try simp only [Act.put, List.setIfInBounds_toArray, List.set_cons_zero, List.set_cons_succ])
      refine wpAnyH_ready (rs := [4, 8]) (by kernel_rfl) (by simp) ?_
      refine AllReadyH.cons rfl (fun K hK => ?_) (AllReadyH.cons rfl (fun K hK => ?_) AllReadyH.nil)
      · go_simp
        refine (himpl (rd8.keep bs_1)).mono ?_
        rintro e w_2 ⟨rfl, hb_2⟩
        have bs_2 := bs_1.trans (hb_2.mono bs_1.size)
        (try go_wp2_with (fail))
        refine hK.out _ _ ?_ (fun hHeld => ?_)
        · exact ⟨rowCells (keepHeap bs_2 hB8), rowCells (keepHeap bs_2 hX8)⟩
        clear hK K
        (try simp only [Act.put, List.setIfInBounds_toArray, List.set_cons_zero, List.set_cons_succ])
        refine take_on (i := 5) (v := ?_) (some 29) rfl (by kernel_rfl) (by kernel_rfl) (by kernel_rfl) rfl (fun _ _ _ h => h) (by rfl) ?_ (by assumption) ?_
        rotate_left
        · intro w hSw; (try dsimp only at hSw); go_simp; (try with_reducible rfl)
        (try simp only [Act.put, List.setIfInBounds_toArray, List.set_cons_zero, List.set_cons_succ])
        refine take_on (i := 6) (v := ?_) (some 35) rfl (by kernel_rfl) (by kernel_rfl) (by kernel_rfl) rfl (fun _ _ _ h => h) (by rfl) ?_ (by assumption) ?_
        rotate_left
        · intro w hSw; (try dsimp only at hSw); go_simp; (try with_reducible rfl)
        (try simp only [Act.put, List.setIfInBounds_toArray, List.set_cons_zero, List.set_cons_succ])
        refine take_on (i := 7) (v := ?_) (some 36) rfl (by kernel_rfl) (by kernel_rfl) (by kernel_rfl) rfl (fun _ _ _ h => h) (by rfl) ?_ (by assumption) ?_
        rotate_left
        · intro w hSw; (try dsimp only at hSw); go_simp; (try with_reducible rfl)
        (try simp only [Act.put, List.setIfInBounds_toArray, List.set_cons_zero, List.set_cons_succ])
        refine wpAnyH_ready (rs := [8]) (by kernel_rfl) (by simp) ?_
        refine AllReadyH.cons rfl (fun K hK => ?_) AllReadyH.nil
        go_simp
        obtain ⟨w_3, hw_3, P_3, hb_3⟩ : ∃ W, w_2.alloc (.cells #[.int .i64 0, .int .i64 0, .int .i64 0, .int .i64 0, .int .i64 0, .int .i64 0, .int .i64 0, .int .i64 0, .int .i64 0] 43) = W ∧ W.heap[w_2.heap.size]? = some (.cells #[.int .i64 0, .int .i64 0, .int .i64 0, .int .i64 0, .int .i64 0, .int .i64 0, .int .i64 0, .int .i64 0, .int .i64 0] 43 (0, 0)) ∧ Below w_2.heap.size w_2 W := ⟨_, rfl, heap_alloc_new w_2 _, below1 w_2 _⟩
        try rw [hw_3]
        clear hw_3
        have hp_3 := bs_2.size
        have bs_3 := bs_2.trans (hb_3.mono bs_2.size)
        refine hK.out _ _ ?_ (fun hHeld => ?_)
        · exact ⟨rowCells (keepHeap bs_3 hB8), rowCells (keepHeap bs_3 hX8)⟩
        clear hK K
        (try simp only [Act.put, List.setIfInBounds_toArray, List.set_cons_zero, List.set_cons_succ])
        refine wpAnyH_ready (rs := [9]) (by kernel_rfl) (by simp) ?_
        refine AllReadyH.cons rfl (fun K hK => ?_) AllReadyH.nil
        have cn := rowCells P_3
        have fn := fun j => frozenHeap P_3 j
        go_simp
        have P_4 := putB_heap P_3 rfl c c.x c.y c.vx c.vy
        have bs_4 := putB_below bs_3 (c := w_2.heap.size) (by have := hp_3; first | omega | (simp at this ⊢; omega)) c c.x c.y c.vx c.vy
        obtain ⟨w_4, hw_4⟩ : ∃ W, putB w_3 (w_2.heap.size) c c.x c.y c.vx c.vy = W := ⟨_, rfl⟩
        rw [hw_4] at P_4 bs_4
        unfold putB at hw_4
        try rw [hw_4]
        clear hw_4 cn fn
        refine hK.out _ _ ?_ (fun hHeld => ?_)
        · exact ⟨rowCells (keepHeap bs_4 hB8), rowCells (keepHeap bs_4 hX8)⟩
        clear hK K
        (try simp only [Act.put, List.setIfInBounds_toArray, List.set_cons_zero, List.set_cons_succ])
        refine take_on (i := 10) (v := ?_) (some 12) rfl (by kernel_rfl) (by kernel_rfl) (by kernel_rfl) rfl (fun _ _ _ h => h) (by rfl) ?_ (by assumption) ?_
        rotate_left
        · intro w hSw; (try dsimp only at hSw); go_simp; (try with_reducible rfl)
        (try simp only [Act.put, List.setIfInBounds_toArray, List.set_cons_zero, List.set_cons_succ])
        refine wpAnyH_done (by kernel_rfl) ?_ _
        go_wp2_with (fail)
        go_meet
        case rel => exact ⟨_, rfl, rfl, P_4, bs_4⟩
      · go_simp
        obtain ⟨w_2, hw_2, P_2, hb_2⟩ : ∃ W, w_1.alloc (.cells #[.int .i64 0, .int .i64 0, .int .i64 0, .int .i64 0, .int .i64 0, .int .i64 0, .int .i64 0, .int .i64 0, .int .i64 0] 43) = W ∧ W.heap[w_1.heap.size]? = some (.cells #[.int .i64 0, .int .i64 0, .int .i64 0, .int .i64 0, .int .i64 0, .int .i64 0, .int .i64 0, .int .i64 0, .int .i64 0] 43 (0, 0)) ∧ Below w_1.heap.size w_1 W := ⟨_, rfl, heap_alloc_new w_1 _, below1 w_1 _⟩
        try rw [hw_2]
        clear hw_2
        have hp_2 := bs_1.size
        have bs_2 := bs_1.trans (hb_2.mono bs_1.size)
        refine hK.out _ _ ?_ (fun hHeld => ?_)
        · exact ⟨rowCells (keepHeap bs_2 hB8), rowCells (keepHeap bs_2 hX8)⟩
        clear hK K
        (try simp only [Act.put, List.setIfInBounds_toArray, List.set_cons_zero, List.set_cons_succ])
        refine wpAnyH_ready (rs := [4]) (by kernel_rfl) (by simp) ?_
        refine AllReadyH.cons rfl (fun K hK => ?_) AllReadyH.nil
        go_simp
        refine (himpl (rd8.keep bs_2)).mono ?_
        rintro e w_3 ⟨rfl, hb_3⟩
        have bs_3 := bs_2.trans (hb_3.mono bs_2.size)
        have P_3 := keepHeap hb_3 P_2
        (try go_wp2_with (fail))
        refine hK.out _ _ ?_ (fun hHeld => ?_)
        · exact ⟨rowCells (keepHeap bs_3 hB8), rowCells (keepHeap bs_3 hX8)⟩
        clear hK K
        (try simp only [Act.put, List.setIfInBounds_toArray, List.set_cons_zero, List.set_cons_succ])
        refine take_on (i := 5) (v := ?_) (some 29) rfl (by kernel_rfl) (by kernel_rfl) (by kernel_rfl) rfl (fun _ _ _ h => h) (by rfl) ?_ (by assumption) ?_
        rotate_left
        · intro w hSw; (try dsimp only at hSw); go_simp; (try with_reducible rfl)
        (try simp only [Act.put, List.setIfInBounds_toArray, List.set_cons_zero, List.set_cons_succ])
        refine take_on (i := 6) (v := ?_) (some 35) rfl (by kernel_rfl) (by kernel_rfl) (by kernel_rfl) rfl (fun _ _ _ h => h) (by rfl) ?_ (by assumption) ?_
        rotate_left
        · intro w hSw; (try dsimp only at hSw); go_simp; (try with_reducible rfl)
        (try simp only [Act.put, List.setIfInBounds_toArray, List.set_cons_zero, List.set_cons_succ])
        refine take_on (i := 7) (v := ?_) (some 36) rfl (by kernel_rfl) (by kernel_rfl) (by kernel_rfl) rfl (fun _ _ _ h => h) (by rfl) ?_ (by assumption) ?_
        rotate_left
        · intro w hSw; (try dsimp only at hSw); go_simp; (try with_reducible rfl)
        (try simp only [Act.put, List.setIfInBounds_toArray, List.set_cons_zero, List.set_cons_succ])
        refine wpAnyH_ready (rs := [9]) (by kernel_rfl) (by simp) ?_
        refine AllReadyH.cons rfl (fun K hK => ?_) AllReadyH.nil
        have cn := rowCells P_3
        have fn := fun j => frozenHeap P_3 j
        go_simp
        have P_4 := putB_heap P_3 rfl c c.x c.y c.vx c.vy
        have bs_4 := putB_below bs_3 (c := w_1.heap.size) (by have := hp_2; first | omega | (simp at this ⊢; omega)) c c.x c.y c.vx c.vy
        obtain ⟨w_4, hw_4⟩ : ∃ W, putB w_3 (w_1.heap.size) c c.x c.y c.vx c.vy = W := ⟨_, rfl⟩
        rw [hw_4] at P_4 bs_4
        unfold putB at hw_4
        try rw [hw_4]
        clear hw_4 cn fn
        refine hK.out _ _ ?_ (fun hHeld => ?_)
        · exact ⟨rowCells (keepHeap bs_4 hB8), rowCells (keepHeap bs_4 hX8)⟩
        clear hK K
        (try simp only [Act.put, List.setIfInBounds_toArray, List.set_cons_zero, List.set_cons_succ])
        refine take_on (i := 10) (v := ?_) (some 12) rfl (by kernel_rfl) (by kernel_rfl) (by kernel_rfl) rfl (fun _ _ _ h => h) (by rfl) ?_ (by assumption) ?_
        rotate_left
        · intro w hSw; (try dsimp only at hSw); go_simp; (try with_reducible rfl)
        (try simp only [Act.put, List.setIfInBounds_toArray, List.set_cons_zero, List.set_cons_succ])
        refine wpAnyH_done (by kernel_rfl) ?_ _
        go_wp2_with (fail)
        go_meet
        case rel => exact ⟨_, rfl, rfl, P_4, bs_4⟩
    · go_simp
      obtain ⟨w_1, hw_1, P_1, hb_1⟩ : ∃ W, (W8.alloc (.cells #[.int .i64 0, .int .i64 0, .int .i64 0, .int .i64 0, .int .i64 0, .int .i64 0, .int .i64 0, .int .i64 0, .int .i64 0] 43)).drew = W ∧ W.heap[W8.heap.size]? = some (.cells #[.int .i64 0, .int .i64 0, .int .i64 0, .int .i64 0, .int .i64 0, .int .i64 0, .int .i64 0, .int .i64 0, .int .i64 0] 43 (0, 0)) ∧ Below W8.drew.heap.size W8.drew W := ⟨_, rfl, heap_alloc_new W8.drew _, below1 W8.drew _⟩
      try rw [hw_1]
      clear hw_1
      have hp_1 := bs_0.size
      have bs_1 := bs_0.trans (hb_1.mono bs_0.size)
      refine hK.out _ _ ?_ (fun hHeld => ?_)
      · exact ⟨rowCells (keepHeap bs_1 hB8), rowCells (keepHeap bs_1 hX8)⟩
      clear hK K
      (try simp only [Act.put, List.setIfInBounds_toArray, List.set_cons_zero, List.set_cons_succ])
      refine wpAnyH_ready (rs := [2]) (by kernel_rfl) (by simp) ?_
      refine AllReadyH.cons rfl (fun K hK => ?_) AllReadyH.nil
      go_simp
      refine (tb _).mono ?_
      rintro e w_2 ⟨rfl, hb_2⟩
      have bs_2 := bs_1.trans (hb_2.mono bs_1.size)
      have P_2 := keepHeap hb_2 P_1
      (try go_wp2_with (fail))
      refine hK.out _ _ ?_ (fun hHeld => ?_)
      · exact ⟨rowCells (keepHeap bs_2 hB8), rowCells (keepHeap bs_2 hX8)⟩
      clear hK K
      (try simp only [Act.put, List.setIfInBounds_toArray, List.set_cons_zero, List.set_cons_succ])
      refine wpAnyH_ready (rs := [4]) (by kernel_rfl) (by simp) ?_
      refine AllReadyH.cons rfl (fun K hK => ?_) AllReadyH.nil
      go_simp
      refine (himpl (rd8.keep bs_2)).mono ?_
      rintro e w_3 ⟨rfl, hb_3⟩
      have bs_3 := bs_2.trans (hb_3.mono bs_2.size)
      have P_3 := keepHeap hb_3 P_2
      (try go_wp2_with (fail))
      refine hK.out _ _ ?_ (fun hHeld => ?_)
      · exact ⟨rowCells (keepHeap bs_3 hB8), rowCells (keepHeap bs_3 hX8)⟩
      clear hK K
      (try simp only [Act.put, List.setIfInBounds_toArray, List.set_cons_zero, List.set_cons_succ])
      refine take_on (i := 5) (v := ?_) (some 29) rfl (by kernel_rfl) (by kernel_rfl) (by kernel_rfl) rfl (fun _ _ _ h => h) (by rfl) ?_ (by assumption) ?_
      rotate_left
      · intro w hSw; (try dsimp only at hSw); go_simp; (try with_reducible rfl)
      (try simp only [Act.put, List.setIfInBounds_toArray, List.set_cons_zero, List.set_cons_succ])
      refine take_on (i := 6) (v := ?_) (some 35) rfl (by kernel_rfl) (by kernel_rfl) (by kernel_rfl) rfl (fun _ _ _ h => h) (by rfl) ?_ (by assumption) ?_
      rotate_left
      · intro w hSw; (try dsimp only at hSw); go_simp; (try with_reducible rfl)
      (try simp only [Act.put, List.setIfInBounds_toArray, List.set_cons_zero, List.set_cons_succ])
      refine take_on (i := 7) (v := ?_) (some 36) rfl (by kernel_rfl) (by kernel_rfl) (by kernel_rfl) rfl (fun _ _ _ h => h) (by rfl) ?_ (by assumption) ?_
      rotate_left
      · intro w hSw; (try dsimp only at hSw); go_simp; (try with_reducible rfl)
      (try simp only [Act.put, List.setIfInBounds_toArray, List.set_cons_zero, List.set_cons_succ])
      refine wpAnyH_ready (rs := [9]) (by kernel_rfl) (by simp) ?_
      refine AllReadyH.cons rfl (fun K hK => ?_) AllReadyH.nil
      have cn := rowCells P_3
      have fn := fun j => frozenHeap P_3 j
      go_simp
      have P_4 := putB_heap P_3 rfl c c.x c.y c.vx c.vy
      have bs_4 := putB_below bs_3 (c := W8.heap.size) (by have := hp_1; first | omega | (simp at this ⊢; omega)) c c.x c.y c.vx c.vy
      obtain ⟨w_4, hw_4⟩ : ∃ W, putB w_3 (W8.heap.size) c c.x c.y c.vx c.vy = W := ⟨_, rfl⟩
      rw [hw_4] at P_4 bs_4
      unfold putB at hw_4
      try rw [hw_4]
      clear hw_4 cn fn
      refine hK.out _ _ ?_ (fun hHeld => ?_)
      · exact ⟨rowCells (keepHeap bs_4 hB8), rowCells (keepHeap bs_4 hX8)⟩
      clear hK K
      (try simp only [Act.put, List.setIfInBounds_toArray, List.set_cons_zero, List.set_cons_succ])
      refine take_on (i := 10) (v := ?_) (some 12) rfl (by kernel_rfl) (by kernel_rfl) (by kernel_rfl) rfl (fun _ _ _ h => h) (by rfl) ?_ (by assumption) ?_
      rotate_left
      · intro w hSw; (try dsimp only at hSw); go_simp; (try with_reducible rfl)
      (try simp only [Act.put, List.setIfInBounds_toArray, List.set_cons_zero, List.set_cons_succ])
      refine wpAnyH_done (by kernel_rfl) ?_ _
      go_wp2_with (fail)
      go_meet
      case rel => exact ⟨_, rfl, rfl, P_4, bs_4⟩
  obtain ⟨g, rfl, rfl, hG, hb9⟩ := hcut
  have hA11 := keepHeap hb9 hA8
  have hX11 := keepHeap hb9 hX8
  have hb111 := hb18.trans (hb9.mono hs8)
  have rd11 := rd8.keep hb9
  have cP11 := rowCells (keepHeap hb9 hP8)
  have cG11 := rowCells hG
  clear hA8 hB8 hX8 rd8 hb18 hb9
  go_wp2_with (fail)
  refine (es _).mono ?_
  rintro e w12 ⟨rfl, hb12⟩
  have hb112 := hb111.trans (hb12.mono hb111.size)
  have hA12 := keepHeap hb12 hA11
  have hX12 := keepHeap hb12 hX11
  have rd12 := rd11.keep hb12
  clear hA11 hX11 hG cP11 cG11 rd11 hb111
  have cA12 := rowCells hA12
  have cX12 := rowCells hX12
  have r12 := h.keep hb112
  have hs12 := hb112.size
  have hx12 : w7.heap.size < w12.heap.size := (Array.getElem?_eq_some_iff.1 hX12).1
  go_wp2_with (fail)
  go_region_held3 (fun w' => (∀ j, w'.cell? ⟨w.heap.size, j, none⟩ = #[Value.slice a ls.length cap][j]?) ∧ (∀ j, w'.cell? ⟨w7.heap.size, j, none⟩ = #[Value.slice a7 ls.length c7][j]?)) (first | go_keep | (exact ⟨cA13, cX13⟩) | exact ⟨cA14, cX14⟩)
    (first
    | (go_at_call 16; refine (toLevel_any (RdS.keep r12 (belowDrew _ 1)) (by omega)).mono ?_; rintro e w13 ⟨v13, rfl, wr13, hb13⟩; have hA13 := keepHeap hb13 hA12; have hX13 := keepHeap hb13 hX12; have cA13 := rowCells hA13; have cX13 := rowCells hX13; have rd13 := wr13.rd; obtain ⟨a13, c13, rfl, -⟩ := id rd13; have rdx13 := (RdS.keep rd12 (belowDrew _ 1)).keep hb13; have hb113 := (hb112.trans ((belowDrew w12 1).mono hs12)).trans (hb13.mono (by simp; omega)))
    | (go_at_call 19; refine (eqLevel_same rdx13 rd13 (by omega)).mono ?_; rintro e w14 ⟨rfl, hb14⟩; have hA14 := keepHeap hb14 hA13; have hX14 := keepHeap hb14 hX13; have cA14 := rowCells hA14; have cX14 := rowCells hX14; have hb114 := hb113.trans (hb14.mono hb113.size)))
  go_wp2_with (fail)
  go_ret
  exact ⟨rfl, hb114⟩
end Go.Proofs.YtjdiflomgalpdaaDoor
