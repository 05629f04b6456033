/-
  The law on NewWire. No condition.
-/
import Derived.Test.YteafgghpkohfpaaNwr
namespace Go.Proofs.Yteafgghpkohfpaa
open Go.RowKit
set_option linter.all false
set_option maxRecDepth 100000 in
set_option maxHeartbeats 4000000 in
theorem lawNewWire (s : Int) (w0 : (Lit.int .i64 s).wf = true) (d : Int) (w1 : (Lit.int .i64 d).wf = true) (j : Int) (w2 : (Lit.int .i64 j).wf = true) (a : Int) (w3 : (Lit.int .i64 a).wf = true) (b : Int) (w4 : (Lit.int .i64 b).wf = true) (c : Int) (w5 : (Lit.int .i64 c).wf = true) (w : World) :
    Calls Try.prog 9 #[.int .i64 s, .int .i64 d, .int .i64 j, .int .i64 a, .int .i64 b, .int .i64 c] w fun e w' => e = .returned (.bool true) ∧ Below w.heap.size w w' := by
  clear w0 w1 w2 w3 w4 w5
  have hspec := fun W => newWire_spec s d j a b c W
  have himpl := fun W => newWire_impl s d j a b c W
  unfold RetNw at hspec himpl
  have hfl := nwR_fls s d j a b c
  generalize nwR s d j a b c = r at *
  generalize nwB s d j a b c = t at *
  have hfw : r.few := ⟨by rw [hfl]; simp, by rw [hfl]; simp⟩
  have hnl : ∀ W : World, RdFl W (.slice none 0 0) r.fls := fun W => by rw [hfl]; exact RdFl.nil W
  have heq := fun W => eqWire_same (hnl W) (hnl W) hfw
  have hmk : ∀ W : World, Calls Try.prog 35 #[.agg (wiC r (.slice none 0 0)), .int .i64 1] W fun e w' => e = .returned (.int .i64 1) ∧ Below W.heap.size W w' := fun W => (markWire_far (lo := W.heap.size) (hi := W.heap.size) (x := r) ⟨none, 0, by rw [hfl]; rfl, .inl hfl⟩ (Nat.le_refl _) (by rw [hfl]; simp) 1 (by omega) (by omega)).mono fun e w' h => ⟨by rw [h.1, hfl]; rfl, h.2.2.1⟩
  have hhd : ∀ W : World, Calls Try.prog 36 #[.agg (wiC r (.slice none 0 0)), .int .i64 1] W fun e w' => e = .returned (.int .i64 1) ∧ Below W.heap.size W w' := fun W => (heldWire_any r 1 (by unfold Wi.marked; rw [hfl]; exact RdFl.nil W) (by rw [hfl]; simp) (by omega) (by omega)).mono fun e w' h => ⟨by rw [h.1, hfl]; rfl, h.2⟩
  unfold wiC at hspec himpl heq hmk hhd
  clear hfl hfw hnl
  have q0_0 : Below w.heap.size w w := Below.refl _ _
  cases t
  all_goals
    go_enter Try.func9, Try.ntmps9
    go_wp2_with (fail)
    refine (hspec _).mono ?_
    rintro e w_1 ⟨rfl, hb_1⟩
    have q0_1 := q0_0.trans (hb_1.mono q0_0.size)
    have sz_1 := hb_1.size
    clear q0_0
    clear hb_1
    obtain ⟨w_2, hw_2, P_2, hb_2⟩ : ∃ W, w_1.alloc (.cells #[Value.int .i64 r.seed, .int .i64 r.delay, .int .i64 r.jitter, .int .i64 r.loss, .int .i64 r.copies, .int .i64 r.damage, .int .i64 r.now, .slice none 0 0, .int .i64 r.sent, .int .i64 r.lost] 50) = W ∧ W.heap[w_1.heap.size]? = some (.cells #[Value.int .i64 r.seed, .int .i64 r.delay, .int .i64 r.jitter, .int .i64 r.loss, .int .i64 r.copies, .int .i64 r.damage, .int .i64 r.now, .slice none 0 0, .int .i64 r.sent, .int .i64 r.lost] 50 (0, 0)) ∧ Below w_1.heap.size w_1 W := ⟨_, rfl, heap_alloc_new _ _, below1 _ _⟩
    have q0_2 := q0_1.trans (hb_2.mono q0_1.size)
    have sz_2 := hb_2.size
    clear q0_1
    clear hb_2
    have cP_2 := rowCells P_2
    go_wp2_with (fail)
    try rw [hw_2]
    clear hw_2
    refine (himpl _).mono ?_
    rintro e w_3 ⟨rfl, hb_3⟩
    have q0_3 := q0_2.trans (hb_3.mono q0_2.size)
    have P_3 := keepHeap hb_3 P_2
    have sz_3 := hb_3.size
    clear q0_2 P_2 cP_2
    clear hb_3
    obtain ⟨w_4, hw_4, G_4, hb_4⟩ : ∃ W, w_3.alloc (.cells #[Value.int .i64 r.seed, .int .i64 r.delay, .int .i64 r.jitter, .int .i64 r.loss, .int .i64 r.copies, .int .i64 r.damage, .int .i64 r.now, .slice none 0 0, .int .i64 r.sent, .int .i64 r.lost] 50) = W ∧ W.heap[w_3.heap.size]? = some (.cells #[Value.int .i64 r.seed, .int .i64 r.delay, .int .i64 r.jitter, .int .i64 r.loss, .int .i64 r.copies, .int .i64 r.damage, .int .i64 r.now, .slice none 0 0, .int .i64 r.sent, .int .i64 r.lost] 50 (0, 0)) ∧ Below w_3.heap.size w_3 W := ⟨_, rfl, heap_alloc_new _ _, below1 _ _⟩
    have q0_4 := q0_3.trans (hb_4.mono q0_3.size)
    have P_4 := keepHeap hb_4 P_3
    have sz_4 := hb_4.size
    clear q0_3 P_3
    clear hb_4
    have cP_4 := rowCells P_4
    have cG_4 := rowCells G_4
    go_wp2_with (fail)
    try rw [hw_4]
    clear hw_4
    refine (heq _).mono ?_
    rintro e w_5 ⟨rfl, hb_5⟩
    have q0_5 := q0_4.trans (hb_5.mono q0_4.size)
    have P_5 := keepHeap hb_5 P_4
    have G_5 := keepHeap hb_5 G_4
    have sz_5 := hb_5.size
    clear q0_4 P_4 G_4 cP_4 cG_4
    clear hb_5
    have cG_5 := rowCells G_5
    go_wp2_with (fail)
    refine (hmk _).mono ?_
    rintro e w_6 ⟨rfl, hb_6⟩
    have q0_6 := q0_5.trans (hb_6.mono q0_5.size)
    have P_6 := keepHeap hb_6 P_5
    have G_6 := keepHeap hb_6 G_5
    have sz_6 := hb_6.size
    clear q0_5 P_5 G_5 cG_5
    clear hb_6
    have cG_6 := rowCells G_6
    go_wp2_with (fail)
    refine (hhd _).mono ?_
    rintro e w_7 ⟨rfl, hb_7⟩
    have q0_7 := q0_6.trans (hb_7.mono q0_6.size)
    have P_7 := keepHeap hb_7 P_6
    have G_7 := keepHeap hb_7 G_6
    have sz_7 := hb_7.size
    clear q0_6 P_6 G_6 cG_6
    clear hb_7
    go_wp2_with (fail)
    refine (himpl _).mono ?_
    rintro e w_8 ⟨rfl, hb_8⟩
    have q0_8 := q0_7.trans (hb_8.mono q0_7.size)
    have P_8 := keepHeap hb_8 P_7
    have G_8 := keepHeap hb_8 G_7
    have sz_8 := hb_8.size
    clear q0_7 P_7 G_7
    clear hb_8
    obtain ⟨w_9, hw_9, H_9, hb_9⟩ : ∃ W, w_8.alloc (.cells #[Value.int .i64 r.seed, .int .i64 r.delay, .int .i64 r.jitter, .int .i64 r.loss, .int .i64 r.copies, .int .i64 r.damage, .int .i64 r.now, .slice none 0 0, .int .i64 r.sent, .int .i64 r.lost] 50) = W ∧ W.heap[w_8.heap.size]? = some (.cells #[Value.int .i64 r.seed, .int .i64 r.delay, .int .i64 r.jitter, .int .i64 r.loss, .int .i64 r.copies, .int .i64 r.damage, .int .i64 r.now, .slice none 0 0, .int .i64 r.sent, .int .i64 r.lost] 50 (0, 0)) ∧ Below w_8.heap.size w_8 W := ⟨_, rfl, heap_alloc_new _ _, below1 _ _⟩
    have q0_9 := q0_8.trans (hb_9.mono q0_8.size)
    have P_9 := keepHeap hb_9 P_8
    have G_9 := keepHeap hb_9 G_8
    have sz_9 := hb_9.size
    clear q0_8 P_8 G_8
    clear hb_9
    have cP_9 := rowCells P_9
    have cH_9 := rowCells H_9
    go_wp2_with (fail)
    try rw [hw_9]
    clear hw_9
    refine (heq _).mono ?_
    rintro e w_10 ⟨rfl, hb_10⟩
    have q0_10 := q0_9.trans (hb_10.mono q0_9.size)
    have P_10 := keepHeap hb_10 P_9
    have G_10 := keepHeap hb_10 G_9
    have H_10 := keepHeap hb_10 H_9
    have sz_10 := hb_10.size
    clear q0_9 P_9 G_9 H_9 cP_9 cH_9
    clear hb_10
    have cG_10 := rowCells G_10
    go_wp2_with (fail)
    refine (hhd _).mono ?_
    rintro e w_11 ⟨rfl, hb_11⟩
    have q0_11 := q0_10.trans (hb_11.mono q0_10.size)
    have P_11 := keepHeap hb_11 P_10
    have G_11 := keepHeap hb_11 G_10
    have H_11 := keepHeap hb_11 H_10
    have sz_11 := hb_11.size
    clear q0_10 P_10 G_10 H_10 cG_10
    clear hb_11
    go_wp2_with (fail)
    go_ret
    exact ⟨rfl, q0_11⟩
end Go.Proofs.Yteafgghpkohfpaa
