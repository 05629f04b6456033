/-
  MoveBody of the model. Condition: the body's numbers have 64 bits.
-/
import Derived.Test.YtjdiflomgalpdaaDoorMoveS
import Derived.Test.YtjdiflomgalpdaaDoorReg
namespace Go.Proofs.YtjdiflomgalpdaaDoor
open Go.RowKit
set_option linter.all false
theorem spdB_x {b : Bd} (h : inR b.vx (-15) 15 = false) : spdB b = false := by unfold spdB; rw [h]; rfl
theorem spdB_y {b : Bd} (h : inR b.vy (-15) 15 = false) : spdB b = false := by unfold spdB; rw [h]; simp
theorem spdB_ok {b : Bd} (h : inR b.vx (-15) 15 = true) (h2 : inR b.vy (-15) 15 = true) : spdB b = true := by unfold spdB; rw [h, h2]; rfl
set_option maxRecDepth 100000 in
set_option maxHeartbeats 4000000 in
theorem moveBody_spec {w : World} {v : Value} {L : Rowz} (h : RdS w v L) (hs : Sane L) (b : Bd) (hx : I64 b.x) (hy : I64 b.y) :
    Calls Tryd.prog 20 #[.agg #[v], .agg #[.int .i64 b.kind, .int .i64 b.owner, .int .i64 b.x, .int .i64 b.y, .int .i64 b.vx, .int .i64 b.vy, .int .i64 b.aim, .int .i64 b.life, .int .i64 b.timer]] w fun e w' => e = .returned (.tuple #[bdV (mbB L b), .bool (mbT L b)]) ∧ Below w.heap.size w w' := by
  obtain ⟨a, cap, rfl, -⟩ := id h
  obtain ⟨W0, hW, hA, hB, hC, hB0, hS0⟩ := rows3 w #[.slice a L.length cap] #[.int .i64 b.kind, .int .i64 b.owner, .int .i64 b.x, .int .i64 b.y, .int .i64 b.vx, .int .i64 b.vy, .int .i64 b.aim, .int .i64 b.life, .int .i64 b.timer] bd0 41 43 43
  have cA := rowCells hA
  have cB := rowCells hB
  have hSol := solidAt_spec ((h.keep hB0).keep (belowDrew _ 1)) hs b.x b.y (sizeI b.kind) hx hy
  unfold bd0 at hW
  cases ht : solidB L b.x b.y (sizeI b.kind) with
  | true =>
    rw [ht] at hSol
    obtain ⟨e1, e2⟩ := mb_stay (L := L) (b := b) (.inl ht)
    clear ht
    have HB := Lib.hid e1
    have HT := Lib.hid e2
    clear e1 e2
    go_enter Tryd.func20, Tryd.ntmps20
    go_wp2_with (fail)
    try rw [hW]
    clear hW
    have cA1 := rowCells (keepHeap (belowDrew W0 1) hA)
    have cB1 := rowCells (keepHeap (belowDrew W0 1) hB)
    refine wp_region_held_drew (S := (fun w' => (∀ j, w'.cell? ⟨w.heap.size, j, none⟩ = #[Value.slice a L.length cap][j]?) ∧ (∀ j, w'.cell? ⟨w.heap.size + 1, j, none⟩ = #[.int .i64 b.kind, .int .i64 b.owner, .int .i64 b.x, .int .i64 b.y, .int .i64 b.vx, .int .i64 b.vy, .int .i64 b.aim, .int .i64 b.life, .int .i64 b.timer][j]?))) (by kernel_rfl) ?_ (fun hHeld => ?_)
    · (try dsimp only); (first | (exact ⟨cA1, cB1⟩) | (exact ⟨cA2, cB2⟩) | go_keep)
    refine take_on (i := 0) (v := ?_) (some 8) rfl (by kernel_rfl) (by kernel_rfl) (by kernel_rfl) rfl (fun _ _ _ h => h) (by rfl) ?_ (by assumption) ?_
    rotate_left
    · intro w hSw; (try dsimp only at hSw); go_simp; (try with_reducible rfl)
    (try simp only [Act.put, List.setIfInBounds_toArray, List.set_cons_zero, List.set_cons_succ])
    refine take_on (i := 1) (v := ?_) (some 9) rfl (by kernel_rfl) (by kernel_rfl) (by kernel_rfl) rfl (fun _ _ _ h => h) (by rfl) ?_ (by assumption) ?_
    rotate_left
    · intro w hSw; (try dsimp only at hSw); go_simp; (try with_reducible rfl)
    (try simp only [Act.put, List.setIfInBounds_toArray, List.set_cons_zero, List.set_cons_succ])
    refine take_on (i := 2) (v := ?_) (some 10) rfl (by kernel_rfl) (by kernel_rfl) (by kernel_rfl) rfl (fun _ _ _ h => h) (by rfl) ?_ (by assumption) ?_
    rotate_left
    · intro w hSw; (try dsimp only at hSw); go_simp; (try with_reducible rfl)
    (try simp only [Act.put, List.setIfInBounds_toArray, List.set_cons_zero, List.set_cons_succ])
    refine take_on (i := 3) (v := ?_) (some 11) rfl (by kernel_rfl) (by kernel_rfl) (by kernel_rfl) rfl (fun _ _ _ h => h) (by rfl) ?_ (by assumption) ?_
    rotate_left
    · intro w hSw; (try dsimp only at hSw); go_simp; (try with_reducible rfl)
    (try simp only [Act.put, List.setIfInBounds_toArray, List.set_cons_zero, List.set_cons_succ])
    refine take_on (i := 4) (v := ?_) (some 12) rfl (by kernel_rfl) (by kernel_rfl) (by kernel_rfl) rfl (fun _ _ _ h => h) (by rfl) ?_ (by assumption) ?_
    rotate_left
    · intro w hSw; (try dsimp only at hSw); go_simp; (try with_reducible rfl)
    (try simp only [Act.put, List.setIfInBounds_toArray, List.set_cons_zero, List.set_cons_succ])
    refine take_on (i := 5) (v := ?_) (some 13) rfl (by kernel_rfl) (by kernel_rfl) (by kernel_rfl) rfl (fun _ _ _ h => h) (by rfl) ?_ (by assumption) ?_
    rotate_left
    · intro w hSw; (try dsimp only at hSw); go_simp; (try with_reducible rfl)
    (try simp only [Act.put, List.setIfInBounds_toArray, List.set_cons_zero, List.set_cons_succ])
    refine take_on (i := 6) (v := ?_) (some 14) rfl (by kernel_rfl) (by kernel_rfl) (by kernel_rfl) rfl (fun _ _ _ h => h) (by rfl) ?_ (by assumption) ?_
    rotate_left
    · intro w hSw; (try dsimp only at hSw); go_simp; (try with_reducible rfl)
    (try simp only [Act.put, List.setIfInBounds_toArray, List.set_cons_zero, List.set_cons_succ])
    refine wpAnyH_ready (rs := [7]) (by kernel_rfl) (by simp) ?_
    refine AllReadyH.cons rfl (fun K hK => ?_) AllReadyH.nil
    go_simp
    (refine (sizeOf_spec _ _).mono ?_; rintro e w1 ⟨rfl, rfl⟩)
    (try go_wp2_with (fail))
    refine hK.out _ _ ?_ (fun hHeld => ?_)
    · (try dsimp only); (first | (exact ⟨cA1, cB1⟩) | (exact ⟨cA2, cB2⟩) | go_keep)
    clear hK K
    (try simp only [Act.put, List.setIfInBounds_toArray, List.set_cons_zero, List.set_cons_succ])
    refine wpAnyH_ready (rs := [8]) (by kernel_rfl) (by simp) ?_
    refine AllReadyH.cons rfl (fun K hK => ?_) AllReadyH.nil
    go_simp
    (refine hSol.mono ?_; rintro e w2 ⟨rfl, hb2⟩; have hA2 := keepHeap hb2 hA; have hB2 := keepHeap hb2 hB; have hC2 := keepHeap hb2 hC; have cA2 := rowCells hA2; have cB2 := rowCells hB2; have hb02 := (hB0.trans ((belowDrew W0 1).mono hB0.size)).trans (hb2.mono (by simpa using hB0.size)))
    (try go_wp2_with (fail))
    refine hK.out _ _ ?_ (fun hHeld => ?_)
    · (try dsimp only); (first | (exact ⟨cA1, cB1⟩) | (exact ⟨cA2, cB2⟩) | go_keep)
    clear hK K
    (try simp only [Act.put, List.setIfInBounds_toArray, List.set_cons_zero, List.set_cons_succ])
    refine take_on (i := 9) (v := ?_) (some 17) rfl (by kernel_rfl) (by kernel_rfl) (by kernel_rfl) rfl (fun _ _ _ h => h) (by rfl) ?_ (by assumption) ?_
    rotate_left
    · intro w hSw; (try dsimp only at hSw); go_simp; (try with_reducible rfl)
    (try simp only [Act.put, List.setIfInBounds_toArray, List.set_cons_zero, List.set_cons_succ])
    refine take_off (i := 10) (some 18) rfl (by kernel_rfl) (by kernel_rfl) (by kernel_rfl) rfl (fun _ _ _ h => h) (wanted_off (k := 9) (d := 17) (b := false) (c := true) rfl rfl rfl rfl) (by assumption) ?_
    (try simp only [Act.put, List.setIfInBounds_toArray, List.set_cons_zero, List.set_cons_succ])
    refine take_off (i := 11) (some 19) rfl (by kernel_rfl) (by kernel_rfl) (by kernel_rfl) rfl (fun _ _ _ h => h) (wanted_off (k := 9) (d := 17) (b := false) (c := true) rfl rfl rfl rfl) (by assumption) ?_
    (try simp only [Act.put, List.setIfInBounds_toArray, List.set_cons_zero, List.set_cons_succ])
    refine take_off (i := 12) (some 20) rfl (by kernel_rfl) (by kernel_rfl) (by kernel_rfl) rfl (fun _ _ _ h => h) (wanted_off (k := 9) (d := 17) (b := false) (c := true) rfl rfl rfl rfl) (by assumption) ?_
    (try simp only [Act.put, List.setIfInBounds_toArray, List.set_cons_zero, List.set_cons_succ])
    refine take_off (i := 13) (some 21) rfl (by kernel_rfl) (by kernel_rfl) (by kernel_rfl) rfl (fun _ _ _ h => h) (wanted_off (k := 9) (d := 17) (b := false) (c := true) rfl rfl rfl rfl) (by assumption) ?_
    (try simp only [Act.put, List.setIfInBounds_toArray, List.set_cons_zero, List.set_cons_succ])
    refine take_on (i := 14) (v := ?_) (some 22) rfl (by kernel_rfl) (by kernel_rfl) (by kernel_rfl) rfl (fun _ _ _ h => h) (by rfl) ?_ (by assumption) ?_
    rotate_left
    · intro w hSw; (try dsimp only at hSw); go_simp; (try with_reducible rfl)
    (try simp only [Act.put, List.setIfInBounds_toArray, List.set_cons_zero, List.set_cons_succ])
    refine take_on (i := 15) (v := ?_) (some 23) rfl (by kernel_rfl) (by kernel_rfl) (by kernel_rfl) rfl (fun _ _ _ h => h) (by rfl) ?_ (by assumption) ?_
    rotate_left
    · intro w hSw; (try dsimp only at hSw); go_simp; (try with_reducible rfl)
    (try simp only [Act.put, List.setIfInBounds_toArray, List.set_cons_zero, List.set_cons_succ])
    refine take_off (i := 16) (some 24) rfl (by kernel_rfl) (by kernel_rfl) (by kernel_rfl) rfl (fun _ _ _ h => h) (wanted_off (k := 15) (d := 23) (b := false) (c := true) rfl rfl rfl rfl) (by assumption) ?_
    (try simp only [Act.put, List.setIfInBounds_toArray, List.set_cons_zero, List.set_cons_succ])
    refine take_off (i := 17) (some 25) rfl (by kernel_rfl) (by kernel_rfl) (by kernel_rfl) rfl (fun _ _ _ h => h) (wanted_off (k := 15) (d := 23) (b := false) (c := true) rfl rfl rfl rfl) (by assumption) ?_
    (try simp only [Act.put, List.setIfInBounds_toArray, List.set_cons_zero, List.set_cons_succ])
    refine take_off (i := 18) (some 26) rfl (by kernel_rfl) (by kernel_rfl) (by kernel_rfl) rfl (fun _ _ _ h => h) (wanted_off (k := 15) (d := 23) (b := false) (c := true) rfl rfl rfl rfl) (by assumption) ?_
    (try simp only [Act.put, List.setIfInBounds_toArray, List.set_cons_zero, List.set_cons_succ])
    refine take_off (i := 19) (some 27) rfl (by kernel_rfl) (by kernel_rfl) (by kernel_rfl) rfl (fun _ _ _ h => h) (wanted_off (k := 15) (d := 23) (b := false) (c := true) rfl rfl rfl rfl) (by assumption) ?_
    (try simp only [Act.put, List.setIfInBounds_toArray, List.set_cons_zero, List.set_cons_succ])
    refine take_on (i := 20) (v := ?_) (some 28) rfl (by kernel_rfl) (by kernel_rfl) (by kernel_rfl) rfl (fun _ _ _ h => h) (by rfl) ?_ (by assumption) ?_
    rotate_left
    · intro w hSw; (try dsimp only at hSw); go_simp; (try with_reducible rfl)
    (try simp only [Act.put, List.setIfInBounds_toArray, List.set_cons_zero, List.set_cons_succ])
    refine wpAnyH_done (by kernel_rfl) ?_ _
    have cC2 := rowCells hC2
    have fC2 := fun j => frozenHeap hC2 j
    unfold bd0 at cC2
    go_wp2_with (fail)
    have hP := putB_heap hC2 rfl b b.x b.y b.vx b.vy
    have hL := load_bd hP rfl
    have hbP := putB_below hb02 (c := w.heap.size + 1 + 1) (by omega) b b.x b.y b.vx b.vy
    unfold putB at hL hbP
    refine bodyPost_ret (v := .tuple #[.agg (bmv b b.x b.y b.vx b.vy), .bool false]) (results_two rfl _ _ _ _ _ rfl rfl hL) rfl ⟨?_, hbP⟩
    rw [HB.out, HT.out]; rfl
  | false =>
    rw [ht] at hSol
    cases hqx : inR b.vx (-15) 15 with
    | false =>
      obtain ⟨e1, e2⟩ := mb_stay (L := L) (.inr (spdB_x hqx))
      have Q := Lib.hid hqx
      clear ht hqx
      have HB := Lib.hid e1
      have HT := Lib.hid e2
      clear e1 e2
      go_enter Tryd.func20, Tryd.ntmps20
      go_wp2_with (fail)
      try rw [hW]
      clear hW
      have cA1 := rowCells (keepHeap (belowDrew W0 1) hA)
      have cB1 := rowCells (keepHeap (belowDrew W0 1) hB)
      refine wp_region_held_drew (S := (fun w' => (∀ j, w'.cell? ⟨w.heap.size, j, none⟩ = #[Value.slice a L.length cap][j]?) ∧ (∀ j, w'.cell? ⟨w.heap.size + 1, j, none⟩ = #[.int .i64 b.kind, .int .i64 b.owner, .int .i64 b.x, .int .i64 b.y, .int .i64 b.vx, .int .i64 b.vy, .int .i64 b.aim, .int .i64 b.life, .int .i64 b.timer][j]?))) (by kernel_rfl) ?_ (fun hHeld => ?_)
      · (try dsimp only); (first | (exact ⟨cA1, cB1⟩) | (exact ⟨cA2, cB2⟩) | go_keep)
      refine take_on (i := 0) (v := ?_) (some 8) rfl (by kernel_rfl) (by kernel_rfl) (by kernel_rfl) rfl (fun _ _ _ h => h) (by rfl) ?_ (by assumption) ?_
      rotate_left
      · intro w hSw; (try dsimp only at hSw); go_simp; (try with_reducible rfl)
      (try simp only [Act.put, List.setIfInBounds_toArray, List.set_cons_zero, List.set_cons_succ])
      refine take_on (i := 1) (v := ?_) (some 9) rfl (by kernel_rfl) (by kernel_rfl) (by kernel_rfl) rfl (fun _ _ _ h => h) (by rfl) ?_ (by assumption) ?_
      rotate_left
      · intro w hSw; (try dsimp only at hSw); go_simp; (try with_reducible rfl)
      (try simp only [Act.put, List.setIfInBounds_toArray, List.set_cons_zero, List.set_cons_succ])
      refine take_on (i := 2) (v := ?_) (some 10) rfl (by kernel_rfl) (by kernel_rfl) (by kernel_rfl) rfl (fun _ _ _ h => h) (by rfl) ?_ (by assumption) ?_
      rotate_left
      · intro w hSw; (try dsimp only at hSw); go_simp; (try with_reducible rfl)
      (try simp only [Act.put, List.setIfInBounds_toArray, List.set_cons_zero, List.set_cons_succ])
      refine take_on (i := 3) (v := ?_) (some 11) rfl (by kernel_rfl) (by kernel_rfl) (by kernel_rfl) rfl (fun _ _ _ h => h) (by rfl) ?_ (by assumption) ?_
      rotate_left
      · intro w hSw; (try dsimp only at hSw); go_simp; (try with_reducible rfl)
      (try simp only [Act.put, List.setIfInBounds_toArray, List.set_cons_zero, List.set_cons_succ])
      refine take_on (i := 4) (v := ?_) (some 12) rfl (by kernel_rfl) (by kernel_rfl) (by kernel_rfl) rfl (fun _ _ _ h => h) (by rfl) ?_ (by assumption) ?_
      rotate_left
      · intro w hSw; (try dsimp only at hSw); go_simp; (try with_reducible rfl)
      (try simp only [Act.put, List.setIfInBounds_toArray, List.set_cons_zero, List.set_cons_succ])
      refine take_on (i := 5) (v := ?_) (some 13) rfl (by kernel_rfl) (by kernel_rfl) (by kernel_rfl) rfl (fun _ _ _ h => h) (by rfl) ?_ (by assumption) ?_
      rotate_left
      · intro w hSw; (try dsimp only at hSw); go_simp; (try with_reducible rfl)
      (try simp only [Act.put, List.setIfInBounds_toArray, List.set_cons_zero, List.set_cons_succ])
      refine take_on (i := 6) (v := ?_) (some 14) rfl (by kernel_rfl) (by kernel_rfl) (by kernel_rfl) rfl (fun _ _ _ h => h) (by rfl) ?_ (by assumption) ?_
      rotate_left
      · intro w hSw; (try dsimp only at hSw); go_simp; (try with_reducible rfl)
      (try simp only [Act.put, List.setIfInBounds_toArray, List.set_cons_zero, List.set_cons_succ])
      refine wpAnyH_ready (rs := [7]) (by kernel_rfl) (by simp) ?_
      refine AllReadyH.cons rfl (fun K hK => ?_) AllReadyH.nil
      go_simp
      (refine (sizeOf_spec _ _).mono ?_; rintro e w1 ⟨rfl, rfl⟩)
      (try go_wp2_with (fail))
      refine hK.out _ _ ?_ (fun hHeld => ?_)
      · (try dsimp only); (first | (exact ⟨cA1, cB1⟩) | (exact ⟨cA2, cB2⟩) | go_keep)
      clear hK K
      (try simp only [Act.put, List.setIfInBounds_toArray, List.set_cons_zero, List.set_cons_succ])
      refine wpAnyH_ready (rs := [8]) (by kernel_rfl) (by simp) ?_
      refine AllReadyH.cons rfl (fun K hK => ?_) AllReadyH.nil
      go_simp
      (refine hSol.mono ?_; rintro e w2 ⟨rfl, hb2⟩; have hA2 := keepHeap hb2 hA; have hB2 := keepHeap hb2 hB; have hC2 := keepHeap hb2 hC; have cA2 := rowCells hA2; have cB2 := rowCells hB2; have hb02 := (hB0.trans ((belowDrew W0 1).mono hB0.size)).trans (hb2.mono (by simpa using hB0.size)))
      (try go_wp2_with (fail))
      refine hK.out _ _ ?_ (fun hHeld => ?_)
      · (try dsimp only); (first | (exact ⟨cA1, cB1⟩) | (exact ⟨cA2, cB2⟩) | go_keep)
      clear hK K
      (try simp only [Act.put, List.setIfInBounds_toArray, List.set_cons_zero, List.set_cons_succ])
      refine take_on (i := 9) (v := ?_) (some 17) rfl (by kernel_rfl) (by kernel_rfl) (by kernel_rfl) rfl (fun _ _ _ h => h) (by rfl) ?_ (by assumption) ?_
      rotate_left
      · intro w hSw; (try dsimp only at hSw); go_simp; (try with_reducible rfl)
      (try simp only [Act.put, List.setIfInBounds_toArray, List.set_cons_zero, List.set_cons_succ])
      refine take_on (i := 10) (v := ?_) (some 18) rfl (by kernel_rfl) (by kernel_rfl) (by kernel_rfl) rfl (fun _ _ _ h => h) (wanted_on (k := 9) (d := 17) (b := false) rfl rfl rfl) ?_ (by assumption) ?_
      rotate_left
      · intro w hSw; (try dsimp only at hSw); go_simp; (try with_reducible rfl)
      (try simp only [Act.put, List.setIfInBounds_toArray, List.set_cons_zero, List.set_cons_succ])
      refine take_on (i := 11) (v := ?_) (some 19) rfl (by kernel_rfl) (by kernel_rfl) (by kernel_rfl) rfl (fun _ _ _ h => h) (wanted_on (k := 9) (d := 17) (b := false) rfl rfl rfl) ?_ (by assumption) ?_
      rotate_left
      · intro w hSw; (try dsimp only at hSw); go_simp; (try with_reducible rfl)
      (try simp only [Act.put, List.setIfInBounds_toArray, List.set_cons_zero, List.set_cons_succ])
      refine wpAnyH_ready (rs := [12]) (by kernel_rfl) (by simp) ?_
      refine AllReadyH.cons rfl (fun K hK => ?_) AllReadyH.nil
      go_simp
      (refine (in_spec _ _ _ _).mono ?_; rintro e w3 ⟨rfl, rfl⟩; rw [Q.out])
      (try go_wp2_with (fail))
      refine hK.out _ _ ?_ (fun hHeld => ?_)
      · (try dsimp only); (first | (exact ⟨cA1, cB1⟩) | (exact ⟨cA2, cB2⟩) | go_keep)
      clear hK K
      (try simp only [Act.put, List.setIfInBounds_toArray, List.set_cons_zero, List.set_cons_succ])
      refine take_on (i := 13) (v := ?_) (some 21) rfl (by kernel_rfl) (by kernel_rfl) (by kernel_rfl) rfl (fun _ _ _ h => h) (wanted_on (k := 9) (d := 17) (b := false) rfl rfl rfl) ?_ (by assumption) ?_
      rotate_left
      · intro w hSw; (try dsimp only at hSw); go_simp; (try with_reducible rfl)
      (try simp only [Act.put, List.setIfInBounds_toArray, List.set_cons_zero, List.set_cons_succ])
      refine take_on (i := 14) (v := ?_) (some 22) rfl (by kernel_rfl) (by kernel_rfl) (by kernel_rfl) rfl (fun _ _ _ h => h) (by rfl) ?_ (by assumption) ?_
      rotate_left
      · intro w hSw; (try dsimp only at hSw); go_simp; (try with_reducible rfl)
      (try simp only [Act.put, List.setIfInBounds_toArray, List.set_cons_zero, List.set_cons_succ])
      refine take_on (i := 15) (v := ?_) (some 23) rfl (by kernel_rfl) (by kernel_rfl) (by kernel_rfl) rfl (fun _ _ _ h => h) (by rfl) ?_ (by assumption) ?_
      rotate_left
      · intro w hSw; (try dsimp only at hSw); go_simp; (try with_reducible rfl)
      (try simp only [Act.put, List.setIfInBounds_toArray, List.set_cons_zero, List.set_cons_succ])
      refine take_off (i := 16) (some 24) rfl (by kernel_rfl) (by kernel_rfl) (by kernel_rfl) rfl (fun _ _ _ h => h) (wanted_off (k := 15) (d := 23) (b := false) (c := true) rfl rfl rfl rfl) (by assumption) ?_
      (try simp only [Act.put, List.setIfInBounds_toArray, List.set_cons_zero, List.set_cons_succ])
      refine take_off (i := 17) (some 25) rfl (by kernel_rfl) (by kernel_rfl) (by kernel_rfl) rfl (fun _ _ _ h => h) (wanted_off (k := 15) (d := 23) (b := false) (c := true) rfl rfl rfl rfl) (by assumption) ?_
      (try simp only [Act.put, List.setIfInBounds_toArray, List.set_cons_zero, List.set_cons_succ])
      refine take_off (i := 18) (some 26) rfl (by kernel_rfl) (by kernel_rfl) (by kernel_rfl) rfl (fun _ _ _ h => h) (wanted_off (k := 15) (d := 23) (b := false) (c := true) rfl rfl rfl rfl) (by assumption) ?_
      (try simp only [Act.put, List.setIfInBounds_toArray, List.set_cons_zero, List.set_cons_succ])
      refine take_off (i := 19) (some 27) rfl (by kernel_rfl) (by kernel_rfl) (by kernel_rfl) rfl (fun _ _ _ h => h) (wanted_off (k := 15) (d := 23) (b := false) (c := true) rfl rfl rfl rfl) (by assumption) ?_
      (try simp only [Act.put, List.setIfInBounds_toArray, List.set_cons_zero, List.set_cons_succ])
      refine take_on (i := 20) (v := ?_) (some 28) rfl (by kernel_rfl) (by kernel_rfl) (by kernel_rfl) rfl (fun _ _ _ h => h) (by rfl) ?_ (by assumption) ?_
      rotate_left
      · intro w hSw; (try dsimp only at hSw); go_simp; (try with_reducible rfl)
      (try simp only [Act.put, List.setIfInBounds_toArray, List.set_cons_zero, List.set_cons_succ])
      refine wpAnyH_done (by kernel_rfl) ?_ _
      have cC2 := rowCells hC2
      have fC2 := fun j => frozenHeap hC2 j
      unfold bd0 at cC2
      go_wp2_with (fail)
      have hP := putB_heap hC2 rfl b b.x b.y b.vx b.vy
      have hL := load_bd hP rfl
      have hbP := putB_below hb02 (c := w.heap.size + 1 + 1) (by omega) b b.x b.y b.vx b.vy
      unfold putB at hL hbP
      refine bodyPost_ret (v := .tuple #[.agg (bmv b b.x b.y b.vx b.vy), .bool false]) (results_two rfl _ _ _ _ _ rfl rfl hL) rfl ⟨?_, hbP⟩
      rw [HB.out, HT.out]; rfl
    | true =>
      have Q := Lib.hid hqx
      cases hqy : inR b.vy (-15) 15 with
      | false =>
        obtain ⟨e1, e2⟩ := mb_stay (L := L) (.inr (spdB_y hqy))
        have Q2 := Lib.hid hqy
        clear ht hqx hqy
        have HB := Lib.hid e1
        have HT := Lib.hid e2
        clear e1 e2
        go_enter Tryd.func20, Tryd.ntmps20
        go_wp2_with (fail)
        try rw [hW]
        clear hW
        have cA1 := rowCells (keepHeap (belowDrew W0 1) hA)
        have cB1 := rowCells (keepHeap (belowDrew W0 1) hB)
        refine wp_region_held_drew (S := (fun w' => (∀ j, w'.cell? ⟨w.heap.size, j, none⟩ = #[Value.slice a L.length cap][j]?) ∧ (∀ j, w'.cell? ⟨w.heap.size + 1, j, none⟩ = #[.int .i64 b.kind, .int .i64 b.owner, .int .i64 b.x, .int .i64 b.y, .int .i64 b.vx, .int .i64 b.vy, .int .i64 b.aim, .int .i64 b.life, .int .i64 b.timer][j]?))) (by kernel_rfl) ?_ (fun hHeld => ?_)
        · (try dsimp only); (first | (exact ⟨cA1, cB1⟩) | (exact ⟨cA2, cB2⟩) | go_keep)
        refine take_on (i := 0) (v := ?_) (some 8) rfl (by kernel_rfl) (by kernel_rfl) (by kernel_rfl) rfl (fun _ _ _ h => h) (by rfl) ?_ (by assumption) ?_
        rotate_left
        · intro w hSw; (try dsimp only at hSw); go_simp; (try with_reducible rfl)
        (try simp only [Act.put, List.setIfInBounds_toArray, List.set_cons_zero, List.set_cons_succ])
        refine take_on (i := 1) (v := ?_) (some 9) rfl (by kernel_rfl) (by kernel_rfl) (by kernel_rfl) rfl (fun _ _ _ h => h) (by rfl) ?_ (by assumption) ?_
        rotate_left
        · intro w hSw; (try dsimp only at hSw); go_simp; (try with_reducible rfl)
        (try simp only [Act.put, List.setIfInBounds_toArray, List.set_cons_zero, List.set_cons_succ])
        refine take_on (i := 2) (v := ?_) (some 10) rfl (by kernel_rfl) (by kernel_rfl) (by kernel_rfl) rfl (fun _ _ _ h => h) (by rfl) ?_ (by assumption) ?_
        rotate_left
        · intro w hSw; (try dsimp only at hSw); go_simp; (try with_reducible rfl)
        (try simp only [Act.put, List.setIfInBounds_toArray, List.set_cons_zero, List.set_cons_succ])
        refine take_on (i := 3) (v := ?_) (some 11) rfl (by kernel_rfl) (by kernel_rfl) (by kernel_rfl) rfl (fun _ _ _ h => h) (by rfl) ?_ (by assumption) ?_
        rotate_left
        · intro w hSw; (try dsimp only at hSw); go_simp; (try with_reducible rfl)
        (try simp only [Act.put, List.setIfInBounds_toArray, List.set_cons_zero, List.set_cons_succ])
        refine take_on (i := 4) (v := ?_) (some 12) rfl (by kernel_rfl) (by kernel_rfl) (by kernel_rfl) rfl (fun _ _ _ h => h) (by rfl) ?_ (by assumption) ?_
        rotate_left
        · intro w hSw; (try dsimp only at hSw); go_simp; (try with_reducible rfl)
        (try simp only [Act.put, List.setIfInBounds_toArray, List.set_cons_zero, List.set_cons_succ])
        refine take_on (i := 5) (v := ?_) (some 13) rfl (by kernel_rfl) (by kernel_rfl) (by kernel_rfl) rfl (fun _ _ _ h => h) (by rfl) ?_ (by assumption) ?_
        rotate_left
        · intro w hSw; (try dsimp only at hSw); go_simp; (try with_reducible rfl)
        (try simp only [Act.put, List.setIfInBounds_toArray, List.set_cons_zero, List.set_cons_succ])
        refine take_on (i := 6) (v := ?_) (some 14) rfl (by kernel_rfl) (by kernel_rfl) (by kernel_rfl) rfl (fun _ _ _ h => h) (by rfl) ?_ (by assumption) ?_
        rotate_left
        · intro w hSw; (try dsimp only at hSw); go_simp; (try with_reducible rfl)
        (try simp only [Act.put, List.setIfInBounds_toArray, List.set_cons_zero, List.set_cons_succ])
        refine wpAnyH_ready (rs := [7]) (by kernel_rfl) (by simp) ?_
        refine AllReadyH.cons rfl (fun K hK => ?_) AllReadyH.nil
        go_simp
        (refine (sizeOf_spec _ _).mono ?_; rintro e w1 ⟨rfl, rfl⟩)
        (try go_wp2_with (fail))
        refine hK.out _ _ ?_ (fun hHeld => ?_)
        · (try dsimp only); (first | (exact ⟨cA1, cB1⟩) | (exact ⟨cA2, cB2⟩) | go_keep)
        clear hK K
        (try simp only [Act.put, List.setIfInBounds_toArray, List.set_cons_zero, List.set_cons_succ])
        refine wpAnyH_ready (rs := [8]) (by kernel_rfl) (by simp) ?_
        refine AllReadyH.cons rfl (fun K hK => ?_) AllReadyH.nil
        go_simp
        (refine hSol.mono ?_; rintro e w2 ⟨rfl, hb2⟩; have hA2 := keepHeap hb2 hA; have hB2 := keepHeap hb2 hB; have hC2 := keepHeap hb2 hC; have cA2 := rowCells hA2; have cB2 := rowCells hB2; have hb02 := (hB0.trans ((belowDrew W0 1).mono hB0.size)).trans (hb2.mono (by simpa using hB0.size)))
        (try go_wp2_with (fail))
        refine hK.out _ _ ?_ (fun hHeld => ?_)
        · (try dsimp only); (first | (exact ⟨cA1, cB1⟩) | (exact ⟨cA2, cB2⟩) | go_keep)
        clear hK K
        (try simp only [Act.put, List.setIfInBounds_toArray, List.set_cons_zero, List.set_cons_succ])
        refine take_on (i := 9) (v := ?_) (some 17) rfl (by kernel_rfl) (by kernel_rfl) (by kernel_rfl) rfl (fun _ _ _ h => h) (by rfl) ?_ (by assumption) ?_
        rotate_left
        · intro w hSw; (try dsimp only at hSw); go_simp; (try with_reducible rfl)
        (try simp only [Act.put, List.setIfInBounds_toArray, List.set_cons_zero, List.set_cons_succ])
        refine take_on (i := 10) (v := ?_) (some 18) rfl (by kernel_rfl) (by kernel_rfl) (by kernel_rfl) rfl (fun _ _ _ h => h) (wanted_on (k := 9) (d := 17) (b := false) rfl rfl rfl) ?_ (by assumption) ?_
        rotate_left
        · intro w hSw; (try dsimp only at hSw); go_simp; (try with_reducible rfl)
        (try simp only [Act.put, List.setIfInBounds_toArray, List.set_cons_zero, List.set_cons_succ])
        refine take_on (i := 11) (v := ?_) (some 19) rfl (by kernel_rfl) (by kernel_rfl) (by kernel_rfl) rfl (fun _ _ _ h => h) (wanted_on (k := 9) (d := 17) (b := false) rfl rfl rfl) ?_ (by assumption) ?_
        rotate_left
        · intro w hSw; (try dsimp only at hSw); go_simp; (try with_reducible rfl)
        (try simp only [Act.put, List.setIfInBounds_toArray, List.set_cons_zero, List.set_cons_succ])
        refine wpAnyH_ready (rs := [12]) (by kernel_rfl) (by simp) ?_
        refine AllReadyH.cons rfl (fun K hK => ?_) AllReadyH.nil
        go_simp
        (refine (in_spec _ _ _ _).mono ?_; rintro e w3 ⟨rfl, rfl⟩; rw [Q.out])
        (try go_wp2_with (fail))
        refine hK.out _ _ ?_ (fun hHeld => ?_)
        · (try dsimp only); (first | (exact ⟨cA1, cB1⟩) | (exact ⟨cA2, cB2⟩) | go_keep)
        clear hK K
        (try simp only [Act.put, List.setIfInBounds_toArray, List.set_cons_zero, List.set_cons_succ])
        refine take_on (i := 13) (v := ?_) (some 21) rfl (by kernel_rfl) (by kernel_rfl) (by kernel_rfl) rfl (fun _ _ _ h => h) (wanted_on (k := 9) (d := 17) (b := false) rfl rfl rfl) ?_ (by assumption) ?_
        rotate_left
        · intro w hSw; (try dsimp only at hSw); go_simp; (try with_reducible rfl)
        (try simp only [Act.put, List.setIfInBounds_toArray, List.set_cons_zero, List.set_cons_succ])
        refine take_on (i := 14) (v := ?_) (some 22) rfl (by kernel_rfl) (by kernel_rfl) (by kernel_rfl) rfl (fun _ _ _ h => h) (by rfl) ?_ (by assumption) ?_
        rotate_left
        · intro w hSw; (try dsimp only at hSw); go_simp; (try with_reducible rfl)
        (try simp only [Act.put, List.setIfInBounds_toArray, List.set_cons_zero, List.set_cons_succ])
        refine take_on (i := 15) (v := ?_) (some 23) rfl (by kernel_rfl) (by kernel_rfl) (by kernel_rfl) rfl (fun _ _ _ h => h) (by rfl) ?_ (by assumption) ?_
        rotate_left
        · intro w hSw; (try dsimp only at hSw); go_simp; (try with_reducible rfl)
        (try simp only [Act.put, List.setIfInBounds_toArray, List.set_cons_zero, List.set_cons_succ])
        refine take_on (i := 16) (v := ?_) (some 24) rfl (by kernel_rfl) (by kernel_rfl) (by kernel_rfl) rfl (fun _ _ _ h => h) (wanted_on (k := 15) (d := 23) (b := false) rfl rfl rfl) ?_ (by assumption) ?_
        rotate_left
        · intro w hSw; (try dsimp only at hSw); go_simp; (try with_reducible rfl)
        (try simp only [Act.put, List.setIfInBounds_toArray, List.set_cons_zero, List.set_cons_succ])
        refine take_on (i := 17) (v := ?_) (some 25) rfl (by kernel_rfl) (by kernel_rfl) (by kernel_rfl) rfl (fun _ _ _ h => h) (wanted_on (k := 15) (d := 23) (b := false) rfl rfl rfl) ?_ (by assumption) ?_
        rotate_left
        · intro w hSw; (try dsimp only at hSw); go_simp; (try with_reducible rfl)
        (try simp only [Act.put, List.setIfInBounds_toArray, List.set_cons_zero, List.set_cons_succ])
        refine wpAnyH_ready (rs := [18]) (by kernel_rfl) (by simp) ?_
        refine AllReadyH.cons rfl (fun K hK => ?_) AllReadyH.nil
        go_simp
        (refine (in_spec _ _ _ _).mono ?_; rintro e w3 ⟨rfl, rfl⟩; rw [Q2.out])
        (try go_wp2_with (fail))
        refine hK.out _ _ ?_ (fun hHeld => ?_)
        · (try dsimp only); (first | (exact ⟨cA1, cB1⟩) | (exact ⟨cA2, cB2⟩) | go_keep)
        clear hK K
        (try simp only [Act.put, List.setIfInBounds_toArray, List.set_cons_zero, List.set_cons_succ])
        refine take_on (i := 19) (v := ?_) (some 27) rfl (by kernel_rfl) (by kernel_rfl) (by kernel_rfl) rfl (fun _ _ _ h => h) (wanted_on (k := 15) (d := 23) (b := false) rfl rfl rfl) ?_ (by assumption) ?_
        rotate_left
        · intro w hSw; (try dsimp only at hSw); go_simp; (try with_reducible rfl)
        (try simp only [Act.put, List.setIfInBounds_toArray, List.set_cons_zero, List.set_cons_succ])
        refine take_on (i := 20) (v := ?_) (some 28) rfl (by kernel_rfl) (by kernel_rfl) (by kernel_rfl) rfl (fun _ _ _ h => h) (by rfl) ?_ (by assumption) ?_
        rotate_left
        · intro w hSw; (try dsimp only at hSw); go_simp; (try with_reducible rfl)
        (try simp only [Act.put, List.setIfInBounds_toArray, List.set_cons_zero, List.set_cons_succ])
        refine wpAnyH_done (by kernel_rfl) ?_ _
        have cC2 := rowCells hC2
        have fC2 := fun j => frozenHeap hC2 j
        unfold bd0 at cC2
        go_wp2_with (fail)
        have hP := putB_heap hC2 rfl b b.x b.y b.vx b.vy
        have hL := load_bd hP rfl
        have hbP := putB_below hb02 (c := w.heap.size + 1 + 1) (by omega) b b.x b.y b.vx b.vy
        unfold putB at hL hbP
        refine bodyPost_ret (v := .tuple #[.agg (bmv b b.x b.y b.vx b.vy), .bool false]) (results_two rfl _ _ _ _ _ rfl rfl hL) rfl ⟨?_, hbP⟩
        rw [HB.out, HT.out]; rfl
      | true =>
        have Q2 := Lib.hid hqy
        obtain ⟨e1, e2⟩ := mb_go ht (spdB_ok hqx hqy)
        obtain ⟨hl, hq, hfree⟩ := solid_free ht
        have hq2 := (inR_iff _ _ _).1 hq
        have hvx := (inR_iff _ _ _).1 hqx
        have hvy := (inR_iff _ _ _).1 hqy
        obtain ⟨S, hS⟩ := Int.eq_ofNat_of_zero_le (a := sizeI b.kind) (by omega)
        rw [hS] at hfree
        have hM := fun {w' : World} (h' : RdS w' (.slice a L.length cap) L) => move_spec h' (levelB_facts hl) b S hS (by omega) (by omega) hfree hvx hvy
        rw [← e1, ← e2] at hM
        clear ht hqx hqy e1 e2 hl hq hq2 hvx hvy
        obtain ⟨c, hc⟩ : ∃ c, c = mbB L b := ⟨_, rfl⟩
        obtain ⟨t, ht⟩ : ∃ t, t = mbT L b := ⟨_, rfl⟩
        rw [← hc, ← ht] at hM
        have HB := Lib.hid hc
        have HT := Lib.hid ht
        have HS := Lib.hid hS
        clear hc ht hS hfree
        unfold bdV at hM
        go_enter Tryd.func20, Tryd.ntmps20
        go_wp2_with (fail)
        try rw [hW]
        clear hW
        have cA1 := rowCells (keepHeap (belowDrew W0 1) hA)
        have cB1 := rowCells (keepHeap (belowDrew W0 1) hB)
        refine wp_region_held_drew (S := (fun w' => (∀ j, w'.cell? ⟨w.heap.size, j, none⟩ = #[Value.slice a L.length cap][j]?) ∧ (∀ j, w'.cell? ⟨w.heap.size + 1, j, none⟩ = #[.int .i64 b.kind, .int .i64 b.owner, .int .i64 b.x, .int .i64 b.y, .int .i64 b.vx, .int .i64 b.vy, .int .i64 b.aim, .int .i64 b.life, .int .i64 b.timer][j]?))) (by kernel_rfl) ?_ (fun hHeld => ?_)
        · (try dsimp only); (first | (exact ⟨cA1, cB1⟩) | (exact ⟨cA2, cB2⟩) | go_keep)
        refine take_on (i := 0) (v := ?_) (some 8) rfl (by kernel_rfl) (by kernel_rfl) (by kernel_rfl) rfl (fun _ _ _ h => h) (by rfl) ?_ (by assumption) ?_
        rotate_left
        · intro w hSw; (try dsimp only at hSw); go_simp; (try with_reducible rfl)
        (try simp only [Act.put, List.setIfInBounds_toArray, List.set_cons_zero, List.set_cons_succ])
        refine take_on (i := 1) (v := ?_) (some 9) rfl (by kernel_rfl) (by kernel_rfl) (by kernel_rfl) rfl (fun _ _ _ h => h) (by rfl) ?_ (by assumption) ?_
        rotate_left
        · intro w hSw; (try dsimp only at hSw); go_simp; (try with_reducible rfl)
        (try simp only [Act.put, List.setIfInBounds_toArray, List.set_cons_zero, List.set_cons_succ])
        refine take_on (i := 2) (v := ?_) (some 10) rfl (by kernel_rfl) (by kernel_rfl) (by kernel_rfl) rfl (fun _ _ _ h => h) (by rfl) ?_ (by assumption) ?_
        rotate_left
        · intro w hSw; (try dsimp only at hSw); go_simp; (try with_reducible rfl)
        (try simp only [Act.put, List.setIfInBounds_toArray, List.set_cons_zero, List.set_cons_succ])
        refine take_on (i := 3) (v := ?_) (some 11) rfl (by kernel_rfl) (by kernel_rfl) (by kernel_rfl) rfl (fun _ _ _ h => h) (by rfl) ?_ (by assumption) ?_
        rotate_left
        · intro w hSw; (try dsimp only at hSw); go_simp; (try with_reducible rfl)
        (try simp only [Act.put, List.setIfInBounds_toArray, List.set_cons_zero, List.set_cons_succ])
        refine take_on (i := 4) (v := ?_) (some 12) rfl (by kernel_rfl) (by kernel_rfl) (by kernel_rfl) rfl (fun _ _ _ h => h) (by rfl) ?_ (by assumption) ?_
        rotate_left
        · intro w hSw; (try dsimp only at hSw); go_simp; (try with_reducible rfl)
        (try simp only [Act.put, List.setIfInBounds_toArray, List.set_cons_zero, List.set_cons_succ])
        refine take_on (i := 5) (v := ?_) (some 13) rfl (by kernel_rfl) (by kernel_rfl) (by kernel_rfl) rfl (fun _ _ _ h => h) (by rfl) ?_ (by assumption) ?_
        rotate_left
        · intro w hSw; (try dsimp only at hSw); go_simp; (try with_reducible rfl)
        (try simp only [Act.put, List.setIfInBounds_toArray, List.set_cons_zero, List.set_cons_succ])
        refine take_on (i := 6) (v := ?_) (some 14) rfl (by kernel_rfl) (by kernel_rfl) (by kernel_rfl) rfl (fun _ _ _ h => h) (by rfl) ?_ (by assumption) ?_
        rotate_left
        · intro w hSw; (try dsimp only at hSw); go_simp; (try with_reducible rfl)
        (try simp only [Act.put, List.setIfInBounds_toArray, List.set_cons_zero, List.set_cons_succ])
        refine wpAnyH_ready (rs := [7]) (by kernel_rfl) (by simp) ?_
        refine AllReadyH.cons rfl (fun K hK => ?_) AllReadyH.nil
        go_simp
        (refine (sizeOf_spec _ _).mono ?_; rintro e w1 ⟨rfl, rfl⟩)
        (try go_wp2_with (fail))
        refine hK.out _ _ ?_ (fun hHeld => ?_)
        · (try dsimp only); (first | (exact ⟨cA1, cB1⟩) | (exact ⟨cA2, cB2⟩) | go_keep)
        clear hK K
        (try simp only [Act.put, List.setIfInBounds_toArray, List.set_cons_zero, List.set_cons_succ])
        refine wpAnyH_ready (rs := [8]) (by kernel_rfl) (by simp) ?_
        refine AllReadyH.cons rfl (fun K hK => ?_) AllReadyH.nil
        go_simp
        (refine hSol.mono ?_; rintro e w2 ⟨rfl, hb2⟩; have hA2 := keepHeap hb2 hA; have hB2 := keepHeap hb2 hB; have hC2 := keepHeap hb2 hC; have cA2 := rowCells hA2; have cB2 := rowCells hB2; have hb02 := (hB0.trans ((belowDrew W0 1).mono hB0.size)).trans (hb2.mono (by simpa using hB0.size)))
        (try go_wp2_with (fail))
        refine hK.out _ _ ?_ (fun hHeld => ?_)
        · (try dsimp only); (first | (exact ⟨cA1, cB1⟩) | (exact ⟨cA2, cB2⟩) | go_keep)
        clear hK K
        (try simp only [Act.put, List.setIfInBounds_toArray, List.set_cons_zero, List.set_cons_succ])
        refine take_on (i := 9) (v := ?_) (some 17) rfl (by kernel_rfl) (by kernel_rfl) (by kernel_rfl) rfl (fun _ _ _ h => h) (by rfl) ?_ (by assumption) ?_
        rotate_left
        · intro w hSw; (try dsimp only at hSw); go_simp; (try with_reducible rfl)
        (try simp only [Act.put, List.setIfInBounds_toArray, List.set_cons_zero, List.set_cons_succ])
        refine take_on (i := 10) (v := ?_) (some 18) rfl (by kernel_rfl) (by kernel_rfl) (by kernel_rfl) rfl (fun _ _ _ h => h) (wanted_on (k := 9) (d := 17) (b := false) rfl rfl rfl) ?_ (by assumption) ?_
        rotate_left
        · intro w hSw; (try dsimp only at hSw); go_simp; (try with_reducible rfl)
        (try simp only [Act.put, List.setIfInBounds_toArray, List.set_cons_zero, List.set_cons_succ])
        refine take_on (i := 11) (v := ?_) (some 19) rfl (by kernel_rfl) (by kernel_rfl) (by kernel_rfl) rfl (fun _ _ _ h => h) (wanted_on (k := 9) (d := 17) (b := false) rfl rfl rfl) ?_ (by assumption) ?_
        rotate_left
        · intro w hSw; (try dsimp only at hSw); go_simp; (try with_reducible rfl)
        (try simp only [Act.put, List.setIfInBounds_toArray, List.set_cons_zero, List.set_cons_succ])
        refine wpAnyH_ready (rs := [12]) (by kernel_rfl) (by simp) ?_
        refine AllReadyH.cons rfl (fun K hK => ?_) AllReadyH.nil
        go_simp
        (refine (in_spec _ _ _ _).mono ?_; rintro e w3 ⟨rfl, rfl⟩; rw [Q.out])
        (try go_wp2_with (fail))
        refine hK.out _ _ ?_ (fun hHeld => ?_)
        · (try dsimp only); (first | (exact ⟨cA1, cB1⟩) | (exact ⟨cA2, cB2⟩) | go_keep)
        clear hK K
        (try simp only [Act.put, List.setIfInBounds_toArray, List.set_cons_zero, List.set_cons_succ])
        refine take_on (i := 13) (v := ?_) (some 21) rfl (by kernel_rfl) (by kernel_rfl) (by kernel_rfl) rfl (fun _ _ _ h => h) (wanted_on (k := 9) (d := 17) (b := false) rfl rfl rfl) ?_ (by assumption) ?_
        rotate_left
        · intro w hSw; (try dsimp only at hSw); go_simp; (try with_reducible rfl)
        (try simp only [Act.put, List.setIfInBounds_toArray, List.set_cons_zero, List.set_cons_succ])
        refine take_on (i := 14) (v := ?_) (some 22) rfl (by kernel_rfl) (by kernel_rfl) (by kernel_rfl) rfl (fun _ _ _ h => h) (by rfl) ?_ (by assumption) ?_
        rotate_left
        · intro w hSw; (try dsimp only at hSw); go_simp; (try with_reducible rfl)
        (try simp only [Act.put, List.setIfInBounds_toArray, List.set_cons_zero, List.set_cons_succ])
        refine take_on (i := 15) (v := ?_) (some 23) rfl (by kernel_rfl) (by kernel_rfl) (by kernel_rfl) rfl (fun _ _ _ h => h) (by rfl) ?_ (by assumption) ?_
        rotate_left
        · intro w hSw; (try dsimp only at hSw); go_simp; (try with_reducible rfl)
        (try simp only [Act.put, List.setIfInBounds_toArray, List.set_cons_zero, List.set_cons_succ])
        refine take_on (i := 16) (v := ?_) (some 24) rfl (by kernel_rfl) (by kernel_rfl) (by kernel_rfl) rfl (fun _ _ _ h => h) (wanted_on (k := 15) (d := 23) (b := false) rfl rfl rfl) ?_ (by assumption) ?_
        rotate_left
        · intro w hSw; (try dsimp only at hSw); go_simp; (try with_reducible rfl)
        (try simp only [Act.put, List.setIfInBounds_toArray, List.set_cons_zero, List.set_cons_succ])
        refine take_on (i := 17) (v := ?_) (some 25) rfl (by kernel_rfl) (by kernel_rfl) (by kernel_rfl) rfl (fun _ _ _ h => h) (wanted_on (k := 15) (d := 23) (b := false) rfl rfl rfl) ?_ (by assumption) ?_
        rotate_left
        · intro w hSw; (try dsimp only at hSw); go_simp; (try with_reducible rfl)
        (try simp only [Act.put, List.setIfInBounds_toArray, List.set_cons_zero, List.set_cons_succ])
        refine wpAnyH_ready (rs := [18]) (by kernel_rfl) (by simp) ?_
        refine AllReadyH.cons rfl (fun K hK => ?_) AllReadyH.nil
        go_simp
        (refine (in_spec _ _ _ _).mono ?_; rintro e w3 ⟨rfl, rfl⟩; rw [Q2.out])
        (try go_wp2_with (fail))
        refine hK.out _ _ ?_ (fun hHeld => ?_)
        · (try dsimp only); (first | (exact ⟨cA1, cB1⟩) | (exact ⟨cA2, cB2⟩) | go_keep)
        clear hK K
        (try simp only [Act.put, List.setIfInBounds_toArray, List.set_cons_zero, List.set_cons_succ])
        refine take_on (i := 19) (v := ?_) (some 27) rfl (by kernel_rfl) (by kernel_rfl) (by kernel_rfl) rfl (fun _ _ _ h => h) (wanted_on (k := 15) (d := 23) (b := false) rfl rfl rfl) ?_ (by assumption) ?_
        rotate_left
        · intro w hSw; (try dsimp only at hSw); go_simp; (try with_reducible rfl)
        (try simp only [Act.put, List.setIfInBounds_toArray, List.set_cons_zero, List.set_cons_succ])
        refine take_on (i := 20) (v := ?_) (some 28) rfl (by kernel_rfl) (by kernel_rfl) (by kernel_rfl) rfl (fun _ _ _ h => h) (by rfl) ?_ (by assumption) ?_
        rotate_left
        · intro w hSw; (try dsimp only at hSw); go_simp; (try with_reducible rfl)
        (try simp only [Act.put, List.setIfInBounds_toArray, List.set_cons_zero, List.set_cons_succ])
        refine wpAnyH_done (by kernel_rfl) ?_ _
        go_wp2_with (fail)
        refine (hM (h.keep hb02)).mono ?_
        rintro e w4 ⟨rfl, hb4⟩
        have hC4 := keepHeap hb4 hC2
        have hb04 := hb02.trans (hb4.mono hb02.size)
        have hs4 := hb04.size
        have hz4 : w.heap.size + 1 + 1 < w4.heap.size := (Array.getElem?_eq_some_iff.1 hC4).1
        clear cA2 cB2 hA2 hB2 hM
        have hbN := below1 w4 (.cells #[.int .i64 c.kind, .int .i64 c.owner, .int .i64 c.x, .int .i64 c.y, .int .i64 c.vx, .int .i64 c.vy, .int .i64 c.aim, .int .i64 c.life, .int .i64 c.timer] 43)
        have hN6 := heap_alloc_new w4 (.cells #[.int .i64 c.kind, .int .i64 c.owner, .int .i64 c.x, .int .i64 c.y, .int .i64 c.vx, .int .i64 c.vy, .int .i64 c.aim, .int .i64 c.life, .int .i64 c.timer] 43)
        have hC5 := keepHeap hbN hC4
        have hb05 := hb04.trans (hbN.mono hs4)
        obtain ⟨W5, hW5⟩ : ∃ W5, w4.alloc (.cells #[.int .i64 c.kind, .int .i64 c.owner, .int .i64 c.x, .int .i64 c.y, .int .i64 c.vx, .int .i64 c.vy, .int .i64 c.aim, .int .i64 c.life, .int .i64 c.timer] 43) = W5 := ⟨_, rfl⟩
        rw [hW5] at hN6 hC5 hb05
        go_upto_region 4 with (fail)
        try rw [hW5]
        clear hW5 hbN hC4 hb04 hb4
        have cN5 := rowCells hN6
        have cC5 := rowCells hC5
        have fC5 := fun j => frozenHeap hC5 j
        unfold bd0 at cC5
        go_wp2_with (fail)
        have hP := putB_heap hC5 rfl c c.x c.y c.vx c.vy
        have hL := load_bd hP rfl
        have hbP := putB_below hb05 (c := w.heap.size + 1 + 1) (by omega) c c.x c.y c.vx c.vy
        unfold putB at hL hbP
        exact bodyPost_ret (v := .tuple #[.agg (bmv c c.x c.y c.vx c.vy), .bool t]) (results_two rfl _ _ _ _ _ rfl rfl hL) rfl ⟨by rw [← HB.out, ← HT.out]; rfl, hbP⟩
end Go.Proofs.YtjdiflomgalpdaaDoor
