/-
  MoveBody of the program: speedsOk; the whole. Condition: the body's numbers fit their kind.
-/
import Derived.Test.YtjdiflomgalpdaaDoorMoveI
namespace Go.Proofs.YtjdiflomgalpdaaDoor
open Go.RowKit
set_option linter.all false
def spdB (b : Bd) : Bool := inR b.vx (-15) 15 && inR b.vy (-15) 15
theorem speedsOk_impl (b : Bd) (w : World) : Calls Tryd.prog 49 #[.agg #[.int .i64 b.kind, .int .i64 b.owner, .int .i64 b.x, .int .i64 b.y, .int .i64 b.vx, .int .i64 b.vy, .int .i64 b.aim, .int .i64 b.life, .int .i64 b.timer]] w fun e w' => e = .returned (.bool (spdB b)) ∧ Below w.heap.size w w' := by
  cases q1 : inR b.vx (-15) 15 with
  | true =>
    have HF := Lib.hid (show spdB b = inR b.vy (-15) 15 by unfold spdB; rw [q1]; rfl)
    have Q := Lib.hid q1
    clear q1
    go_enter Tryd.func49, Tryd.ntmps49
    go_wp2_with (go_at_call 33; refine (within_impl _ _ _ _).mono ?_; rintro e w1 ⟨rfl, rfl⟩; try rw [Q.out])
    go_ret
    exact ⟨by rw [HF.out]; rfl, below1 _ _⟩
  | false =>
    have HF := Lib.hid (show spdB b = false by unfold spdB; rw [q1]; rfl)
    have Q := Lib.hid q1
    clear q1
    go_enter Tryd.func49, Tryd.ntmps49
    go_wp2_with (go_at_call 33; refine (within_impl _ _ _ _).mono ?_; rintro e w1 ⟨rfl, rfl⟩; try rw [Q.out])
    go_ret
    exact ⟨by rw [HF.out]; rfl, below1 _ _⟩
/-- What MoveBody leaves. -/
def mbB (L : Rowz) (b : Bd) : Bd := if solidB L b.x b.y (sizeI b.kind) || !spdB b then b else moveB L b
def mbT (L : Rowz) (b : Bd) : Bool := if solidB L b.x b.y (sizeI b.kind) || !spdB b then false else moveT L b
theorem mb_stay {L : Rowz} {b : Bd} (h : solidB L b.x b.y (sizeI b.kind) = true ∨ spdB b = false) : mbB L b = b ∧ mbT L b = false := by
  unfold mbB mbT
  rcases h with h | h <;> rw [h] <;> simp
theorem mb_go {L : Rowz} {b : Bd} (h1 : solidB L b.x b.y (sizeI b.kind) = false) (h2 : spdB b = true) : mbB L b = moveB L b ∧ mbT L b = moveT L b := by
  unfold mbB mbT; rw [h1, h2]; simp
theorem solid_free {L : Rowz} {x y s : Int} (h : solidB L x y s = false) : levelB L = true ∧ inR s 1 16 = true ∧ blockB L x y s = false := by
  unfold solidB at h
  cases hl : levelB L <;> cases hq : inR s 1 16 <;> cases hb : blockB L x y s <;> simp_all
set_option maxRecDepth 100000 in
set_option maxHeartbeats 4000000 in
theorem moveBody_impl {w : World} {v : Value} {L : Rowz} (h : RdS w v L) (hs : Sane L) (b : Bd) (hx : I64 b.x) (hy : I64 b.y) :
    Calls Tryd.prog 21 #[.agg #[v], .agg #[.int .i64 b.kind, .int .i64 b.owner, .int .i64 b.x, .int .i64 b.y, .int .i64 b.vx, .int .i64 b.vy, .int .i64 b.aim, .int .i64 b.life, .int .i64 b.timer]] w fun e w' => e = .returned (.tuple #[bdV (mbB L b), .bool (mbT L b)]) ∧ Below w.heap.size w w' := by
  obtain ⟨a, cap, rfl, -⟩ := id h
  obtain ⟨W0, hW, hA, hB, hC, hB0, hS0⟩ := rows3 w #[.slice a L.length cap] #[.int .i64 b.kind, .int .i64 b.owner, .int .i64 b.x, .int .i64 b.y, .int .i64 b.vx, .int .i64 b.vy, .int .i64 b.aim, .int .i64 b.life, .int .i64 b.timer] bd0 41 43 43
  have cA := rowCells hA
  have cB := rowCells hB
  unfold bd0 at hW
  go_enter Tryd.func21, Tryd.ntmps21
  go_wp2_with (fail)
  clear hW
  refine (sizeOf_impl _ _).mono ?_
  rintro e w1 ⟨rfl, hb1⟩
  have hA1 := keepHeap hb1 hA
  have hB1 := keepHeap hb1 hB
  have hC1 := keepHeap hb1 hC
  have hb01 := hB0.trans (hb1.mono hB0.size)
  have cA1 := rowCells hA1
  have cB1 := rowCells hB1
  clear cA cB hA hB hC hB0 hb1
  have hC := solidAt_impl (h.keep hb01) hs b.x b.y (sizeI b.kind) hx hy
  go_wp2_with (fail)
  refine hC.mono ?_
  rintro e w2 ⟨rfl, hb2⟩
  have hA2 := keepHeap hb2 hA1
  have hB2 := keepHeap hb2 hB1
  have hC2 := keepHeap hb2 hC1
  have hb02 := hb01.trans (hb2.mono hb01.size)
  have cA2 := rowCells hA2
  have cB2 := rowCells hB2
  have cC2 := rowCells hC2
  have fC2 := fun j => frozenHeap hC2 j
  unfold bd0 at cC2
  clear cA1 cB1 hA1 hB1 hC1 hb01 hb2 hC
  cases ht : solidB L b.x b.y (sizeI b.kind) with
  | true =>
    obtain ⟨e1, e2⟩ := mb_stay (.inl ht)
    have HB := Lib.hid e1
    have HT := Lib.hid e2
    clear ht e1 e2
    go_wp2_with (fail)
    have hP := putB_heap hC2 rfl b b.x b.y b.vx b.vy
    have hL := load_bd hP rfl
    have hbP := putB_below hb02 (c := w.heap.size + 1 + 1) (by omega) b b.x b.y b.vx b.vy
    unfold putB at hL hbP
    refine bodyPost_ret (v := .tuple #[.agg (bmv b b.x b.y b.vx b.vy), .bool false]) (results_two rfl _ _ _ _ _ rfl rfl hL) rfl ⟨?_, hbP⟩
    rw [HB.out, HT.out]; rfl
  | false =>
    clear fC2 cC2
    go_wp2_with (fail)
    refine (speedsOk_impl b _).mono ?_
    rintro e w3 ⟨rfl, hb3⟩
    have hA3 := keepHeap hb3 hA2
    have hB3 := keepHeap hb3 hB2
    have hC3 := keepHeap hb3 hC2
    have hb03 := hb02.trans (hb3.mono hb02.size)
    have cA3 := rowCells hA3
    have cB3 := rowCells hB3
    clear cA2 cB2 hA2 hB2 hC2 hb02 hb3
    cases hsp : spdB b with
    | false =>
      obtain ⟨e1, e2⟩ := mb_stay (L := L) (.inr hsp)
      have HB := Lib.hid e1
      have HT := Lib.hid e2
      clear ht hsp e1 e2
      have cC3 := rowCells hC3
      have fC3 := fun j => frozenHeap hC3 j
      unfold bd0 at cC3
      go_wp2_with (fail)
      have hP := putB_heap hC3 rfl b b.x b.y b.vx b.vy
      have hL := load_bd hP rfl
      have hbP := putB_below hb03 (c := w.heap.size + 1 + 1) (by omega) b b.x b.y b.vx b.vy
      unfold putB at hL hbP
      refine bodyPost_ret (v := .tuple #[.agg (bmv b b.x b.y b.vx b.vy), .bool false]) (results_two rfl _ _ _ _ _ rfl rfl hL) rfl ⟨?_, hbP⟩
      rw [HB.out, HT.out]; rfl
    | true =>
      obtain ⟨e1, e2⟩ := mb_go ht hsp
      obtain ⟨hl, hq, hfree⟩ := solid_free ht
      have hq2 := (inR_iff _ _ _).1 hq
      obtain ⟨S, hS⟩ := Int.eq_ofNat_of_zero_le (a := sizeI b.kind) (by omega)
      rw [hS] at hfree
      unfold spdB at hsp
      rw [Bool.and_eq_true, inR_iff, inR_iff] at hsp
      have hM := moveIn_impl (h.keep hb03) (levelB_facts hl) b S hS (by omega) (by omega) hfree hsp.1 hsp.2
      rw [← e1, ← e2] at hM
      clear ht hsp e1 e2 hl hq hq2 hfree hS
      obtain ⟨c, hc⟩ : ∃ c, c = mbB L b := ⟨_, rfl⟩
      obtain ⟨t, ht⟩ : ∃ t, t = mbT L b := ⟨_, rfl⟩
      rw [← hc, ← ht] at hM
      have HB := Lib.hid hc
      have HT := Lib.hid ht
      clear hc ht
      unfold bdV at hM
      go_wp2_with (fail)
      refine hM.mono ?_
      rintro e w4 ⟨rfl, hb4⟩
      have hC4 := keepHeap hb4 hC3
      have hb04 := hb03.trans (hb4.mono hb03.size)
      have cC4 := rowCells hC4
      have fC4 := fun j => frozenHeap hC4 j
      unfold bd0 at cC4
      clear cA3 cB3 hA3 hB3 hC3 hb03 hb4 hM
      go_wp2_with (fail)
      have hP := putB_heap hC4 rfl c c.x c.y c.vx c.vy
      have hL := load_bd hP rfl
      have hbP := putB_below hb04 (c := w.heap.size + 1 + 1) (by omega) c c.x c.y c.vx c.vy
      unfold putB at hL hbP
      exact bodyPost_ret (v := .tuple #[.agg (bmv c c.x c.y c.vx c.vy), .bool t]) (results_two rfl _ _ _ _ _ rfl rfl hL) rfl ⟨by rw [← HB.out, ← HT.out]; rfl, hbP⟩
end Go.Proofs.YtjdiflomgalpdaaDoor
