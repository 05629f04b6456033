/-
  Texts of this proof: MoveI, MoveP.
-/
import Derived.Test.YtnlonkkbjkfkmaaGreatDoorM11
import Derived.Deep.Cut
namespace Go.Proofs.YtnlonkkbjkfkmaaGreatDoor
open Go.RowKit
set_option linter.all false
def dirI (v : Int) : Int := if v < 0 then -1 else 1
def moveX (L : Rowz) (b : Bd) : Int × Int × Bool := slideN L (sizeI b.kind) (dirI b.vx) 0 b.vx.natAbs b.x b.y
def moveY (L : Rowz) (b : Bd) (x y : Int) : Int × Int × Bool := slideN L (sizeI b.kind) 0 (dirI b.vy) b.vy.natAbs x y
def stop (t : Bool) (v : Int) : Int := if t then 0 else v
def moveB (L : Rowz) (b : Bd) : Bd := ⟨b.kind, b.owner, (moveY L b (moveX L b).1 (moveX L b).2.1).1, (moveY L b (moveX L b).1 (moveX L b).2.1).2.1, stop (moveX L b).2.2 b.vx, stop (moveY L b (moveX L b).1 (moveX L b).2.1).2.2 b.vy, b.aim, b.life, b.timer⟩
def moveT (L : Rowz) (b : Bd) : Bool := (moveX L b).2.2 || (moveY L b (moveX L b).1 (moveX L b).2.1).2.2
theorem dirI_range (v : Int) : -1 ≤ dirI v ∧ dirI v ≤ 1 := by unfold dirI; split <;> omega
theorem pointsOf_impl (v : Int) (hv : -15 ≤ v ∧ v ≤ 15) (w : World) : Calls Tryz.prog 264 #[.int .i64 v] w fun e w' => e = .returned (.tuple #[.int .i64 (v.natAbs : Int), .int .i64 (dirI v)]) ∧ w = w' := by
 obtain ⟨h0, h1⟩ := hv
 by_cases h : v < 0
 ·have z0 : decide (v < 0) = true := by simpa using h
  have e1 : (v.natAbs : Int) = -v := by omega
  have e2 : dirI v = -1 := by unfold dirI; rw [if_pos h]
  rw [e1, e2]
  clear e1 e2
  go_enter Tryz.func264, Tryz.ntmps264
  go_wp2_with (fail)
  go_ret2
  exact ⟨rfl, rfl⟩
 ·have z0 : decide (v < 0) = false := by simpa using h
  have e1 : (v.natAbs : Int) = v := by omega
  have e2 : dirI v = 1 := by unfold dirI; rw [if_neg h]
  rw [e1, e2]
  clear e1 e2
  go_enter Tryz.func264, Tryz.ntmps264
  go_wp2_with (fail)
  go_ret2
  exact ⟨rfl, rfl⟩
set_option maxRecDepth 100000 in
set_option maxHeartbeats 4000000 in
theorem moveIn_impl {w : World} {v : Value} {L : Rowz} (h : RdS w v L) (hg : Good L) (b : Bd) (S : Nat) (hS : sizeI b.kind = (S : Int)) (hS1 : 1 ≤ S) (hS2 : S ≤ 16) (hfree : blockB L b.x b.y (S : Int) = false) (hvx : -15 ≤ b.vx ∧ b.vx ≤ 15) (hvy : -15 ≤ b.vy ∧ b.vy ≤ 15) :
  Calls Tryz.prog 246 #[.agg #[v], .agg #[.int .i64 b.kind, .int .i64 b.owner, .int .i64 b.x, .int .i64 b.y, .int .i64 b.vx, .int .i64 b.vy, .int .i64 b.aim, .int .i64 b.life, .int .i64 b.timer]] w fun e w' => e = .returned (.tuple #[bdV (moveB L b), .bool (moveT L b)]) ∧ Below w.heap.size w w' := by
 obtain ⟨a, cap, rfl, -⟩ := id h
 obtain ⟨W0, hW, hA, hB, hC, hB0, hS0⟩ := rows3 w #[.slice a L.length cap] #[.int .i64 b.kind, .int .i64 b.owner, .int .i64 b.x, .int .i64 b.y, .int .i64 b.vx, .int .i64 b.vy, .int .i64 b.aim, .int .i64 b.life, .int .i64 b.timer] bd0 26 100 100
 have cA := rowCells hA
 have cB := rowCells hB
 have fB := fun j => frozenHeap hB j
 unfold bd0 at hW
 have S1 := slide_impl (h.keep hB0) hg b b.vx.natAbs (by omega) (dirI b.vx) 0 (dirI_range _) (by omega) S hS hS1 hS2 hfree
 go_enter Tryz.func246, Tryz.ntmps246
 go_wp2_with (go_at_call 264; refine (pointsOf_impl _ hvx _).mono ?_; rintro e w1 ⟨rfl, rfl⟩)
 refine S1.mono ?_
 rintro e w2 ⟨x1, y1, t1, hr1, rfl, hfr1, hb2⟩
 have hA2 := keepHeap hb2 hA
 have hB2 := keepHeap hb2 hB
 have hC2 := keepHeap hb2 hC
 have cB2 := rowCells hB2
 have fB2 := fun j => frozenHeap hB2 j
 have hb02 := hB0.trans (hb2.mono hB0.size)
 unfold bmv
 clear cA cB fB hA hB hC S1
 have HX := Lib.hid (show moveX L b = (x1, y1, t1) by unfold moveX; rw [hS]; exact hr1)
 clear hr1 hb2 hW
 cases t1 with
 | false =>
  go_upto_region 5 with (fail)
  have hB3 := putB_heap hB2 rfl b x1 y1 b.vx b.vy
  have hA3 := putB_far hA2 (show w.heap.size ≠ w.heap.size + 1 by omega) b x1 y1 b.vx b.vy
  have hC3 := putB_far hC2 (show w.heap.size + 1 + 1 ≠ w.heap.size + 1 by omega) b x1 y1 b.vx b.vy
  have hb3 := putB_below hb02 (c := w.heap.size + 1) (by omega) b x1 y1 b.vx b.vy
  obtain ⟨W3, hW3⟩ : ∃ W3, putB w2 (w.heap.size + 1) b x1 y1 b.vx b.vy = W3 := ⟨_, rfl⟩
  rw [hW3] at hB3 hA3 hC3 hb3
  unfold putB at hW3
  rw [hW3]
  have hB3' : W3.heap[w.heap.size + 1]? = some (.cells (bmv b x1 y1 b.vx b.vy) 100 (0, 0)) := hB3
  have cA3 := rowCells hA3
  have cB3 := rowCells hB3'
  have fB3 := fun j => frozenHeap hB3' j
  unfold bmv at cB3
  have S2 := slide_impl (h.keep hb3) hg ⟨b.kind, b.owner, x1, y1, b.vx, b.vy, b.aim, b.life, b.timer⟩ b.vy.natAbs (by omega) 0 (dirI b.vy) (by omega) (dirI_range _) S hS hS1 hS2 hfr1
  clear hW3 cB2 fB2 hB3 hA2 hB2 hC2 hb02
  go_wp2_with (fail)
  refine (pointsOf_impl _ hvy _).mono ?_
  rintro e w4 ⟨rfl, rfl⟩
  go_wp2_with (fail)
  refine S2.mono ?_
  rintro e w5 ⟨x2, y2, t2, hr2, rfl, hfr2, hb5⟩
  have HY := Lib.hid (show moveY L b x1 y1 = (x2, y2, t2) by unfold moveY; rw [hS]; exact hr2)
  have hB5 := keepHeap hb5 hB3'
  have hC5 := keepHeap hb5 hC3
  have cB5 := rowCells hB5
  have fB5 := fun j => frozenHeap hB5 j
  have hb05 := hb3.trans (hb5.mono hb3.size)
  unfold bmv at cB5 ⊢
  clear cA3 cB3 fB3 S2 hr2 hb5 hb3
  cases t2 with
  | false =>
   go_upto_region 9 with (fail)
   have hB6 := putB_heap hB5 rfl b x2 y2 b.vx b.vy
   have hC6 := putB_far hC5 (show w.heap.size + 1 + 1 ≠ w.heap.size + 1 by omega) b x2 y2 b.vx b.vy
   have hb6 := putB_below hb05 (c := w.heap.size + 1) (by omega) b x2 y2 b.vx b.vy
   obtain ⟨W7, hW7⟩ : ∃ W7, putB w5 (w.heap.size + 1) b x2 y2 b.vx b.vy = W7 := ⟨_, rfl⟩
   rw [hW7] at hB6 hC6 hb6
   unfold putB at hW7
   rw [hW7]
   have hB7 : W7.heap[w.heap.size + 1]? = some (.cells (bmv b x2 y2 b.vx b.vy) 100 (0, 0)) := hB6
   have cB7 := rowCells hB7
   have cC7 := rowCells hC6
   have fC7 := fun j => frozenHeap hC6 j
   unfold bmv at cB7
   unfold bd0 at cC7
   clear hW7 cB5 fB5 hB6 hB5 hC5 hb05
   go_wp2_with (fail)
   have hP := putB_heap hC6 rfl b x2 y2 b.vx b.vy
   have hL := load_bd hP rfl
   have hbP := putB_below hb6 (c := w.heap.size + 1 + 1) (by omega) b x2 y2 b.vx b.vy
   unfold putB at hL hbP
   refine bodyPost_ret (v := .tuple #[.agg (bmv b x2 y2 b.vx b.vy), .bool false]) (results_two rfl _ _ _ _ _ rfl rfl hL) rfl ⟨?_, hbP⟩
   have e1 := HX.out
   have e2 := HY.out
   have eM : moveB L b = ⟨b.kind, b.owner, x2, y2, b.vx, b.vy, b.aim, b.life, b.timer⟩ := by unfold moveB; rw [e1]; simp only; rw [e2]; rfl
   have eT : moveT L b = false := by unfold moveT; rw [e1]; simp only; rw [e2]; rfl
   rw [eM, eT]; rfl
  | true =>
   go_upto_region 9 with (fail)
   have hB6 := setHeap (k := 5) (v := .int .i64 0) (putB_heap hB5 rfl b x2 y2 b.vx b.vy)
   have hC6 := farHeap (putB_far hC5 (show w.heap.size + 1 + 1 ≠ w.heap.size + 1 by omega) b x2 y2 b.vx b.vy) (p := ⟨w.heap.size + 1, 5, none⟩) (by show w.heap.size + 1 + 1 ≠ w.heap.size + 1; omega) (.int .i64 0)
   have hb6 := (putB_below hb05 (c := w.heap.size + 1) (by omega) b x2 y2 b.vx b.vy).setCell (p := ⟨w.heap.size + 1, 5, none⟩) (by show w.heap.size ≤ w.heap.size + 1; omega) (.int .i64 0)
   obtain ⟨W7, hW7⟩ : ∃ W7, (putB w5 (w.heap.size + 1) b x2 y2 b.vx b.vy).setCell ⟨w.heap.size + 1, 5, none⟩ (.int .i64 0) = W7 := ⟨_, rfl⟩
   rw [hW7] at hB6 hC6 hb6
   unfold putB at hW7
   rw [hW7]
   have hB7 : W7.heap[w.heap.size + 1]? = some (.cells (bmv b x2 y2 b.vx 0) 100 (0, 0)) := hB6
   have cB7 := rowCells hB7
   have cC7 := rowCells hC6
   have fC7 := fun j => frozenHeap hC6 j
   unfold bmv at cB7
   unfold bd0 at cC7
   clear hW7 cB5 fB5 hB6 hB5 hC5 hb05
   go_wp2_with (fail)
   have hP := putB_heap hC6 rfl b x2 y2 b.vx 0
   have hL := load_bd hP rfl
   have hbP := putB_below hb6 (c := w.heap.size + 1 + 1) (by omega) b x2 y2 b.vx 0
   unfold putB at hL hbP
   refine bodyPost_ret (v := .tuple #[.agg (bmv b x2 y2 b.vx 0), .bool true]) (results_two rfl _ _ _ _ _ rfl rfl hL) rfl ⟨?_, hbP⟩
   have e1 := HX.out
   have e2 := HY.out
   have eM : moveB L b = ⟨b.kind, b.owner, x2, y2, b.vx, 0, b.aim, b.life, b.timer⟩ := by unfold moveB; rw [e1]; simp only; rw [e2]; rfl
   have eT : moveT L b = true := by unfold moveT; rw [e1]; simp only; rw [e2]; rfl
   rw [eM, eT]; rfl
 | true =>
  go_upto_region 5 with (fail)
  have hB3 := setHeap (k := 4) (v := .int .i64 0) (putB_heap hB2 rfl b x1 y1 b.vx b.vy)
  have hA3 := farHeap (putB_far hA2 (show w.heap.size ≠ w.heap.size + 1 by omega) b x1 y1 b.vx b.vy) (p := ⟨w.heap.size + 1, 4, none⟩) (by show w.heap.size ≠ w.heap.size + 1; omega) (.int .i64 0)
  have hC3 := farHeap (putB_far hC2 (show w.heap.size + 1 + 1 ≠ w.heap.size + 1 by omega) b x1 y1 b.vx b.vy) (p := ⟨w.heap.size + 1, 4, none⟩) (by show w.heap.size + 1 + 1 ≠ w.heap.size + 1; omega) (.int .i64 0)
  have hb3 := (putB_below hb02 (c := w.heap.size + 1) (by omega) b x1 y1 b.vx b.vy).setCell (p := ⟨w.heap.size + 1, 4, none⟩) (by show w.heap.size ≤ w.heap.size + 1; omega) (.int .i64 0)
  obtain ⟨W3, hW3⟩ : ∃ W3, (putB w2 (w.heap.size + 1) b x1 y1 b.vx b.vy).setCell ⟨w.heap.size + 1, 4, none⟩ (.int .i64 0) = W3 := ⟨_, rfl⟩
  rw [hW3] at hB3 hA3 hC3 hb3
  unfold putB at hW3
  rw [hW3]
  have hB3' : W3.heap[w.heap.size + 1]? = some (.cells (bmv b x1 y1 0 b.vy) 100 (0, 0)) := hB3
  have cA3 := rowCells hA3
  have cB3 := rowCells hB3'
  have fB3 := fun j => frozenHeap hB3' j
  unfold bmv at cB3
  have S2 := slide_impl (h.keep hb3) hg ⟨b.kind, b.owner, x1, y1, 0, b.vy, b.aim, b.life, b.timer⟩ b.vy.natAbs (by omega) 0 (dirI b.vy) (by omega) (dirI_range _) S hS hS1 hS2 hfr1
  clear hW3 cB2 fB2 hB3 hA2 hB2 hC2 hb02
  go_wp2_with (fail)
  refine (pointsOf_impl _ hvy _).mono ?_
  rintro e w4 ⟨rfl, rfl⟩
  go_wp2_with (fail)
  refine S2.mono ?_
  rintro e w5 ⟨x2, y2, t2, hr2, rfl, hfr2, hb5⟩
  have HY := Lib.hid (show moveY L b x1 y1 = (x2, y2, t2) by unfold moveY; rw [hS]; exact hr2)
  have hB5 := keepHeap hb5 hB3'
  have hC5 := keepHeap hb5 hC3
  have cB5 := rowCells hB5
  have fB5 := fun j => frozenHeap hB5 j
  have hb05 := hb3.trans (hb5.mono hb3.size)
  unfold bmv at cB5 ⊢
  clear cA3 cB3 fB3 S2 hr2 hb5 hb3
  cases t2 with
  | false =>
   go_upto_region 9 with (fail)
   have hB6 := putB_heap hB5 rfl b x2 y2 0 b.vy
   have hC6 := putB_far hC5 (show w.heap.size + 1 + 1 ≠ w.heap.size + 1 by omega) b x2 y2 0 b.vy
   have hb6 := putB_below hb05 (c := w.heap.size + 1) (by omega) b x2 y2 0 b.vy
   obtain ⟨W7, hW7⟩ : ∃ W7, putB w5 (w.heap.size + 1) b x2 y2 0 b.vy = W7 := ⟨_, rfl⟩
   rw [hW7] at hB6 hC6 hb6
   unfold putB at hW7
   rw [hW7]
   have hB7 : W7.heap[w.heap.size + 1]? = some (.cells (bmv b x2 y2 0 b.vy) 100 (0, 0)) := hB6
   have cB7 := rowCells hB7
   have cC7 := rowCells hC6
   have fC7 := fun j => frozenHeap hC6 j
   unfold bmv at cB7
   unfold bd0 at cC7
   clear hW7 cB5 fB5 hB6 hB5 hC5 hb05
   go_wp2_with (fail)
   have hP := putB_heap hC6 rfl b x2 y2 0 b.vy
   have hL := load_bd hP rfl
   have hbP := putB_below hb6 (c := w.heap.size + 1 + 1) (by omega) b x2 y2 0 b.vy
   unfold putB at hL hbP
   refine bodyPost_ret (v := .tuple #[.agg (bmv b x2 y2 0 b.vy), .bool true]) (results_two rfl _ _ _ _ _ rfl rfl hL) rfl ⟨?_, hbP⟩
   have e1 := HX.out
   have e2 := HY.out
   have eM : moveB L b = ⟨b.kind, b.owner, x2, y2, 0, b.vy, b.aim, b.life, b.timer⟩ := by unfold moveB; rw [e1]; simp only; rw [e2]; rfl
   have eT : moveT L b = true := by unfold moveT; rw [e1]; simp only; rw [e2]; rfl
   rw [eM, eT]; rfl
  | true =>
   go_upto_region 9 with (fail)
   have hB6 := setHeap (k := 5) (v := .int .i64 0) (putB_heap hB5 rfl b x2 y2 0 b.vy)
   have hC6 := farHeap (putB_far hC5 (show w.heap.size + 1 + 1 ≠ w.heap.size + 1 by omega) b x2 y2 0 b.vy) (p := ⟨w.heap.size + 1, 5, none⟩) (by show w.heap.size + 1 + 1 ≠ w.heap.size + 1; omega) (.int .i64 0)
   have hb6 := (putB_below hb05 (c := w.heap.size + 1) (by omega) b x2 y2 0 b.vy).setCell (p := ⟨w.heap.size + 1, 5, none⟩) (by show w.heap.size ≤ w.heap.size + 1; omega) (.int .i64 0)
   obtain ⟨W7, hW7⟩ : ∃ W7, (putB w5 (w.heap.size + 1) b x2 y2 0 b.vy).setCell ⟨w.heap.size + 1, 5, none⟩ (.int .i64 0) = W7 := ⟨_, rfl⟩
   rw [hW7] at hB6 hC6 hb6
   unfold putB at hW7
   rw [hW7]
   have hB7 : W7.heap[w.heap.size + 1]? = some (.cells (bmv b x2 y2 0 0) 100 (0, 0)) := hB6
   have cB7 := rowCells hB7
   have cC7 := rowCells hC6
   have fC7 := fun j => frozenHeap hC6 j
   unfold bmv at cB7
   unfold bd0 at cC7
   clear hW7 cB5 fB5 hB6 hB5 hC5 hb05
   go_wp2_with (fail)
   have hP := putB_heap hC6 rfl b x2 y2 0 0
   have hL := load_bd hP rfl
   have hbP := putB_below hb6 (c := w.heap.size + 1 + 1) (by omega) b x2 y2 0 0
   unfold putB at hL hbP
   refine bodyPost_ret (v := .tuple #[.agg (bmv b x2 y2 0 0), .bool true]) (results_two rfl _ _ _ _ _ rfl rfl hL) rfl ⟨?_, hbP⟩
   have e1 := HX.out
   have e2 := HY.out
   have eM : moveB L b = ⟨b.kind, b.owner, x2, y2, 0, 0, b.aim, b.life, b.timer⟩ := by unfold moveB; rw [e1]; simp only; rw [e2]; rfl
   have eT : moveT L b = true := by unfold moveT; rw [e1]; simp only; rw [e2]; rfl
   rw [eM, eT]; rfl
end Go.Proofs.YtnlonkkbjkfkmaaGreatDoor
namespace Go.Proofs.YtnlonkkbjkfkmaaGreatDoor
open Go.RowKit
set_option linter.all false
def spdB (b : Bd) : Bool := inR b.vx (-15) 15 && inR b.vy (-15) 15
theorem speedsOk_impl (b : Bd) (w : World) : Calls Tryz.prog 212 #[.agg #[.int .i64 b.kind, .int .i64 b.owner, .int .i64 b.x, .int .i64 b.y, .int .i64 b.vx, .int .i64 b.vy, .int .i64 b.aim, .int .i64 b.life, .int .i64 b.timer]] w fun e w' => e = .returned (.bool (spdB b)) ∧ Below w.heap.size w w' := by
 cases q1 : inR b.vx (-15) 15 with
 | true =>
  have HF := Lib.hid (show spdB b = inR b.vy (-15) 15 by unfold spdB; rw [q1]; rfl)
  have Q := Lib.hid q1
  clear q1
  go_enter Tryz.func212, Tryz.ntmps212
  go_wp2_with (go_at_call 69; refine (within_impl _ _ _ _).mono ?_; rintro e w1 ⟨rfl, rfl⟩; try rw [Q.out])
  go_ret
  exact ⟨by rw [HF.out]; rfl, below1 _ _⟩
 | false =>
  have HF := Lib.hid (show spdB b = false by unfold spdB; rw [q1]; rfl)
  have Q := Lib.hid q1
  clear q1
  go_enter Tryz.func212, Tryz.ntmps212
  go_wp2_with (go_at_call 69; refine (within_impl _ _ _ _).mono ?_; rintro e w1 ⟨rfl, rfl⟩; try rw [Q.out])
  go_ret
  exact ⟨by rw [HF.out]; rfl, below1 _ _⟩
end Go.Proofs.YtnlonkkbjkfkmaaGreatDoor
