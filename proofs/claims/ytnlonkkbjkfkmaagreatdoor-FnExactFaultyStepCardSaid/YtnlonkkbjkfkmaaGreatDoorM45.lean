/-
  Texts of this proof: MoveS, Reg2.
-/
import Derived.Test.YtnlonkkbjkfkmaaGreatDoorM21
import Derived.Deep.CutBlock
import Derived.Test.YtnlonkkbjkfkmaaGreatDoorM11
namespace Go.Proofs.YtnlonkkbjkfkmaaGreatDoor
open Go.RowKit
set_option linter.all false
set_option maxRecDepth 100000 in
set_option maxHeartbeats 4000000 in
theorem move_spec {w : World} {v : Value} {L : Rowz} (h : RdS w v L) (hg : Good L) (b : Bd) (S : Nat) (hS : sizeI b.kind = (S : Int)) (hS1 : 1 ≤ S) (hS2 : S ≤ 16) (hfree : blockB L b.x b.y (S : Int) = false) (hvx : -15 ≤ b.vx ∧ b.vx ≤ 15) (hvy : -15 ≤ b.vy ∧ b.vy ≤ 15) :
  Calls Tryz.prog 220 #[.agg #[v], .agg #[.int .i64 b.kind, .int .i64 b.owner, .int .i64 b.x, .int .i64 b.y, .int .i64 b.vx, .int .i64 b.vy, .int .i64 b.aim, .int .i64 b.life, .int .i64 b.timer]] w fun e w' => e = .returned (.tuple #[bdV (moveB L b), .bool (moveT L b)]) ∧ Below w.heap.size w w' := by
 obtain ⟨a, cap, rfl, -⟩ := id h
 obtain ⟨W0, hW, hA, hB, hC, hB0, hS0⟩ := rows3 w #[.slice a L.length cap] #[.int .i64 b.kind, .int .i64 b.owner, .int .i64 b.x, .int .i64 b.y, .int .i64 b.vx, .int .i64 b.vy, .int .i64 b.aim, .int .i64 b.life, .int .i64 b.timer] bd0 26 100 100
 have cA := rowCells hA
 have cB := rowCells hB
 unfold bd0 at hW
 go_enter Tryz.func220, Tryz.ntmps220
 go_upto_if 16 with (go_at_call 242; refine (sizeOf_spec _ _).mono ?_; rintro e w1 ⟨rfl, rfl⟩; rw [hS])
 go_cut [8, 9] from 17 (fun s n wr => s = .int .i64 (dirI b.vx) ∧ n = .int .i64 (b.vx.natAbs : Int) ∧ wr = W0)
 case first =>
  by_cases hneg : b.vx < 0
  ·have E1 := Lib.hid (show (b.vx.natAbs : Int) = -b.vx by omega)
   have E2 := Lib.hid (show dirI b.vx = -1 by unfold dirI; rw [if_pos hneg])
   have hkeep := hneg
   go_wp2_with (fail)
   go_meet
   exact ⟨by rw [E2.out], by rw [E1.out], rfl⟩
  ·have E1 := Lib.hid (show (b.vx.natAbs : Int) = b.vx by omega)
   have E2 := Lib.hid (show dirI b.vx = 1 by unfold dirI; rw [if_neg hneg])
   have hkeep : 0 ≤ b.vx := by omega
   go_wp2_with (fail)
   go_meet
   exact ⟨by rw [E2.out], by rw [E1.out], rfl⟩
 obtain ⟨rfl, rfl, rfl⟩ := hcut
 go_upto_block 0 with (fail)
 go_cut [7] from 19 (fun t wr => ∃ (x y : Int) (t1 : Bool), moveX L b = (x, y, t1) ∧ t = .bool t1 ∧ blockB L x y (S : Int) = false ∧ wr.heap[w.heap.size]? = some (.cells #[.slice a L.length cap] 26 (0, 0)) ∧ wr.heap[w.heap.size + 1]? = some (.cells (bmv b x y (stop t1 b.vx) b.vy) 100 (0, 0)) ∧ wr.heap[w.heap.size + 1 + 1]? = some (.cells bd0 100 (0, 0)) ∧ Below w.heap.size w wr)
 case first =>
  go_wp2_with (fail)
  go_loopw [7, 9] (fun t i wr => ∃ (n : Nat) (x y : Int), t = .bool false ∧ n ≤ 15 ∧ i = .int .i64 (n : Int) ∧ slideN L (S : Int) (dirI b.vx) 0 n x y = slideN L (S : Int) (dirI b.vx) 0 b.vx.natAbs b.x b.y ∧ blockB L x y (S : Int) = false ∧ wr.heap[w.heap.size]? = some (.cells #[.slice a L.length cap] 26 (0, 0)) ∧ wr.heap[w.heap.size + 1]? = some (.cells (bmv b x y b.vx b.vy) 100 (0, 0)) ∧ wr.heap[w.heap.size + 1 + 1]? = some (.cells bd0 100 (0, 0)) ∧ Below w.heap.size w wr) (fun _ i _ => (intOf i).toNat)
  case atStart => exact ⟨b.vx.natAbs, b.x, b.y, rfl, by omega, rfl, rfl, hfree, hA, hB, hC, hB0⟩
  case round =>
   obtain ⟨n, x, y, rfl, hn, rfl, hsl, hbl, hAr, hBr, hCr, hbel⟩ := hrel
   have hsz := hbel.size
   by_cases hkn : 0 < n
   ·obtain ⟨hx0, hx1, hy0, hy1⟩ := blockB_place hg hbl
    obtain ⟨hd0, hd1⟩ := dirI_range b.vx
    have z0 : decide (0 < (n : Int)) = true := by simp; omega
    have hn15 : (n : Int) ≤ 15 := by omega
    have cA := rowCells hAr
    have cB := rowCells hBr
    unfold bmv at cB
    have hC := solid_spec (h.keep hbel) hg (x + (dirI b.vx)) (y) S hS1 hS2 (by omega) (by omega) (by omega) (by omega)
    obtain ⟨q, rfl⟩ : ∃ q, n = q + 1 := ⟨n - 1, by omega⟩
    rw [slideN] at hsl
    simp only [Int.add_zero] at hsl
    cases ht : blockB L (x + (dirI b.vx)) (y) (S : Int) with
    | true =>
     rw [ht] at hC
     rw [ht, if_pos rfl] at hsl
     have HR := Lib.hid hsl
     have HB := Lib.hid hbl
     clear hsl hbl ht
     go_wp2_with (go_at_call 241; refine hC.mono ?_; rintro e w2 ⟨rfl, hb2⟩; have hA2 := keepHeap hb2 hAr; have hC2 := keepHeap hb2 hCr; have hB2 := keepHeap hb2 hBr; have kB := rowCells hB2; have fB := fun j => frozenHeap hB2 j; unfold bmv at kB)
     go_meet
     exact ⟨x, y, true, by unfold moveX; rw [hS]; exact HR.out.symm, rfl, HB.out, farHeap hA2 (by show w.heap.size ≠ w.heap.size + 1; omega) _, setHeap hB2, farHeap hC2 (by show w.heap.size + 1 + 1 ≠ w.heap.size + 1; omega) _, (hbel.trans (hb2.mono hsz)).setCell (p := ⟨w.heap.size + 1, 4, none⟩) (by show w.heap.size ≤ w.heap.size + 1; omega) _⟩
    | false =>
     rw [ht] at hC
     rw [ht, if_neg (by simp)] at hsl
     have HR := Lib.hid hsl
     have HB := Lib.hid ht
     clear hsl hbl ht
     go_wp2_with (go_at_call 241; refine hC.mono ?_; rintro e w2 ⟨rfl, hb2⟩; have hA2 := keepHeap hb2 hAr; have hC2 := keepHeap hb2 hCr; have hB2 := keepHeap hb2 hBr; have kB := rowCells hB2; have fB := fun j => frozenHeap hB2 j; unfold bmv at kB)
     go_roundw
     case rel => exact ⟨q, x + (dirI b.vx), y, rfl, by omega, by go_num, HR.out, HB.out, farHeap hA2 (by show w.heap.size ≠ w.heap.size + 1; omega) _, setHeap hB2, farHeap hC2 (by show w.heap.size + 1 + 1 ≠ w.heap.size + 1; omega) _, (hbel.trans (hb2.mono hsz)).setCell (p := ⟨w.heap.size + 1, 2, none⟩) (by show w.heap.size ≤ w.heap.size + 1; omega) _⟩
     case measure => simp [intOf]
   ·obtain rfl : n = 0 := by omega
    rw [slideN] at hsl
    have HR := Lib.hid hsl
    have HB := Lib.hid hbl
    clear hsl hbl
    go_wp2_with (fail)
    go_meet
    exact ⟨x, y, false, by unfold moveX; rw [hS]; exact HR.out.symm, rfl, HB.out, hAr, hBr, hCr, hbel⟩
 obtain ⟨x1, y1, t1, hX, rfl, hfr1, hA1, hB1, hC1, hb1⟩ := hcut
 have HX := Lib.hid hX
 clear hX hfree hA hB hC hB0 cA cB hW
 have hfree := hfr1
 clear hfr1
 have cB1 := rowCells hB1
 unfold bmv at cB1
 obtain ⟨W1, hW1⟩ : ∃ W1, W1 = wc := ⟨_, rfl⟩
 rw [← hW1] at hA1 hB1 hC1 hb1 cB1 ⊢
 clear hW1
 have hA := hA1
 have hB := hB1
 have hC := hC1
 have hB0 := hb1
 go_upto_if 41 with (fail)
 go_cut [8, 9] from 42 (fun s n wr => s = .int .i64 (dirI b.vy) ∧ n = .int .i64 (b.vy.natAbs : Int) ∧ wr = W1)
 case first =>
  by_cases hneg : b.vy < 0
  ·have E1 := Lib.hid (show (b.vy.natAbs : Int) = -b.vy by omega)
   have E2 := Lib.hid (show dirI b.vy = -1 by unfold dirI; rw [if_pos hneg])
   have hkeep := hneg
   go_wp2_with (fail)
   go_meet
   exact ⟨by rw [E2.out], by rw [E1.out], rfl⟩
  ·have E1 := Lib.hid (show (b.vy.natAbs : Int) = b.vy by omega)
   have E2 := Lib.hid (show dirI b.vy = 1 by unfold dirI; rw [if_neg hneg])
   have hkeep : 0 ≤ b.vy := by omega
   go_wp2_with (fail)
   go_meet
   exact ⟨by rw [E2.out], by rw [E1.out], rfl⟩
 obtain ⟨rfl, rfl, rfl⟩ := hcut
 clear cB1
 go_upto_block 2 with (fail)
 go_cut [7] from 44 (fun t wr => ∃ (x y : Int) (t2 : Bool), moveY L b x1 y1 = (x, y, t2) ∧ t = .bool (t1 || t2) ∧ blockB L x y (S : Int) = false ∧ wr.heap[w.heap.size]? = some (.cells #[.slice a L.length cap] 26 (0, 0)) ∧ wr.heap[w.heap.size + 1]? = some (.cells (bmv b x y (stop t1 b.vx) (stop t2 b.vy)) 100 (0, 0)) ∧ wr.heap[w.heap.size + 1 + 1]? = some (.cells bd0 100 (0, 0)) ∧ Below w.heap.size w wr)
 case first =>
  go_wp2_with (fail)
  go_loopw [7, 9] (fun t i wr => ∃ (n : Nat) (x y : Int), t = .bool t1 ∧ n ≤ 15 ∧ i = .int .i64 (n : Int) ∧ slideN L (S : Int) 0 (dirI b.vy) n x y = slideN L (S : Int) 0 (dirI b.vy) b.vy.natAbs x1 y1 ∧ blockB L x y (S : Int) = false ∧ wr.heap[w.heap.size]? = some (.cells #[.slice a L.length cap] 26 (0, 0)) ∧ wr.heap[w.heap.size + 1]? = some (.cells (bmv b x y (stop t1 b.vx) b.vy) 100 (0, 0)) ∧ wr.heap[w.heap.size + 1 + 1]? = some (.cells bd0 100 (0, 0)) ∧ Below w.heap.size w wr) (fun _ i _ => (intOf i).toNat)
  case atStart => exact ⟨b.vy.natAbs, x1, y1, rfl, by omega, rfl, rfl, hfree, hA, hB, hC, hB0⟩
  case round =>
   obtain ⟨n, x, y, rfl, hn, rfl, hsl, hbl, hAr, hBr, hCr, hbel⟩ := hrel
   have hsz := hbel.size
   by_cases hkn : 0 < n
   ·obtain ⟨hx0, hx1, hy0, hy1⟩ := blockB_place hg hbl
    obtain ⟨hd0, hd1⟩ := dirI_range b.vy
    have z0 : decide (0 < (n : Int)) = true := by simp; omega
    have hn15 : (n : Int) ≤ 15 := by omega
    have cA := rowCells hAr
    have cB := rowCells hBr
    unfold bmv at cB
    have hC := solid_spec (h.keep hbel) hg (x) (y + (dirI b.vy)) S hS1 hS2 (by omega) (by omega) (by omega) (by omega)
    obtain ⟨q, rfl⟩ : ∃ q, n = q + 1 := ⟨n - 1, by omega⟩
    rw [slideN] at hsl
    simp only [Int.add_zero] at hsl
    cases ht : blockB L (x) (y + (dirI b.vy)) (S : Int) with
    | true =>
     rw [ht] at hC
     rw [ht, if_pos rfl] at hsl
     have HR := Lib.hid hsl
     have HB := Lib.hid hbl
     clear hsl hbl ht
     go_wp2_with (go_at_call 241; refine hC.mono ?_; rintro e w2 ⟨rfl, hb2⟩; have hA2 := keepHeap hb2 hAr; have hC2 := keepHeap hb2 hCr; have hB2 := keepHeap hb2 hBr; have kB := rowCells hB2; have fB := fun j => frozenHeap hB2 j; unfold bmv at kB)
     go_meet
     exact ⟨x, y, true, by unfold moveY; rw [hS]; exact HR.out.symm, by rw [Bool.or_true], HB.out, farHeap hA2 (by show w.heap.size ≠ w.heap.size + 1; omega) _, setHeap hB2, farHeap hC2 (by show w.heap.size + 1 + 1 ≠ w.heap.size + 1; omega) _, (hbel.trans (hb2.mono hsz)).setCell (p := ⟨w.heap.size + 1, 5, none⟩) (by show w.heap.size ≤ w.heap.size + 1; omega) _⟩
    | false =>
     rw [ht] at hC
     rw [ht, if_neg (by simp)] at hsl
     have HR := Lib.hid hsl
     have HB := Lib.hid ht
     clear hsl hbl ht
     go_wp2_with (go_at_call 241; refine hC.mono ?_; rintro e w2 ⟨rfl, hb2⟩; have hA2 := keepHeap hb2 hAr; have hC2 := keepHeap hb2 hCr; have hB2 := keepHeap hb2 hBr; have kB := rowCells hB2; have fB := fun j => frozenHeap hB2 j; unfold bmv at kB)
     go_roundw
     case rel => exact ⟨q, x, y + (dirI b.vy), rfl, by omega, by go_num, HR.out, HB.out, farHeap hA2 (by show w.heap.size ≠ w.heap.size + 1; omega) _, setHeap hB2, farHeap hC2 (by show w.heap.size + 1 + 1 ≠ w.heap.size + 1; omega) _, (hbel.trans (hb2.mono hsz)).setCell (p := ⟨w.heap.size + 1, 3, none⟩) (by show w.heap.size ≤ w.heap.size + 1; omega) _⟩
     case measure => simp [intOf]
   ·obtain rfl : n = 0 := by omega
    rw [slideN] at hsl
    have HR := Lib.hid hsl
    have HB := Lib.hid hbl
    clear hsl hbl
    go_wp2_with (fail)
    go_meet
    exact ⟨x, y, false, by unfold moveY; rw [hS]; exact HR.out.symm, by rw [Bool.or_false], HB.out, hAr, hBr, hCr, hbel⟩
 obtain ⟨x2, y2, t2, hY, rfl, hfr2, hA2, hB2, hC2, hb2⟩ := hcut
 have HY := Lib.hid hY
 have cB2 := rowCells hB2
 have cC2 := rowCells hC2
 have fC2 := fun j => frozenHeap hC2 j
 unfold bmv at cB2
 unfold bd0 at cC2
 clear hY hA1 hB1 hC1 hb1 hA hB hC hB0 hA2
 go_wp2_with (fail)
 have hP := putB_heap hC2 rfl b x2 y2 (stop t1 b.vx) (stop t2 b.vy)
 have hL := load_bd hP rfl
 have hbP := putB_below hb2 (c := w.heap.size + 1 + 1) (by omega) b x2 y2 (stop t1 b.vx) (stop t2 b.vy)
 unfold putB at hL hbP
 refine bodyPost_ret (v := .tuple #[.agg (bmv b x2 y2 (stop t1 b.vx) (stop t2 b.vy)), .bool (t1 || t2)]) (results_two rfl _ _ _ _ _ rfl rfl hL) rfl ⟨?_, hbP⟩
 have e1 := HX.out
 have e2 := HY.out
 have eM : moveB L b = ⟨b.kind, b.owner, x2, y2, stop t1 b.vx, stop t2 b.vy, b.aim, b.life, b.timer⟩ := by unfold moveB; rw [e1]; simp only; rw [e2]
 have eT : moveT L b = (t1 || t2) := by unfold moveT; rw [e1]; simp only; rw [e2]
 rw [eM, eT]; rfl
end Go.Proofs.YtnlonkkbjkfkmaaGreatDoor
namespace Go.Proofs.YtnlonkkbjkfkmaaGreatDoor
open Go.RowKit
set_option linter.all false
section
variable {P : Program} {ops : Array Oper} {Q : Exit → Act → World → Prop} {md : Region.Mode} {S : World → Prop}
theorem wpAnyH_abs {fuel : Nat} {listed : Array Bool} {a : Act} {w : World} (hQ : ∀ c (a : Act) d v w, Q (.panic c) (a.put d v) w → Q (.panic c) a w)
  (h : ∀ Q' : Exit → Act → World → Prop, (∀ c (a : Act) d v w, Q' (.panic c) (a.put d v) w → Q' (.panic c) a w) → (∀ a w, Q .normal a w → Q' .normal a w) → wpAnyH P md ops Q' S fuel listed a w) : wpAnyH P md ops Q S fuel listed a w := h Q hQ (fun _ _ h => h)
theorem wpAnyH_listed {fuel : Nat} {listed : Array Bool} {a : Act} {w : World} (l' : Array Bool) (hl : listed = l') (h : wpAnyH P md ops Q S fuel l' a w) : wpAnyH P md ops Q S fuel listed a w := by
 subst hl; exact h
end
end Go.Proofs.YtnlonkkbjkfkmaaGreatDoor
