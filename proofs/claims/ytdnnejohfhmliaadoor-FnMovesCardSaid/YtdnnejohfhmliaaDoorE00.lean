/-
  What the merged texts leave out: Level, Solid, SolidA, Slide, LvLaw, MoveI, MoveP, MvF, Fmv.
-/
import Derived.Test.YtdnnejohfhmliaaDoorM49
import Derived.Lib.SmallJoins
import Derived.Deep.Strs
import Derived.Deep.Cut
namespace Go.Proofs.YtdnnejohfhmliaaDoor
open Go.RowKit Go.Joins Go.ChangeShapes Go.WideShapes Go.Deep
set_option linter.all false
def totalS (ls : List (List UInt8)) : Nat := (ls.map List.length).sum
end Go.Proofs.YtdnnejohfhmliaaDoor
namespace Go.Proofs.YtdnnejohfhmliaaDoor
open Go.RowKit
set_option linter.all false
def solidB (L : Rowz) (x y s : Int) : Bool := !levelB L || (!inR s 1 16 || blockB L x y s)
end Go.Proofs.YtdnnejohfhmliaaDoor
namespace Go.Proofs.YtdnnejohfhmliaaDoor
open Go.RowKit
set_option linter.all false
theorem solidB_level {L : Rowz} {x y s : Int} (h : levelB L = false) : solidB L x y s = true := by unfold solidB; rw [h]; rfl
theorem solidB_size {L : Rowz} {x y s : Int} (h : inR s 1 16 = false) : solidB L x y s = true := by unfold solidB; rw [h]; simp
theorem solidB_in {L : Rowz} {x y s : Int} (h : levelB L = true) (h2 : inR s 1 16 = true) : solidB L x y s = blockB L x y s := by unfold solidB; rw [h, h2]; rfl
set_option maxHeartbeats 2000000 in
theorem solidAt_impl {w : World} {v : Value} {L : Rowz} (h : RdS w v L) (hs : Sane L) (x y s : Int) (hx : I64 x) (hy : I64 y) :
    Calls Tryd.prog 12 #[.agg #[v], .int .i64 x, .int .i64 y, .int .i64 s] w fun e w' => e = .returned (.bool (solidB L x y s)) ∧ Below w.heap.size w w' := by
  obtain ⟨a, cap, rfl, -⟩ := id h
  obtain ⟨W1, hW, hA1, hb1⟩ : ∃ W1, w.alloc (.cells #[.slice a L.length cap] 26) = W1 ∧ W1.heap[w.heap.size]? = some (.cells #[.slice a L.length cap] 26 (0, 0)) ∧ Below w.heap.size w W1 := ⟨_, rfl, heap_alloc_new w _, below1 _ _⟩
  have cA1 := rowCells hA1
  have r1 := h.keep hb1
  have hs1 := hb1.size
  go_enter Tryd.func12, Tryd.ntmps12
  go_wp2_with (fail)
  clear hW
  refine (levelOk_impl r1 hs).mono ?_
  rintro e w2 ⟨rfl, hb2⟩
  have hb12 := hb1.trans (hb2.mono hs1)
  have cA2 := rowCells (keepHeap hb2 hA1)
  have r2 := h.keep hb12
  have hs2 := hb12.size
  clear cA1
  cases hl : levelB L with
  | false =>
    have HF := Lib.hid (solidB_level (x := x) (y := y) (s := s) hl)
    clear hl
    go_wp2_with (fail)
    go_ret
    exact ⟨by rw [HF.out]; rfl, hb12⟩
  | true =>
    have hg : Good L := levelB_facts hl
    cases hq : inR s 1 16 with
    | false =>
      have HF := Lib.hid (solidB_size (L := L) (x := x) (y := y) hq)
      have Q := Lib.hid hq
      clear hl hq
      go_wp2_with (go_at_call 31; refine (within_impl _ _ _ _).mono ?_; rintro e w3 ⟨rfl, rfl⟩; rw [Q.out])
      go_ret
      exact ⟨by rw [HF.out]; rfl, hb12⟩
    | true =>
      have HF := Lib.hid (solidB_in (x := x) (y := y) hl hq)
      have hq2 := (inR_iff _ _ _).1 hq
      obtain ⟨S, rfl⟩ := Int.eq_ofNat_of_zero_le (a := s) (by omega)
      have Q := Lib.hid hq
      have hS1 : 1 ≤ S := by omega
      have hS2 : S ≤ 16 := by omega
      clear hl hq hq2
      go_wp2_with (go_at_call 31; refine (within_impl _ _ _ _).mono ?_; rintro e w3 ⟨rfl, rfl⟩; rw [Q.out])
      refine (blocked_impl r2 hg x y S hS1 hS2 hx.2 hy.2 hx.1 hy.1).mono ?_
      rintro e w3 ⟨rfl, hb3⟩
      go_wp2_with (fail)
      go_ret
      exact ⟨by rw [HF.out]; rfl, hb12.trans (hb3.mono hs2)⟩

end Go.Proofs.YtdnnejohfhmliaaDoor
namespace Go.Proofs.YtdnnejohfhmliaaDoor
open Go.RowKit
set_option linter.all false
set_option maxRecDepth 100000 in
set_option maxHeartbeats 4000000 in
theorem slide_impl {w : World} {v : Value} {L : Rowz} (h : RdS w v L) (hg : Good L) (b : Bd) (n : Nat) (hn : n ≤ 15) (dx dy : Int) (hdx : -1 ≤ dx ∧ dx ≤ 1) (hdy : -1 ≤ dy ∧ dy ≤ 1) (S : Nat) (hS : sizeI b.kind = (S : Int)) (hS1 : 1 ≤ S) (hS2 : S ≤ 16) (hfree : blockB L b.x b.y (S : Int) = false) :
    Calls Tryd.prog 56 #[.agg #[v], .agg #[.int .i64 b.kind, .int .i64 b.owner, .int .i64 b.x, .int .i64 b.y, .int .i64 b.vx, .int .i64 b.vy, .int .i64 b.aim, .int .i64 b.life, .int .i64 b.timer], .int .i64 (n : Int), .int .i64 dx, .int .i64 dy] w fun e w' => ∃ x y t, slideN L (S : Int) dx dy n b.x b.y = (x, y, t) ∧ e = .returned (.tuple #[.agg (bmv b x y b.vx b.vy), .bool t]) ∧ blockB L x y (S : Int) = false ∧ Below w.heap.size w w' := by
  obtain ⟨a, cap, rfl, -⟩ := id h
  obtain ⟨W0, hW, hA, hB, hC, hB0, hS0⟩ := rows3 w #[.slice a L.length cap] #[.int .i64 b.kind, .int .i64 b.owner, .int .i64 b.x, .int .i64 b.y, .int .i64 b.vx, .int .i64 b.vy, .int .i64 b.aim, .int .i64 b.life, .int .i64 b.timer] bd0 26 36 36
  have cA := rowCells hA
  have cB := rowCells hB
  unfold bd0 at hW
  go_enter Tryd.func56, Tryd.ntmps56
  go_wp2_with (fail)
  clear hW
  refine (sizeOf_impl _ _).mono ?_
  rintro e w1 ⟨rfl, hb1⟩
  have hA1 := keepHeap hb1 hA
  have hB1 := keepHeap hb1 hB
  have hC1 := keepHeap hb1 hC
  have hb01 := hB0.trans (hb1.mono hB0.size)
  rw [hS]
  clear cA cB hA hB hC hB0 hb1
  go_wp2_with (fail)
  go_loopw [17] (fun i wr => ∃ (k : Nat) (x y : Int), k ≤ n ∧ i = .int .i64 (k : Int) ∧ slideN L (S : Int) dx dy (n - k) x y = slideN L (S : Int) dx dy n b.x b.y ∧ blockB L x y (S : Int) = false ∧ wr.heap[w.heap.size]? = some (.cells #[.slice a L.length cap] 26 (0, 0)) ∧ wr.heap[w.heap.size + 1]? = some (.cells (bmv b x y b.vx b.vy) 36 (0, 0)) ∧ wr.heap[w.heap.size + 1 + 1]? = some (.cells bd0 36 (0, 0)) ∧ Below w.heap.size w wr) (fun i _ => n - (intOf i).toNat)
  case atStart => exact ⟨0, b.x, b.y, Nat.zero_le _, rfl, rfl, hfree, hA1, hB1, hC1, hb01⟩
  case round =>
    obtain ⟨k, x, y, hk, rfl, hsl, hbl, hAr, hBr, hCr, hbel⟩ := hrel
    have hsz := hbel.size
    have hclt : w.heap.size + 1 + 1 < wr.heap.size := (Array.getElem?_eq_some_iff.1 hCr).1
    by_cases hkn : k < n
    · obtain ⟨hx0, hx1, hy0, hy1⟩ := blockB_place hg hbl
      have z0 : decide ((k : Int) < (n : Int)) = true := by simp; omega
      have hkn' : (k : Int) < (n : Int) := by omega
      have cA := rowCells hAr
      have cB := rowCells hBr
      unfold bmv at cB
      have hn15 : (n : Int) ≤ 15 := by omega
      have hC := blocked_impl (h.keep hbel) hg (x + dx) (y + dy) S hS1 hS2 (by omega) (by omega) (by omega) (by omega)
      obtain ⟨hdx0, hdx1⟩ := hdx
      obtain ⟨hdy0, hdy1⟩ := hdy
      have HS := Lib.hid hsl
      rw [show n - k = (n - (k + 1)) + 1 by omega, slideN] at hsl
      clear hb01
      cases ht : blockB L (x + dx) (y + dy) (S : Int) with
      | true =>
        rw [ht] at hC
        rw [ht, if_pos rfl] at hsl
        have HR := Lib.hid hsl
        have HB := Lib.hid hbl
        clear hsl hbl ht
        go_wp2_with (go_at_call 32; refine hC.mono ?_; rintro e w2 ⟨rfl, hb2⟩; have kB := rowCells (keepHeap hb2 hBr); have hC2 := keepHeap hb2 hCr; have kC := rowCells hC2; unfold bd0 at kC; have fC := fun j => frozenHeap hC2 j; unfold bmv at kB)
        have hP := putB_heap hC2 rfl b x y b.vx b.vy
        have hL := load_bd hP rfl
        have hbP := putB_below (hbel.trans (hb2.mono hsz)) (c := w.heap.size + 1 + 1) (by omega) b x y b.vx b.vy
        unfold putB at hL hbP
        refine bodyPost_ret (v := .tuple #[.agg (bmv b x y b.vx b.vy), .bool true]) (results_two rfl _ _ _ _ _ rfl rfl hL) rfl ⟨x, y, true, HR.out.symm, rfl, HB.out, hbP⟩
      | false =>
        rw [ht] at hC
        rw [ht, if_neg (by simp)] at hsl
        have HR := Lib.hid hsl
        have HB := Lib.hid ht
        clear hsl hbl ht
        go_wp2_with (go_at_call 32; refine hC.mono ?_; rintro e w2 ⟨rfl, hb2⟩; have hA2 := keepHeap hb2 hAr; have hC2 := keepHeap hb2 hCr; have hB2 := keepHeap hb2 hBr; have kB := rowCells hB2; have fB := fun j => frozenHeap hB2 j; unfold bmv at kB)
        go_roundw
        case rel => exact ⟨k + 1, x + dx, y + dy, by omega, by go_num, HR.out, HB.out, farHeap (farHeap hA2 (by show w.heap.size ≠ w.heap.size + 1; omega) _) (by show w.heap.size ≠ w.heap.size + 1; omega) _, setHeap (setHeap hB2), farHeap (farHeap hC2 (by show w.heap.size + 1 + 1 ≠ w.heap.size + 1; omega) _) (by show w.heap.size + 1 + 1 ≠ w.heap.size + 1; omega) _, ((hbel.trans (hb2.mono hsz)).setCell (p := ⟨w.heap.size + 1, 2, none⟩) (by show w.heap.size ≤ w.heap.size + 1; omega) _).setCell (p := ⟨w.heap.size + 1, 3, none⟩) (by show w.heap.size ≤ w.heap.size + 1; omega) _⟩
        case measure => simp [intOf]; omega
    · have e : k = n := by omega
      subst e
      rw [Nat.sub_self, slideN] at hsl
      have HR := Lib.hid hsl
      have HB := Lib.hid hbl
      have z0 : decide ((k : Int) < (k : Int)) = false := by simp
      have kB := rowCells hBr
      have kC := rowCells hCr
      have fC := fun j => frozenHeap hCr j
      unfold bmv at kB
      unfold bd0 at kC
      clear hsl hbl
      go_wp2_with (fail)
      have hP := putB_heap hCr rfl b x y b.vx b.vy
      have hL := load_bd hP rfl
      have hbP := putB_below hbel (c := w.heap.size + 1 + 1) (by omega) b x y b.vx b.vy
      unfold putB at hL hbP
      refine bodyPost_ret (v := .tuple #[.agg (bmv b x y b.vx b.vy), .bool false]) (results_two rfl _ _ _ _ _ rfl rfl hL) rfl ⟨x, y, false, HR.out.symm, rfl, HB.out, hbP⟩

end Go.Proofs.YtdnnejohfhmliaaDoor
namespace Go.Proofs.YtdnnejohfhmliaaDoor
open Go.RowKit
set_option linter.all false
theorem Sane.small {ls : List (List UInt8)} {r : Int} (h0 : 0 ≤ r) (h : r = 1048576 - (ls.length : Int) - (totalS ls : Int)) : ls.length ≤ 1048576 ∧ totalS ls ≤ 1048576 := by omega

end Go.Proofs.YtdnnejohfhmliaaDoor
namespace Go.Proofs.YtdnnejohfhmliaaDoor
open Go.RowKit
set_option linter.all false
theorem pointsOf_impl (v : Int) (hv : -15 ≤ v ∧ v ≤ 15) (w : World) : Calls Tryd.prog 55 #[.int .i64 v] w fun e w' => e = .returned (.tuple #[.int .i64 (v.natAbs : Int), .int .i64 (dirI v)]) ∧ w = w' := by
  obtain ⟨h0, h1⟩ := hv
  by_cases h : v < 0
  · have z0 : decide (v < 0) = true := by simpa using h
    have e1 : (v.natAbs : Int) = -v := by omega
    have e2 : dirI v = -1 := by unfold dirI; rw [if_pos h]
    rw [e1, e2]
    clear e1 e2
    go_enter Tryd.func55, Tryd.ntmps55
    go_wp2_with (fail)
    go_ret2
    exact ⟨rfl, rfl⟩
  · have z0 : decide (v < 0) = false := by simpa using h
    have e1 : (v.natAbs : Int) = v := by omega
    have e2 : dirI v = 1 := by unfold dirI; rw [if_neg h]
    rw [e1, e2]
    clear e1 e2
    go_enter Tryd.func55, Tryd.ntmps55
    go_wp2_with (fail)
    go_ret2
    exact ⟨rfl, rfl⟩
set_option maxRecDepth 100000 in
set_option maxHeartbeats 4000000 in
theorem moveIn_impl {w : World} {v : Value} {L : Rowz} (h : RdS w v L) (hg : Good L) (b : Bd) (S : Nat) (hS : sizeI b.kind = (S : Int)) (hS1 : 1 ≤ S) (hS2 : S ≤ 16) (hfree : blockB L b.x b.y (S : Int) = false) (hvx : -15 ≤ b.vx ∧ b.vx ≤ 15) (hvy : -15 ≤ b.vy ∧ b.vy ≤ 15) :
    Calls Tryd.prog 29 #[.agg #[v], .agg #[.int .i64 b.kind, .int .i64 b.owner, .int .i64 b.x, .int .i64 b.y, .int .i64 b.vx, .int .i64 b.vy, .int .i64 b.aim, .int .i64 b.life, .int .i64 b.timer]] w fun e w' => e = .returned (.tuple #[bdV (moveB L b), .bool (moveT L b)]) ∧ Below w.heap.size w w' := by
  obtain ⟨a, cap, rfl, -⟩ := id h
  obtain ⟨W0, hW, hA, hB, hC, hB0, hS0⟩ := rows3 w #[.slice a L.length cap] #[.int .i64 b.kind, .int .i64 b.owner, .int .i64 b.x, .int .i64 b.y, .int .i64 b.vx, .int .i64 b.vy, .int .i64 b.aim, .int .i64 b.life, .int .i64 b.timer] bd0 26 36 36
  have cA := rowCells hA
  have cB := rowCells hB
  have fB := fun j => frozenHeap hB j
  unfold bd0 at hW
  have S1 := slide_impl (h.keep hB0) hg b b.vx.natAbs (by omega) (dirI b.vx) 0 (dirI_range _) (by omega) S hS hS1 hS2 hfree
  go_enter Tryd.func29, Tryd.ntmps29
  go_wp2_with (go_at_call 55; refine (pointsOf_impl _ hvx _).mono ?_; rintro e w1 ⟨rfl, rfl⟩)
  refine S1.mono ?_
  rintro e w2 ⟨x1, y1, t1, hr1, rfl, hfr1, hb2⟩
  have hA2 := keepHeap hb2 hA
  have hB2 := keepHeap hb2 hB
  have hC2 := keepHeap hb2 hC
  have cB2 := rowCells hB2
  have fB2 := fun j => frozenHeap hB2 j
  have hb02 := hB0.trans (hb2.mono hB0.size)
  unfold bmv
  clear cA cB fB hA hB hC S1
  have HX := Lib.hid (show moveX L b = (x1, y1, t1) by unfold moveX; rw [hS]; exact hr1)
  clear hr1 hb2 hW
  cases t1 with
  | false =>
    go_upto_region 5 with (fail)
    have hB3 := putB_heap hB2 rfl b x1 y1 b.vx b.vy
    have hA3 := putB_far hA2 (show w.heap.size ≠ w.heap.size + 1 by omega) b x1 y1 b.vx b.vy
    have hC3 := putB_far hC2 (show w.heap.size + 1 + 1 ≠ w.heap.size + 1 by omega) b x1 y1 b.vx b.vy
    have hb3 := putB_below hb02 (c := w.heap.size + 1) (by omega) b x1 y1 b.vx b.vy
    obtain ⟨W3, hW3⟩ : ∃ W3, putB w2 (w.heap.size + 1) b x1 y1 b.vx b.vy = W3 := ⟨_, rfl⟩
    rw [hW3] at hB3 hA3 hC3 hb3
    unfold putB at hW3
    rw [hW3]
    have hB3' : W3.heap[w.heap.size + 1]? = some (.cells (bmv b x1 y1 b.vx b.vy) 36 (0, 0)) := hB3
    have cA3 := rowCells hA3
    have cB3 := rowCells hB3'
    have fB3 := fun j => frozenHeap hB3' j
    unfold bmv at cB3
    have S2 := slide_impl (h.keep hb3) hg ⟨b.kind, b.owner, x1, y1, b.vx, b.vy, b.aim, b.life, b.timer⟩ b.vy.natAbs (by omega) 0 (dirI b.vy) (by omega) (dirI_range _) S hS hS1 hS2 hfr1
    clear hW3 cB2 fB2 hB3 hA2 hB2 hC2 hb02
    go_wp2_with (fail)
    refine (pointsOf_impl _ hvy _).mono ?_
    rintro e w4 ⟨rfl, rfl⟩
    go_wp2_with (fail)
    refine S2.mono ?_
    rintro e w5 ⟨x2, y2, t2, hr2, rfl, hfr2, hb5⟩
    have HY := Lib.hid (show moveY L b x1 y1 = (x2, y2, t2) by unfold moveY; rw [hS]; exact hr2)
    have hB5 := keepHeap hb5 hB3'
    have hC5 := keepHeap hb5 hC3
    have cB5 := rowCells hB5
    have fB5 := fun j => frozenHeap hB5 j
    have hb05 := hb3.trans (hb5.mono hb3.size)
    unfold bmv at cB5 ⊢
    clear cA3 cB3 fB3 S2 hr2 hb5 hb3
    cases t2 with
    | false =>
      go_upto_region 9 with (fail)
      have hB6 := putB_heap hB5 rfl b x2 y2 b.vx b.vy
      have hC6 := putB_far hC5 (show w.heap.size + 1 + 1 ≠ w.heap.size + 1 by omega) b x2 y2 b.vx b.vy
      have hb6 := putB_below hb05 (c := w.heap.size + 1) (by omega) b x2 y2 b.vx b.vy
      obtain ⟨W7, hW7⟩ : ∃ W7, putB w5 (w.heap.size + 1) b x2 y2 b.vx b.vy = W7 := ⟨_, rfl⟩
      rw [hW7] at hB6 hC6 hb6
      unfold putB at hW7
      rw [hW7]
      have hB7 : W7.heap[w.heap.size + 1]? = some (.cells (bmv b x2 y2 b.vx b.vy) 36 (0, 0)) := hB6
      have cB7 := rowCells hB7
      have cC7 := rowCells hC6
      have fC7 := fun j => frozenHeap hC6 j
      unfold bmv at cB7
      unfold bd0 at cC7
      clear hW7 cB5 fB5 hB6 hB5 hC5 hb05
      go_wp2_with (fail)
      have hP := putB_heap hC6 rfl b x2 y2 b.vx b.vy
      have hL := load_bd hP rfl
      have hbP := putB_below hb6 (c := w.heap.size + 1 + 1) (by omega) b x2 y2 b.vx b.vy
      unfold putB at hL hbP
      refine bodyPost_ret (v := .tuple #[.agg (bmv b x2 y2 b.vx b.vy), .bool false]) (results_two rfl _ _ _ _ _ rfl rfl hL) rfl ⟨?_, hbP⟩
      have e1 := HX.out
      have e2 := HY.out
      have eM : moveB L b = ⟨b.kind, b.owner, x2, y2, b.vx, b.vy, b.aim, b.life, b.timer⟩ := by unfold moveB; rw [e1]; simp only; rw [e2]; rfl
      have eT : moveT L b = false := by unfold moveT; rw [e1]; simp only; rw [e2]; rfl
      rw [eM, eT]; rfl
    | true =>
      go_upto_region 9 with (fail)
      have hB6 := setHeap (k := 5) (v := .int .i64 0) (putB_heap hB5 rfl b x2 y2 b.vx b.vy)
      have hC6 := farHeap (putB_far hC5 (show w.heap.size + 1 + 1 ≠ w.heap.size + 1 by omega) b x2 y2 b.vx b.vy) (p := ⟨w.heap.size + 1, 5, none⟩) (by show w.heap.size + 1 + 1 ≠ w.heap.size + 1; omega) (.int .i64 0)
      have hb6 := (putB_below hb05 (c := w.heap.size + 1) (by omega) b x2 y2 b.vx b.vy).setCell (p := ⟨w.heap.size + 1, 5, none⟩) (by show w.heap.size ≤ w.heap.size + 1; omega) (.int .i64 0)
      obtain ⟨W7, hW7⟩ : ∃ W7, (putB w5 (w.heap.size + 1) b x2 y2 b.vx b.vy).setCell ⟨w.heap.size + 1, 5, none⟩ (.int .i64 0) = W7 := ⟨_, rfl⟩
      rw [hW7] at hB6 hC6 hb6
      unfold putB at hW7
      rw [hW7]
      have hB7 : W7.heap[w.heap.size + 1]? = some (.cells (bmv b x2 y2 b.vx 0) 36 (0, 0)) := hB6
      have cB7 := rowCells hB7
      have cC7 := rowCells hC6
      have fC7 := fun j => frozenHeap hC6 j
      unfold bmv at cB7
      unfold bd0 at cC7
      clear hW7 cB5 fB5 hB6 hB5 hC5 hb05
      go_wp2_with (fail)
      have hP := putB_heap hC6 rfl b x2 y2 b.vx 0
      have hL := load_bd hP rfl
      have hbP := putB_below hb6 (c := w.heap.size + 1 + 1) (by omega) b x2 y2 b.vx 0
      unfold putB at hL hbP
      refine bodyPost_ret (v := .tuple #[.agg (bmv b x2 y2 b.vx 0), .bool true]) (results_two rfl _ _ _ _ _ rfl rfl hL) rfl ⟨?_, hbP⟩
      have e1 := HX.out
      have e2 := HY.out
      have eM : moveB L b = ⟨b.kind, b.owner, x2, y2, b.vx, 0, b.aim, b.life, b.timer⟩ := by unfold moveB; rw [e1]; simp only; rw [e2]; rfl
      have eT : moveT L b = true := by unfold moveT; rw [e1]; simp only; rw [e2]; rfl
      rw [eM, eT]; rfl
  | true =>
    go_upto_region 5 with (fail)
    have hB3 := setHeap (k := 4) (v := .int .i64 0) (putB_heap hB2 rfl b x1 y1 b.vx b.vy)
    have hA3 := farHeap (putB_far hA2 (show w.heap.size ≠ w.heap.size + 1 by omega) b x1 y1 b.vx b.vy) (p := ⟨w.heap.size + 1, 4, none⟩) (by show w.heap.size ≠ w.heap.size + 1; omega) (.int .i64 0)
    have hC3 := farHeap (putB_far hC2 (show w.heap.size + 1 + 1 ≠ w.heap.size + 1 by omega) b x1 y1 b.vx b.vy) (p := ⟨w.heap.size + 1, 4, none⟩) (by show w.heap.size + 1 + 1 ≠ w.heap.size + 1; omega) (.int .i64 0)
    have hb3 := (putB_below hb02 (c := w.heap.size + 1) (by omega) b x1 y1 b.vx b.vy).setCell (p := ⟨w.heap.size + 1, 4, none⟩) (by show w.heap.size ≤ w.heap.size + 1; omega) (.int .i64 0)
    obtain ⟨W3, hW3⟩ : ∃ W3, (putB w2 (w.heap.size + 1) b x1 y1 b.vx b.vy).setCell ⟨w.heap.size + 1, 4, none⟩ (.int .i64 0) = W3 := ⟨_, rfl⟩
    rw [hW3] at hB3 hA3 hC3 hb3
    unfold putB at hW3
    rw [hW3]
    have hB3' : W3.heap[w.heap.size + 1]? = some (.cells (bmv b x1 y1 0 b.vy) 36 (0, 0)) := hB3
    have cA3 := rowCells hA3
    have cB3 := rowCells hB3'
    have fB3 := fun j => frozenHeap hB3' j
    unfold bmv at cB3
    have S2 := slide_impl (h.keep hb3) hg ⟨b.kind, b.owner, x1, y1, 0, b.vy, b.aim, b.life, b.timer⟩ b.vy.natAbs (by omega) 0 (dirI b.vy) (by omega) (dirI_range _) S hS hS1 hS2 hfr1
    clear hW3 cB2 fB2 hB3 hA2 hB2 hC2 hb02
    go_wp2_with (fail)
    refine (pointsOf_impl _ hvy _).mono ?_
    rintro e w4 ⟨rfl, rfl⟩
    go_wp2_with (fail)
    refine S2.mono ?_
    rintro e w5 ⟨x2, y2, t2, hr2, rfl, hfr2, hb5⟩
    have HY := Lib.hid (show moveY L b x1 y1 = (x2, y2, t2) by unfold moveY; rw [hS]; exact hr2)
    have hB5 := keepHeap hb5 hB3'
    have hC5 := keepHeap hb5 hC3
    have cB5 := rowCells hB5
    have fB5 := fun j => frozenHeap hB5 j
    have hb05 := hb3.trans (hb5.mono hb3.size)
    unfold bmv at cB5 ⊢
    clear cA3 cB3 fB3 S2 hr2 hb5 hb3
    cases t2 with
    | false =>
      go_upto_region 9 with (fail)
      have hB6 := putB_heap hB5 rfl b x2 y2 0 b.vy
      have hC6 := putB_far hC5 (show w.heap.size + 1 + 1 ≠ w.heap.size + 1 by omega) b x2 y2 0 b.vy
      have hb6 := putB_below hb05 (c := w.heap.size + 1) (by omega) b x2 y2 0 b.vy
      obtain ⟨W7, hW7⟩ : ∃ W7, putB w5 (w.heap.size + 1) b x2 y2 0 b.vy = W7 := ⟨_, rfl⟩
      rw [hW7] at hB6 hC6 hb6
      unfold putB at hW7
      rw [hW7]
      have hB7 : W7.heap[w.heap.size + 1]? = some (.cells (bmv b x2 y2 0 b.vy) 36 (0, 0)) := hB6
      have cB7 := rowCells hB7
      have cC7 := rowCells hC6
      have fC7 := fun j => frozenHeap hC6 j
      unfold bmv at cB7
      unfold bd0 at cC7
      clear hW7 cB5 fB5 hB6 hB5 hC5 hb05
      go_wp2_with (fail)
      have hP := putB_heap hC6 rfl b x2 y2 0 b.vy
      have hL := load_bd hP rfl
      have hbP := putB_below hb6 (c := w.heap.size + 1 + 1) (by omega) b x2 y2 0 b.vy
      unfold putB at hL hbP
      refine bodyPost_ret (v := .tuple #[.agg (bmv b x2 y2 0 b.vy), .bool true]) (results_two rfl _ _ _ _ _ rfl rfl hL) rfl ⟨?_, hbP⟩
      have e1 := HX.out
      have e2 := HY.out
      have eM : moveB L b = ⟨b.kind, b.owner, x2, y2, 0, b.vy, b.aim, b.life, b.timer⟩ := by unfold moveB; rw [e1]; simp only; rw [e2]; rfl
      have eT : moveT L b = true := by unfold moveT; rw [e1]; simp only; rw [e2]; rfl
      rw [eM, eT]; rfl
    | true =>
      go_upto_region 9 with (fail)
      have hB6 := setHeap (k := 5) (v := .int .i64 0) (putB_heap hB5 rfl b x2 y2 0 b.vy)
      have hC6 := farHeap (putB_far hC5 (show w.heap.size + 1 + 1 ≠ w.heap.size + 1 by omega) b x2 y2 0 b.vy) (p := ⟨w.heap.size + 1, 5, none⟩) (by show w.heap.size + 1 + 1 ≠ w.heap.size + 1; omega) (.int .i64 0)
      have hb6 := (putB_below hb05 (c := w.heap.size + 1) (by omega) b x2 y2 0 b.vy).setCell (p := ⟨w.heap.size + 1, 5, none⟩) (by show w.heap.size ≤ w.heap.size + 1; omega) (.int .i64 0)
      obtain ⟨W7, hW7⟩ : ∃ W7, (putB w5 (w.heap.size + 1) b x2 y2 0 b.vy).setCell ⟨w.heap.size + 1, 5, none⟩ (.int .i64 0) = W7 := ⟨_, rfl⟩
      rw [hW7] at hB6 hC6 hb6
      unfold putB at hW7
      rw [hW7]
      have hB7 : W7.heap[w.heap.size + 1]? = some (.cells (bmv b x2 y2 0 0) 36 (0, 0)) := hB6
      have cB7 := rowCells hB7
      have cC7 := rowCells hC6
      have fC7 := fun j => frozenHeap hC6 j
      unfold bmv at cB7
      unfold bd0 at cC7
      clear hW7 cB5 fB5 hB6 hB5 hC5 hb05
      go_wp2_with (fail)
      have hP := putB_heap hC6 rfl b x2 y2 0 0
      have hL := load_bd hP rfl
      have hbP := putB_below hb6 (c := w.heap.size + 1 + 1) (by omega) b x2 y2 0 0
      unfold putB at hL hbP
      refine bodyPost_ret (v := .tuple #[.agg (bmv b x2 y2 0 0), .bool true]) (results_two rfl _ _ _ _ _ rfl rfl hL) rfl ⟨?_, hbP⟩
      have e1 := HX.out
      have e2 := HY.out
      have eM : moveB L b = ⟨b.kind, b.owner, x2, y2, 0, 0, b.aim, b.life, b.timer⟩ := by unfold moveB; rw [e1]; simp only; rw [e2]; rfl
      have eT : moveT L b = true := by unfold moveT; rw [e1]; simp only; rw [e2]; rfl
      rw [eM, eT]; rfl

end Go.Proofs.YtdnnejohfhmliaaDoor
namespace Go.Proofs.YtdnnejohfhmliaaDoor
open Go.RowKit
set_option linter.all false
/-- What MoveBody leaves. -/
def mbB (L : Rowz) (b : Bd) : Bd := if solidB L b.x b.y (sizeI b.kind) || !spdB b then b else moveB L b
def mbT (L : Rowz) (b : Bd) : Bool := if solidB L b.x b.y (sizeI b.kind) || !spdB b then false else moveT L b
theorem mb_stay {L : Rowz} {b : Bd} (h : solidB L b.x b.y (sizeI b.kind) = true ∨ spdB b = false) : mbB L b = b ∧ mbT L b = false := by
  unfold mbB mbT
  rcases h with h | h <;> rw [h] <;> simp
theorem mb_go {L : Rowz} {b : Bd} (h1 : solidB L b.x b.y (sizeI b.kind) = false) (h2 : spdB b = true) : mbB L b = moveB L b ∧ mbT L b = moveT L b := by
  unfold mbB mbT; rw [h1, h2]; simp
theorem solid_free {L : Rowz} {x y s : Int} (h : solidB L x y s = false) : levelB L = true ∧ inR s 1 16 = true ∧ blockB L x y s = false := by
  unfold solidB at h
  cases hl : levelB L <;> cases hq : inR s 1 16 <;> cases hb : blockB L x y s <;> simp_all
set_option maxRecDepth 100000 in
set_option maxHeartbeats 4000000 in
theorem moveBody_impl {w : World} {v : Value} {L : Rowz} (h : RdS w v L) (hs : Sane L) (b : Bd) (hx : I64 b.x) (hy : I64 b.y) :
    Calls Tryd.prog 11 #[.agg #[v], .agg #[.int .i64 b.kind, .int .i64 b.owner, .int .i64 b.x, .int .i64 b.y, .int .i64 b.vx, .int .i64 b.vy, .int .i64 b.aim, .int .i64 b.life, .int .i64 b.timer]] w fun e w' => e = .returned (.tuple #[bdV (mbB L b), .bool (mbT L b)]) ∧ Below w.heap.size w w' := by
  obtain ⟨a, cap, rfl, -⟩ := id h
  obtain ⟨W0, hW, hA, hB, hC, hB0, hS0⟩ := rows3 w #[.slice a L.length cap] #[.int .i64 b.kind, .int .i64 b.owner, .int .i64 b.x, .int .i64 b.y, .int .i64 b.vx, .int .i64 b.vy, .int .i64 b.aim, .int .i64 b.life, .int .i64 b.timer] bd0 26 36 36
  have cA := rowCells hA
  have cB := rowCells hB
  unfold bd0 at hW
  go_enter Tryd.func11, Tryd.ntmps11
  go_wp2_with (fail)
  clear hW
  refine (sizeOf_impl _ _).mono ?_
  rintro e w1 ⟨rfl, hb1⟩
  have hA1 := keepHeap hb1 hA
  have hB1 := keepHeap hb1 hB
  have hC1 := keepHeap hb1 hC
  have hb01 := hB0.trans (hb1.mono hB0.size)
  have cA1 := rowCells hA1
  have cB1 := rowCells hB1
  clear cA cB hA hB hC hB0 hb1
  have hC := solidAt_impl (h.keep hb01) hs b.x b.y (sizeI b.kind) hx hy
  go_wp2_with (fail)
  refine hC.mono ?_
  rintro e w2 ⟨rfl, hb2⟩
  have hA2 := keepHeap hb2 hA1
  have hB2 := keepHeap hb2 hB1
  have hC2 := keepHeap hb2 hC1
  have hb02 := hb01.trans (hb2.mono hb01.size)
  have cA2 := rowCells hA2
  have cB2 := rowCells hB2
  have cC2 := rowCells hC2
  have fC2 := fun j => frozenHeap hC2 j
  unfold bd0 at cC2
  clear cA1 cB1 hA1 hB1 hC1 hb01 hb2 hC
  cases ht : solidB L b.x b.y (sizeI b.kind) with
  | true =>
    obtain ⟨e1, e2⟩ := mb_stay (.inl ht)
    have HB := Lib.hid e1
    have HT := Lib.hid e2
    clear ht e1 e2
    go_wp2_with (fail)
    have hP := putB_heap hC2 rfl b b.x b.y b.vx b.vy
    have hL := load_bd hP rfl
    have hbP := putB_below hb02 (c := w.heap.size + 1 + 1) (by omega) b b.x b.y b.vx b.vy
    unfold putB at hL hbP
    refine bodyPost_ret (v := .tuple #[.agg (bmv b b.x b.y b.vx b.vy), .bool false]) (results_two rfl _ _ _ _ _ rfl rfl hL) rfl ⟨?_, hbP⟩
    rw [HB.out, HT.out]; rfl
  | false =>
    clear fC2 cC2
    go_wp2_with (fail)
    refine (speedsOk_impl b _).mono ?_
    rintro e w3 ⟨rfl, hb3⟩
    have hA3 := keepHeap hb3 hA2
    have hB3 := keepHeap hb3 hB2
    have hC3 := keepHeap hb3 hC2
    have hb03 := hb02.trans (hb3.mono hb02.size)
    have cA3 := rowCells hA3
    have cB3 := rowCells hB3
    clear cA2 cB2 hA2 hB2 hC2 hb02 hb3
    cases hsp : spdB b with
    | false =>
      obtain ⟨e1, e2⟩ := mb_stay (L := L) (.inr hsp)
      have HB := Lib.hid e1
      have HT := Lib.hid e2
      clear ht hsp e1 e2
      have cC3 := rowCells hC3
      have fC3 := fun j => frozenHeap hC3 j
      unfold bd0 at cC3
      go_wp2_with (fail)
      have hP := putB_heap hC3 rfl b b.x b.y b.vx b.vy
      have hL := load_bd hP rfl
      have hbP := putB_below hb03 (c := w.heap.size + 1 + 1) (by omega) b b.x b.y b.vx b.vy
      unfold putB at hL hbP
      refine bodyPost_ret (v := .tuple #[.agg (bmv b b.x b.y b.vx b.vy), .bool false]) (results_two rfl _ _ _ _ _ rfl rfl hL) rfl ⟨?_, hbP⟩
      rw [HB.out, HT.out]; rfl
    | true =>
      obtain ⟨e1, e2⟩ := mb_go ht hsp
      obtain ⟨hl, hq, hfree⟩ := solid_free ht
      have hq2 := (inR_iff _ _ _).1 hq
      obtain ⟨S, hS⟩ := Int.eq_ofNat_of_zero_le (a := sizeI b.kind) (by omega)
      rw [hS] at hfree
      unfold spdB at hsp
      rw [Bool.and_eq_true, inR_iff, inR_iff] at hsp
      have hM := moveIn_impl (h.keep hb03) (levelB_facts hl) b S hS (by omega) (by omega) hfree hsp.1 hsp.2
      rw [← e1, ← e2] at hM
      clear ht hsp e1 e2 hl hq hq2 hfree hS
      obtain ⟨c, hc⟩ : ∃ c, c = mbB L b := ⟨_, rfl⟩
      obtain ⟨t, ht⟩ : ∃ t, t = mbT L b := ⟨_, rfl⟩
      rw [← hc, ← ht] at hM
      have HB := Lib.hid hc
      have HT := Lib.hid ht
      clear hc ht
      unfold bdV at hM
      go_wp2_with (fail)
      refine hM.mono ?_
      rintro e w4 ⟨rfl, hb4⟩
      have hC4 := keepHeap hb4 hC3
      have hb04 := hb03.trans (hb4.mono hb03.size)
      have cC4 := rowCells hC4
      have fC4 := fun j => frozenHeap hC4 j
      unfold bd0 at cC4
      clear cA3 cB3 hA3 hB3 hC3 hb03 hb4 hM
      go_wp2_with (fail)
      have hP := putB_heap hC4 rfl c c.x c.y c.vx c.vy
      have hL := load_bd hP rfl
      have hbP := putB_below hb04 (c := w.heap.size + 1 + 1) (by omega) c c.x c.y c.vx c.vy
      unfold putB at hL hbP
      exact bodyPost_ret (v := .tuple #[.agg (bmv c c.x c.y c.vx c.vy), .bool t]) (results_two rfl _ _ _ _ _ rfl rfl hL) rfl ⟨by rw [← HB.out, ← HT.out]; rfl, hbP⟩

end Go.Proofs.YtdnnejohfhmliaaDoor
namespace Go.Proofs.YtdnnejohfhmliaaDoor
open Go.RowKit
set_option linter.all false
theorem slide_moved (L : Rowz) (S dx dy : Int) : ∀ (n : Nat) (x y : Int), ∃ m : Nat, m ≤ n ∧ (slideN L S dx dy n x y).1 = x + (m : Int) * dx ∧ (slideN L S dx dy n x y).2.1 = y + (m : Int) * dy ∧ ((slideN L S dx dy n x y).2.2 = false → m = n)
  | 0, x, y => ⟨0, Nat.le_refl _, by simp [slideN], by simp [slideN], fun _ => rfl⟩
  | n + 1, x, y => by
    rw [slideN]
    split
    · exact ⟨0, Nat.zero_le _, by simp, by simp, fun h => by cases h⟩
    · obtain ⟨m, h1, h2, h3, h4⟩ := slide_moved L S dx dy n (x + dx) (y + dy)
      refine ⟨m + 1, by omega, ?_, ?_, fun h => by rw [h4 h]⟩
      · rw [h2, Int.natCast_succ, Int.add_mul]; omega
      · rw [h3, Int.natCast_succ, Int.add_mul]; omega
/-- A part m of the speed v, along its sign: what the law on moves asks of it. -/
theorem part_of (v : Int) (m : Nat) (hm : m ≤ v.natAbs) : ¬ ((m : Int) * dirI v) * v < 0 ∧ ¬ v * v < ((m : Int) * dirI v) * ((m : Int) * dirI v) ∧ (m = v.natAbs → (m : Int) * dirI v = v) ∧ (-(v.natAbs : Int) ≤ (m : Int) * dirI v ∧ (m : Int) * dirI v ≤ (v.natAbs : Int)) := by
  unfold dirI
  obtain ⟨a, ha⟩ : ∃ a : Nat, a = v.natAbs := ⟨_, rfl⟩
  have hmul : (m : Int) * (m : Int) ≤ (a : Int) * (a : Int) := Int.mul_le_mul (by omega) (by omega) (by omega) (by omega)
  split
  · rename_i h
    have hv : v = -(a : Int) := by omega
    subst hv
    refine ⟨?_, ?_, fun e => by omega, by omega⟩
    · rw [show (m : Int) * -1 * -(a : Int) = (m : Int) * (a : Int) by rw [Int.mul_neg, Int.mul_neg, Int.neg_mul, Int.neg_neg, Int.mul_one]]
      have := Int.mul_nonneg (show (0 : Int) ≤ (m : Int) by omega) (show (0 : Int) ≤ (a : Int) by omega); omega
    · rw [show -(a : Int) * -(a : Int) = (a : Int) * (a : Int) by rw [Int.neg_mul_neg], show (m : Int) * -1 * ((m : Int) * -1) = (m : Int) * (m : Int) by rw [Int.mul_neg, Int.mul_one, Int.neg_mul_neg]]
      omega
  · rename_i h
    have hv : v = (a : Int) := by omega
    subst hv
    refine ⟨?_, ?_, fun e => by omega, by omega⟩
    · rw [Int.mul_one]
      have := Int.mul_nonneg (show (0 : Int) ≤ (m : Int) by omega) (show (0 : Int) ≤ (a : Int) by omega); omega
    · rw [Int.mul_one]; omega
/-- A move: how far, and the speed behind it. -/
theorem move_moved (L : Rowz) (b : Bd) : ∃ dx dy : Int, (moveB L b).x = b.x + dx ∧ (moveB L b).y = b.y + dy ∧ (¬ dx * b.vx < 0 ∧ ¬ b.vx * b.vx < dx * dx) ∧ (¬ dy * b.vy < 0 ∧ ¬ b.vy * b.vy < dy * dy) ∧
    (moveT L b = false → dx = b.vx ∧ dy = b.vy ∧ (moveB L b).vx = b.vx ∧ (moveB L b).vy = b.vy) ∧ (moveT L b = true → (moveB L b).vx = 0 ∨ (moveB L b).vy = 0) ∧ (-(b.vx.natAbs : Int) ≤ dx ∧ dx ≤ (b.vx.natAbs : Int)) ∧ (-(b.vy.natAbs : Int) ≤ dy ∧ dy ≤ (b.vy.natAbs : Int)) := by
  obtain ⟨m, hm, h1, h2, h3⟩ := slide_moved L (sizeI b.kind) (dirI b.vx) 0 b.vx.natAbs b.x b.y
  obtain ⟨k, hk, g1, g2, g3⟩ := slide_moved L (sizeI b.kind) 0 (dirI b.vy) b.vy.natAbs (moveX L b).1 (moveX L b).2.1
  have p1 := part_of b.vx m hm
  have p2 := part_of b.vy k hk
  have e1 : (moveX L b).1 = b.x + (m : Int) * dirI b.vx := h1
  have e2 : (moveX L b).2.1 = b.y := by have : (moveX L b).2.1 = b.y + (m : Int) * 0 := h2; rw [this]; omega
  have e3 : (moveB L b).x = b.x + (m : Int) * dirI b.vx := by have : (moveB L b).x = (moveX L b).1 + (k : Int) * 0 := g1; rw [this, e1]; omega
  have e4 : (moveB L b).y = b.y + (k : Int) * dirI b.vy := by have : (moveB L b).y = (moveX L b).2.1 + (k : Int) * dirI b.vy := g2; rw [this, e2]
  have f1 : (moveB L b).vx = stop (moveX L b).2.2 b.vx := rfl
  have f2 : (moveB L b).vy = stop (moveY L b (moveX L b).1 (moveX L b).2.1).2.2 b.vy := rfl
  have h3 : (moveX L b).2.2 = false → m = b.vx.natAbs := h3
  have g3 : (moveY L b (moveX L b).1 (moveX L b).2.1).2.2 = false → k = b.vy.natAbs := g3
  refine ⟨_, _, e3, e4, ⟨p1.1, p1.2.1⟩, ⟨p2.1, p2.2.1⟩, fun h => ?_, fun h => ?_, p1.2.2.2, p2.2.2.2⟩
  · unfold moveT at h
    rw [Bool.or_eq_false_iff] at h
    exact ⟨p1.2.2.1 (h3 h.1), p2.2.2.1 (g3 h.2), by rw [f1, h.1]; rfl, by rw [f2, h.2]; rfl⟩
  · unfold moveT at h
    rw [Bool.or_eq_true] at h
    rcases h with h | h
    · exact .inl (by rw [f1, h]; rfl)
    · exact .inr (by rw [f2, h]; rfl)
/-- A body of a valid level that lies free, with any small speed: its move is one, and it lies free again. -/
theorem mb_any {L : Rowz} (hL : levelB L = true) {b : Bd} (hk : inR b.kind 0 2 = true) (hf : blockB L b.x b.y (sizeI b.kind) = false) (hv : spdB b = true) : mbB L b = moveB L b ∧ mbT L b = moveT L b ∧ solidB L (moveB L b).x (moveB L b).y (sizeI (moveB L b).kind) = false := by
  have hs : inR (sizeI b.kind) 1 16 = true := by
    have := (inR_iff _ _ _).1 hk
    have h3 : b.kind = 0 ∨ b.kind = 1 ∨ b.kind = 2 := by omega
    rcases h3 with h | h | h <;> rw [h] <;> decide
  have hsf : ∀ x y, blockB L x y (sizeI b.kind) = false → solidB L x y (sizeI b.kind) = false := fun x y h => by
    unfold solidB; rw [hL, hs, h]; rfl
  obtain ⟨h1, h2⟩ := mb_go (hsf _ _ hf) hv
  exact ⟨h1, h2, hsf _ _ (move_free hf)⟩

end Go.Proofs.YtdnnejohfhmliaaDoor
namespace Go.Proofs.YtdnnejohfhmliaaDoor
open Go.RowKit
set_option linter.all false
theorem prod_small {a b : Int} (h1 : -15 ≤ a ∧ a ≤ 15) (h2 : -15 ≤ b ∧ b ≤ 15) : -225 ≤ a * b ∧ a * b ≤ 225 := by
  have k1 := Int.mul_nonneg (show (0 : Int) ≤ 15 - a by omega) (show (0 : Int) ≤ 15 - b by omega)
  have k2 := Int.mul_nonneg (show (0 : Int) ≤ 15 + a by omega) (show (0 : Int) ≤ 15 + b by omega)
  have k3 := Int.mul_nonneg (show (0 : Int) ≤ 15 - a by omega) (show (0 : Int) ≤ 15 + b by omega)
  have k4 := Int.mul_nonneg (show (0 : Int) ≤ 15 + a by omega) (show (0 : Int) ≤ 15 - b by omega)
  rw [Int.sub_mul, Int.mul_sub, Int.mul_sub] at k1
  rw [Int.add_mul, Int.mul_add, Int.mul_add] at k2
  rw [Int.sub_mul, Int.mul_add, Int.mul_add] at k3
  rw [Int.add_mul, Int.mul_sub, Int.mul_sub] at k4
  omega
set_option maxRecDepth 100000 in
set_option maxHeartbeats 8000000 in
theorem lawMoves (a : Option Addr) (len cap : Nat) (zs : List Int) (w : World) (hr : IsRow .u8 w a len cap zs) :
    Calls Tryd.prog 3 #[.slice a len cap] w fun e w' => e = .returned (.bool true) ∧ Below w.heap.size w w' := by
  obtain ⟨hrd, hl⟩ := RdC.of_row hr
  clear hr
  by_cases h : 1048576 < (len : Int)
  · have b1 : decide (1048576 < (len : Int)) = true := by simpa using h
    go_enter Tryd.func3, Tryd.ntmps3
    go_wp2_with (go_at_call 7; refine (big_any hrd hl).mono ?_; rintro e w' ⟨rfl, rfl⟩)
    go_ret
    exact ⟨rfl, Below.refl _ _⟩
  have b1 : decide (1048576 < (len : Int)) = false := by simpa using h
  go_enter Tryd.func3, Tryd.ntmps3
  go_wp2_with (go_at_call 7; refine (big_any hrd hl).mono ?_; rintro e w' ⟨rfl, rfl⟩)
  refine (drawPlay_any hrd (by omega)).mono ?_
  rintro e w1 ⟨L, n, s, vl, vs, vb, v, X, rfl, rdx, rdr, hb1, hok⟩
  obtain ⟨hnx, hwb⟩ := play_x hok
  have hsn := worldB_sane hwb (by rw [hnx]; exact hok.2.1)
  have hfw := worldB_few hwb
  have hXl : X.length ≤ 1048576 := by have := hok.2.2.2.2.1; omega
  have hXr : ∀ r ∈ X, r.length ≤ 1048576 := fun r hr => by have := (hok.2.2.2.2.2 r hr).1; have := hok.2.2.1; omega
  have hrun := fun {W : World} (h1 : RdW W (nwX L n s) vl vs vb) (h2 : RdR W v X) => runWorld_spec h1 hsn hfw h2 hXl hXr
  have hyb := runW_ok hwb X
  have hLs : Sane L := hok.2.1
  have hyr : Hid ((runW (nwX L n s) X).rows = L) := Lib.hid (by rw [runW_rows, hnx])
  generalize runW (nwX L n s) X = y at *
  generalize nwX L n s = x at *
  clear hnx hok hwb hXl hXr hfw
  obtain ⟨al, cl, e0, -⟩ := id rdx.1
  subst e0
  obtain ⟨aq, cq, e0, -⟩ := id rdx.2.1
  subst e0
  obtain ⟨ab, cb, e0, -⟩ := id rdx.2.2
  subst e0
  obtain ⟨ar, cr, e0, -⟩ := id rdr
  subst e0
  unfold wdC at hrun ⊢
  go_upto_region 4 with (fail)
  obtain ⟨w2, hw2, P2, hb2⟩ : ∃ W, w1.alloc (.cells #[.slice al x.rows.length cl, .int .i64 x.tick, .int .i64 x.seed, .slice aq x.scores.length cq, .slice ab x.bods.length cb] 30) = W ∧ W.heap[w1.heap.size]? = some (.cells #[.slice al x.rows.length cl, .int .i64 x.tick, .int .i64 x.seed, .slice aq x.scores.length cq, .slice ab x.bods.length cb] 30 (0, 0)) ∧ Below w1.heap.size w1 W := ⟨_, rfl, heap_alloc_new w1 _, below1 w1 _⟩
  rw [hw2]
  clear hw2
  obtain ⟨p, hp⟩ : ∃ p, p = w1.heap.size := ⟨_, rfl⟩
  rw [← hp] at P2 ⊢
  have hs1 := hb1.size
  have hpw : w.heap.size ≤ p := by omega
  have bw2 := hb1.trans (hb2.mono hs1)
  have hpb : p < w2.heap.size := (Array.getElem?_eq_some_iff.1 P2).1
  clear hp
  have cP2 := rowCells P2
  go_wp2_with (fail)
  refine (hrun (rdx.keep hb2) (rdr.keep hb2)).mono ?_
  rintro e w3 ⟨vl3, vs3, vb3, rfl, ow3, -, hb3⟩
  have P3 := keepHeap hb3 P2
  have hpl := (Array.getElem?_eq_some_iff.1 P2).1
  have bw3 := bw2.trans (hb3.mono bw2.size)
  have hrd3 := ow3.rd
  obtain ⟨al3, cl3, e0, -⟩ := id hrd3.1
  subst e0
  obtain ⟨aq3, cq3, e0, -⟩ := id hrd3.2.1
  subst e0
  obtain ⟨ab3, cb3, e0, -⟩ := id hrd3.2.2
  subst e0
  have P3w : w3.heap[p]? = some (.cells #[.slice al x.rows.length cl, .int .i64 x.tick, .int .i64 x.seed, .slice aq x.scores.length cq, .slice ab x.bods.length cb] 30 (0, 0)) := P3
  have hs2 := hb2.size
  have hs3 := hb3.size
  have cP3 := rowCells P3
  have fP3 := fun j => frozenHeap P3 j
  unfold wdC
  clear cP2
  go_upto_region 5 with (fail)
  obtain ⟨w4, e4⟩ : ∃ W, W = putW w3 p y (.slice al3 y.rows.length cl3) (.slice aq3 y.scores.length cq3) (.slice ab3 y.bods.length cb3) := ⟨_, rfl⟩
  have P4 := putW_heap P3 rfl y (.slice al3 y.rows.length cl3) (.slice aq3 y.scores.length cq3) (.slice ab3 y.bods.length cb3)
  have bw4 := putW_below bw3 (c := p) hpw y (.slice al3 y.rows.length cl3) (.slice aq3 y.scores.length cq3) (.slice ab3 y.bods.length cb3)
  have ow4 := ow3.afar (putW_farB w3 p y (.slice al3 y.rows.length cl3) (.slice aq3 y.scores.length cq3) (.slice ab3 y.bods.length cb3)) (by omega)
  rw [← e4] at P4 bw4 ow4
  unfold putW at e4
  rw [← e4]
  clear e4 cP3 fP3 P3 P3w bw3 ow3 hrd3 hrun rdx rdr
  unfold wdC at P4
  have owH := Lib.hid ow4
  have hyf := fineX_of hyb
  have hL := hyf.1
  have hgd := levelB_facts hL
  have hLy : Sane y.rows := by rw [hyr.out]; exact hLs
  obtain ⟨N, hN⟩ : ∃ N, N = y.bods.length := ⟨_, rfl⟩
  have HN := Lib.hid hN
  have hN1 : 1 ≤ N ∧ N ≤ 24 := by have := hyf.2.1; have := hyf.2.2.2.1; have := hyf.2.2.2.2.1; omega
  have HFI : Hid (Fine y.rows y.scores.length y.bods) := Lib.hid hyf.2.2.2
  have hbr := ow4.rd.2.2
  rw [← hN] at P4 hbr
  rw [← hN]
  clear hN ow4 hyf hyb hyr
  obtain ⟨a', c', e', hbd⟩ := hbr
  rw [← HN.out] at e'
  obtain ⟨rfl, -, rfl⟩ := Value.slice.inj e'
  clear e'
  obtain ⟨bb, ob, e0, hcells⟩ := hbd.resolve_left (by intro e; have := HN.out; rw [e] at this; simp at this; omega)
  subst e0
  clear hbd
  have rl4 := owH.out.rd.1
  have HC := Lib.hid hcells
  clear hcells
  have hp4 := (Array.getElem?_eq_some_iff.1 P4).1
  have hb0 := Below.refl w4.heap.size w4
  have hNi : (N : Int) ≤ 24 := by omega
  go_wp2_with (fail)
  go_loopw [5] (fun i wr => ∃ k : Nat, k ≤ N ∧ i = .int .i64 (k : Int) ∧ Below w4.heap.size w4 wr) (fun i _ => N - (intOf i).toNat)
  case atStart => exact ⟨0, Nat.zero_le _, rfl, hb0⟩
  case round =>
    clear hb0
    obtain ⟨k, hk, rfl, hbel⟩ := hrel
    have Pr := keepHeap hbel P4
    have cPr := rowCells Pr
    have bwr := bw4.trans (hbel.mono bw4.size)
    by_cases hkN : k < N
    · have hkx : k < y.bods.length := by rw [← HN.out]; exact hkN
      have hki : (k : Int) < (N : Int) := by omega
      have hc0 := HC.out k hkx
      obtain ⟨hfit, -, -⟩ := HFI.out.2.2 k hkx
      generalize y.bods[k] = b at *
      have hcr : wr.rangeAt bb (ob + k * 9) (bdL b) := fun j u hu => (hbel.cell (World.block_lt_of_cell? w4 _ (hc0 j u hu))).trans (hc0 j u hu)
      obtain ⟨d0, d1, d2, d3, d4, d5, d6, d7, d8⟩ := cells9 hcr
      clear hc0 hcr
      go_upto_region 9 with (fail)
      obtain ⟨w5, hw, Qb5, ha5⟩ : ∃ W, wr.alloc (.cells #[.int .i64 b.kind, .int .i64 b.owner, .int .i64 b.x, .int .i64 b.y, .int .i64 b.vx, .int .i64 b.vy, .int .i64 b.aim, .int .i64 b.life, .int .i64 b.timer] 36) = W ∧ W.heap[wr.heap.size]? = some (.cells #[.int .i64 b.kind, .int .i64 b.owner, .int .i64 b.x, .int .i64 b.y, .int .i64 b.vx, .int .i64 b.vy, .int .i64 b.aim, .int .i64 b.life, .int .i64 b.timer] 36 (0, 0)) ∧ Below wr.heap.size wr W := ⟨_, rfl, heap_alloc_new wr _, below1 wr _⟩
      rw [hw]
      clear hw
      have bw5 := bwr.trans (ha5.mono bwr.size)
      have P5 := keepHeap ha5 Pr
      have be5 := hbel.trans (ha5.mono hbel.size)
      obtain ⟨q, hq⟩ : ∃ q, q = wr.heap.size := ⟨_, rfl⟩
      rw [← hq] at Qb5 ⊢
      have hwq : w4.heap.size ≤ q := by rw [hq]; exact hbel.size
      have hq5 := (Array.getElem?_eq_some_iff.1 Qb5).1
      clear hq d0 d1 d2 d3 d4 d5 d6 d7 d8 cPr Pr bwr hbel ha5
      have cQ5 := rowCells Qb5
      have fQ5 := fun j => frozenHeap Qb5 j
      go_wp2_with (fail)
      refine (at_any (hrd.keep bw5) hl (k : Int) (by omega) (by omega)).mono ?_
      rintro e w6 ⟨y0, hy0, rfl, rfl⟩
      obtain ⟨m1, hm1⟩ : ∃ m, m = y0 % 31 := ⟨_, rfl⟩
      have e1 : (y0 : Int) % 31 = (m1 : Int) := by omega
      have hm1b : m1 ≤ 30 := by omega
      clear hm1 hy0
      go_upto_region 10 with (fail)
      obtain ⟨X1, hX1⟩ : ∃ X, X = (m1 : Int) - 15 := ⟨_, rfl⟩
      rw [← hX1]
      have hXb : -15 ≤ X1 ∧ X1 ≤ 15 := by omega
      have Q6 := setH (k := 4) (v := .int .i64 X1) Qb5
      have P6 := farHeap (p := ⟨q, 4, none⟩) P5 (by show p ≠ q; omega) (.int .i64 X1)
      have bw6 : Below w.heap.size w (w5.setCell ⟨q, 4, none⟩ (.int .i64 X1)) := bw5.setCell (p := ⟨q, 4, none⟩) (by show w.heap.size ≤ q; have := bw4.size; omega) _
      have be6 : Below w4.heap.size w4 (w5.setCell ⟨q, 4, none⟩ (.int .i64 X1)) := be5.setCell (p := ⟨q, 4, none⟩) hwq _
      obtain ⟨v6, ev⟩ : ∃ W, W = w5.setCell ⟨q, 4, none⟩ (.int .i64 X1) := ⟨_, rfl⟩
      rw [← ev] at Q6 P6 bw6 be6 ⊢
      have Q6 : v6.heap[q]? = some (.cells #[.int .i64 b.kind, .int .i64 b.owner, .int .i64 b.x, .int .i64 b.y, .int .i64 X1, .int .i64 b.vy, .int .i64 b.aim, .int .i64 b.life, .int .i64 b.timer] 36 (0, 0)) := Q6
      clear ev hX1 e1 cQ5 fQ5 Qb5 P5 bw5 be5 hm1b
      have cQ6 := rowCells Q6
      have fQ6 := fun j => frozenHeap Q6 j
      go_wp2_with (fail)
      refine (at_any (hrd.keep bw6) hl ((k : Int) + 1) (by omega) (by omega)).mono ?_
      rintro e w6' ⟨y1, hy1, rfl, rfl⟩
      obtain ⟨m2, hm2⟩ : ∃ m, m = y1 % 31 := ⟨_, rfl⟩
      have e2 : (y1 : Int) % 31 = (m2 : Int) := by omega
      have hm2b : m2 ≤ 30 := by omega
      clear hm2 hy1
      go_upto_region 11 with (fail)
      obtain ⟨Y1, hY1⟩ : ∃ X, X = (m2 : Int) - 15 := ⟨_, rfl⟩
      rw [← hY1]
      have hYb : -15 ≤ Y1 ∧ Y1 ≤ 15 := by omega
      have Q7 := setH (k := 5) (v := .int .i64 Y1) Q6
      have P7 := farHeap (p := ⟨q, 5, none⟩) P6 (by show p ≠ q; omega) (.int .i64 Y1)
      have bw7 : Below w.heap.size w (v6.setCell ⟨q, 5, none⟩ (.int .i64 Y1)) := bw6.setCell (p := ⟨q, 5, none⟩) (by show w.heap.size ≤ q; have := bw4.size; omega) _
      have be7 : Below w4.heap.size w4 (v6.setCell ⟨q, 5, none⟩ (.int .i64 Y1)) := be6.setCell (p := ⟨q, 5, none⟩) hwq _
      obtain ⟨v7, ev⟩ : ∃ W, W = v6.setCell ⟨q, 5, none⟩ (.int .i64 Y1) := ⟨_, rfl⟩
      rw [← ev] at Q7 P7 bw7 be7 ⊢
      have Q7 : v7.heap[q]? = some (.cells #[.int .i64 b.kind, .int .i64 b.owner, .int .i64 b.x, .int .i64 b.y, .int .i64 X1, .int .i64 Y1, .int .i64 b.aim, .int .i64 b.life, .int .i64 b.timer] 36 (0, 0)) := Q7
      clear ev hY1 e2 cQ6 fQ6 Q6 P6 bw6 be6 hm2b
      have cQ7 := rowCells Q7
      have cP7 := rowCells P7
      have rl7 := rl4.keep be7
      obtain ⟨p0, p1, p2, p3, p4, p5⟩ := fit_parts hfit
      obtain ⟨S, HS⟩ : ∃ S : Nat, sizeI b.kind = (S : Int) := Int.eq_ofNat_of_zero_le (sizeI_range _).1
      have hpl := blockB_place hgd (by rw [← HS]; exact p2)
      have hmb := mb_any hL (b := ⟨b.kind, b.owner, b.x, b.y, X1, Y1, b.aim, b.life, b.timer⟩) p0 p2 (by unfold spdB; rw [(inR_iff _ _ _).2 hXb, (inR_iff _ _ _).2 hYb]; rfl)
      obtain ⟨dx, dy, hx1, hy1, ⟨hs1, hs2⟩, ⟨hs3, hs4⟩, hgo, hstop, hbx, hby⟩ := move_moved y.rows ⟨b.kind, b.owner, b.x, b.y, X1, Y1, b.aim, b.life, b.timer⟩
      have hmv := moveBody_impl rl7 hLy ⟨b.kind, b.owner, b.x, b.y, X1, Y1, b.aim, b.life, b.timer⟩ ⟨by show -9223372036854775808 ≤ b.x; omega, by show b.x ≤ 9223372036854775807; omega⟩ ⟨by show -9223372036854775808 ≤ b.y; omega, by show b.y ≤ 9223372036854775807; omega⟩
      rw [hmb.1, hmb.2.1] at hmv
      have hsl := hmb.2.2
      clear hmb p0 p1 p2 p3 p4 p5 hfit HS
      generalize moveB y.rows ⟨b.kind, b.owner, b.x, b.y, X1, Y1, b.aim, b.life, b.timer⟩ = c at *
      generalize moveT y.rows ⟨b.kind, b.owner, b.x, b.y, X1, Y1, b.aim, b.life, b.timer⟩ = T at *
      try dsimp only at hx1 hy1 hs1 hs2 hs3 hs4 hgo hstop hbx hby hmv
      unfold bdV at hmv
      try dsimp only at hmv
      have hdx : c.x - b.x = dx := by omega
      have hdy : c.y - b.y = dy := by omega
      have hbx : -15 ≤ dx ∧ dx ≤ 15 := by omega
      have hby : -15 ≤ dy ∧ dy ≤ 15 := by omega
      have hcx : -100 ≤ c.x ∧ c.x ≤ 1000 := by omega
      have hcy : -100 ≤ c.y ∧ c.y ≤ 1000 := by omega
      have HX := Lib.hid hx1
      have HY := Lib.hid hy1
      clear hx1 hy1
      go_wp2_with (fail)
      refine hmv.mono ?_
      rintro e w8 ⟨rfl, hb8⟩
      have bw8 := bw7.trans (hb8.mono bw7.size)
      have be8 := be7.trans (hb8.mono be7.size)
      have P8 := keepHeap hb8 P7
      have Q8 := keepHeap hb8 Q7
      have hq8 := (Array.getElem?_eq_some_iff.1 Q8).1
      clear hmv hb8 cQ7 cP7 P7 Q7 bw7 be7 rl7
      go_upto_region 12 with (fail)
      obtain ⟨w9, hw, Qc9, ha9⟩ : ∃ W, w8.alloc (.cells #[.int .i64 c.kind, .int .i64 c.owner, .int .i64 c.x, .int .i64 c.y, .int .i64 c.vx, .int .i64 c.vy, .int .i64 c.aim, .int .i64 c.life, .int .i64 c.timer] 36) = W ∧ W.heap[w8.heap.size]? = some (.cells #[.int .i64 c.kind, .int .i64 c.owner, .int .i64 c.x, .int .i64 c.y, .int .i64 c.vx, .int .i64 c.vy, .int .i64 c.aim, .int .i64 c.life, .int .i64 c.timer] 36 (0, 0)) ∧ Below w8.heap.size w8 W := ⟨_, rfl, heap_alloc_new w8 _, below1 w8 _⟩
      rw [hw]
      clear hw
      have bw9 := bw8.trans (ha9.mono bw8.size)
      have be9 := be8.trans (ha9.mono be8.size)
      have P9 := keepHeap ha9 P8
      have Q9 := keepHeap ha9 Q8
      obtain ⟨r, hr⟩ : ∃ r, r = w8.heap.size := ⟨_, rfl⟩
      rw [← hr] at Qc9 ⊢
      clear hr ha9 P8 Q8 bw8 be8
      have cQ9 := rowCells Q9
      have cR9 := rowCells Qc9
      go_upto_region 14 with (fail)
      have rl9 := rl4.keep be9
      have hszf := fun W => sizeOf_impl c.kind W
      have hso := fun {W : World} (h1 : RdS W (.slice al3 y.rows.length cl3) y.rows) => solidAt_impl h1 hLy c.x c.y (sizeI c.kind) ⟨by omega, by omega⟩ ⟨by omega, by omega⟩
      simp only [hsl] at hso
      obtain ⟨A1, hA1⟩ : ∃ P, P = dx * X1 := ⟨_, rfl⟩
      obtain ⟨A2, hA2⟩ : ∃ P, P = dy * Y1 := ⟨_, rfl⟩
      obtain ⟨A3, hA3⟩ : ∃ P, P = dx * dx := ⟨_, rfl⟩
      obtain ⟨A4, hA4⟩ : ∃ P, P = X1 * X1 := ⟨_, rfl⟩
      obtain ⟨A5, hA5⟩ : ∃ P, P = dy * dy := ⟨_, rfl⟩
      obtain ⟨A6, hA6⟩ : ∃ P, P = Y1 * Y1 := ⟨_, rfl⟩
      have r1 := prod_small hbx hXb
      have r2 := prod_small hby hYb
      have r3 := prod_small hbx hbx
      have r4 := prod_small hXb hXb
      have r5 := prod_small hby hby
      have r6 := prod_small hYb hYb
      rw [← hA1] at r1 hs1
      rw [← hA2] at r2 hs3
      rw [← hA3] at r3 hs2
      rw [← hA4] at r4 hs2
      rw [← hA5] at r5 hs4
      rw [← hA6] at r6 hs4
      have g1 : IntKind.i64.wrap (dx * X1) = A1 := by rw [← hA1]; exact IntWalk.i64_in _ (by omega)
      have g2 : IntKind.i64.wrap (dy * Y1) = A2 := by rw [← hA2]; exact IntWalk.i64_in _ (by omega)
      have g3 : IntKind.i64.wrap (dx * dx) = A3 := by rw [← hA3]; exact IntWalk.i64_in _ (by omega)
      have g4 : IntKind.i64.wrap (X1 * X1) = A4 := by rw [← hA4]; exact IntWalk.i64_in _ (by omega)
      have g5 : IntKind.i64.wrap (dy * dy) = A5 := by rw [← hA5]; exact IntWalk.i64_in _ (by omega)
      have g6 : IntKind.i64.wrap (Y1 * Y1) = A6 := by rw [← hA6]; exact IntWalk.i64_in _ (by omega)
      clear hA1 hA2 hA3 hA4 hA5 hA6
      have z1 : decide (A1 < 0) = false := decide_eq_false (by omega)
      have z2 : decide (A2 < 0) = false := decide_eq_false (by omega)
      have z3 : decide (A4 < A3) = false := decide_eq_false (by omega)
      have z4 : decide (A6 < A5) = false := decide_eq_false (by omega)
      have hP := P9
      have hQ := Q9
      have hR := Qc9
      clear cQ9 cR9
      have bs_0 : Below w9.heap.size w9 w9.drew := belowDrew w9 1
      have hP_0 : w9.drew.heap[p]? = _ := hP
      have hQ_0 : w9.drew.heap[q]? = _ := hQ
      have hR_0 : w9.drew.heap[r]? = _ := hR
      refine wp_region_held_drew (S := (fun w' => (∀ j, w'.cell? ⟨p, j, none⟩ = #[Value.slice al3 y.rows.length cl3, .int .i64 y.tick, .int .i64 y.seed, .slice aq3 y.scores.length cq3, .slice (some ⟨bb, ob, none⟩) N cb3][j]?) ∧ (∀ j, w'.cell? ⟨q, j, none⟩ = #[Value.int .i64 b.kind, .int .i64 b.owner, .int .i64 b.x, .int .i64 b.y, .int .i64 X1, .int .i64 Y1, .int .i64 b.aim, .int .i64 b.life, .int .i64 b.timer][j]?) ∧ (∀ j, w'.cell? ⟨r, j, none⟩ = #[Value.int .i64 c.kind, .int .i64 c.owner, .int .i64 c.x, .int .i64 c.y, .int .i64 c.vx, .int .i64 c.vy, .int .i64 c.aim, .int .i64 c.life, .int .i64 c.timer][j]?))) (by kernel_rfl) ?_ (fun hHeld => ?_)
      · exact ⟨rowCells hP_0, rowCells hQ_0, rowCells hR_0⟩
      refine take_on (i := 0) (v := ?_) (some 63) rfl (by kernel_rfl) (by kernel_rfl) (by kernel_rfl) rfl (fun _ _ _ h => h) (by rfl) ?_ (by assumption) ?_
      rotate_left
      · intro w hSw; (try dsimp only at hSw); go_simp; (try with_reducible rfl)
      (try simp only [Act.put, List.setIfInBounds_toArray, List.set_cons_zero, List.set_cons_succ])
      refine take_on (i := 1) (v := ?_) (some 64) rfl (by kernel_rfl) (by kernel_rfl) (by kernel_rfl) rfl (fun _ _ _ h => h) (by rfl) ?_ (by assumption) ?_
      rotate_left
      · intro w hSw; (try dsimp only at hSw); go_simp; (try with_reducible rfl)
      (try simp only [Act.put, List.setIfInBounds_toArray, List.set_cons_zero, List.set_cons_succ])
      refine take_on (i := 2) (v := ?_) (some 65) rfl (by kernel_rfl) (by kernel_rfl) (by kernel_rfl) rfl (fun _ _ _ h => h) (by rfl) ?_ (by assumption) ?_
      rotate_left
      · intro w hSw; (try dsimp only at hSw); go_simp; (try with_reducible rfl)
      (try simp only [Act.put, List.setIfInBounds_toArray, List.set_cons_zero, List.set_cons_succ])
      refine take_on (i := 3) (v := ?_) (some 66) rfl (by kernel_rfl) (by kernel_rfl) (by kernel_rfl) rfl (fun _ _ _ h => h) (by rfl) ?_ (by assumption) ?_
      rotate_left
      · intro w hSw; (try dsimp only at hSw); go_simp; (try with_reducible rfl)
      (try simp only [Act.put, List.setIfInBounds_toArray, List.set_cons_zero, List.set_cons_succ])
      refine take_on (i := 4) (v := ?_) (some 67) rfl (by kernel_rfl) (by kernel_rfl) (by kernel_rfl) rfl (fun _ _ _ h => h) (by rfl) ?_ (by assumption) ?_
      rotate_left
      · intro w hSw; (try dsimp only at hSw); go_simp; (try with_reducible rfl)
      (try simp only [Act.put, List.setIfInBounds_toArray, List.set_cons_zero, List.set_cons_succ])
      refine take_on (i := 5) (v := ?_) (some 68) rfl (by kernel_rfl) (by kernel_rfl) (by kernel_rfl) rfl (fun _ _ _ h => h) (by rfl) ?_ (by assumption) ?_
      rotate_left
      · intro w hSw; (try dsimp only at hSw); go_simp; (try with_reducible rfl)
      (try simp only [Act.put, List.setIfInBounds_toArray, List.set_cons_zero, List.set_cons_succ])
      refine take_on (i := 6) (v := ?_) (some 69) rfl (by kernel_rfl) (by kernel_rfl) (by kernel_rfl) rfl (fun _ _ _ h => h) (by rfl) ?_ (by assumption) ?_
      rotate_left
      · intro w hSw; (try dsimp only at hSw); go_simp; (try with_reducible rfl)
      (try simp only [Act.put, List.setIfInBounds_toArray, List.set_cons_zero, List.set_cons_succ])
      refine take_on (i := 7) (v := ?_) (some 70) rfl (by kernel_rfl) (by kernel_rfl) (by kernel_rfl) rfl (fun _ _ _ h => h) (by rfl) ?_ (by assumption) ?_
      rotate_left
      · intro w hSw; (try dsimp only at hSw); go_simp; (try with_reducible rfl)
      (try simp only [Act.put, List.setIfInBounds_toArray, List.set_cons_zero, List.set_cons_succ])
      refine wpAnyH_ready (rs := [8]) (by kernel_rfl) (by simp) ?_
      refine AllReadyH.cons rfl (fun K hK => ?_) AllReadyH.nil
      go_simp
      refine (hszf _).mono ?_
      rintro e w_1 ⟨rfl, hb_1⟩
      have hP_1 := keepHeap hb_1 hP_0
      have hQ_1 := keepHeap hb_1 hQ_0
      have hR_1 := keepHeap hb_1 hR_0
      have bs_1 := bs_0.trans (hb_1.mono bs_0.size)
      have sz_1 := hb_1.size
      (try go_wp2_with (fail))
      refine hK.out _ _ ?_ (fun hHeld => ?_)
      · exact ⟨rowCells hP_1, rowCells hQ_1, rowCells hR_1⟩
      clear hK K
      (try simp only [Act.put, List.setIfInBounds_toArray, List.set_cons_zero, List.set_cons_succ])
      refine wpAnyH_ready (rs := [9]) (by kernel_rfl) (by simp) ?_
      refine AllReadyH.cons rfl (fun K hK => ?_) AllReadyH.nil
      go_simp
      refine (hso (rl9.keep bs_1)).mono ?_
      rintro e w_2 ⟨rfl, hb_2⟩
      have hP_2 := keepHeap hb_2 hP_1
      have hQ_2 := keepHeap hb_2 hQ_1
      have hR_2 := keepHeap hb_2 hR_1
      have bs_2 := bs_1.trans (hb_2.mono bs_1.size)
      have sz_2 := hb_2.size
      (try go_wp2_with (fail))
      refine hK.out _ _ ?_ (fun hHeld => ?_)
      · exact ⟨rowCells hP_2, rowCells hQ_2, rowCells hR_2⟩
      clear hK K
      (try simp only [Act.put, List.setIfInBounds_toArray, List.set_cons_zero, List.set_cons_succ])
      refine take_on (i := 10) (v := ?_) (some 73) rfl (by kernel_rfl) (by kernel_rfl) (by kernel_rfl) rfl (fun _ _ _ h => h) (by rfl) ?_ (by assumption) ?_
      rotate_left
      · intro w hSw; (try dsimp only at hSw); go_simp; (try with_reducible rfl)
      (try simp only [Act.put, List.setIfInBounds_toArray, List.set_cons_zero, List.set_cons_succ])
      refine take_on (i := 11) (v := ?_) (some 74) rfl (by kernel_rfl) (by kernel_rfl) (by kernel_rfl) rfl (fun _ _ _ h => h) (wanted_on (k := 10) (d := 73) (b := false) rfl rfl rfl) ?_ (by assumption) ?_
      rotate_left
      · intro w hSw; (try dsimp only at hSw); go_simp; (try with_reducible rfl)
      (try simp only [Act.put, List.setIfInBounds_toArray, List.set_cons_zero, List.set_cons_succ])
      refine take_on (i := 12) (v := ?_) (some 75) rfl (by kernel_rfl) (by kernel_rfl) (by kernel_rfl) rfl (fun _ _ _ h => h) (wanted_on (k := 10) (d := 73) (b := false) rfl rfl rfl) ?_ (by assumption) ?_
      rotate_left
      · intro w hSw; (try dsimp only at hSw); go_simp; (try with_reducible rfl)
      (try simp only [Act.put, List.setIfInBounds_toArray, List.set_cons_zero, List.set_cons_succ])
      refine take_on (i := 13) (v := ?_) (some 76) rfl (by kernel_rfl) (by kernel_rfl) (by kernel_rfl) rfl (fun _ _ _ h => h) (wanted_on (k := 10) (d := 73) (b := false) rfl rfl rfl) ?_ (by assumption) ?_
      rotate_left
      · intro w hSw; (try dsimp only at hSw); go_simp; (try with_reducible rfl)
      (try simp only [Act.put, List.setIfInBounds_toArray, List.set_cons_zero, List.set_cons_succ])
      refine take_on (i := 14) (v := ?_) (some 77) rfl (by kernel_rfl) (by kernel_rfl) (by kernel_rfl) rfl (fun _ _ _ h => h) (wanted_on (k := 10) (d := 73) (b := false) rfl rfl rfl) ?_ (by assumption) ?_
      rotate_left
      · intro w hSw; (try dsimp only at hSw); go_simp; (try with_reducible rfl)
      (try simp only [Act.put, List.setIfInBounds_toArray, List.set_cons_zero, List.set_cons_succ])
      refine take_on (i := 15) (v := ?_) (some 78) rfl (by kernel_rfl) (by kernel_rfl) (by kernel_rfl) rfl (fun _ _ _ h => h) (wanted_on (k := 10) (d := 73) (b := false) rfl rfl rfl) ?_ (by assumption) ?_
      rotate_left
      · intro w hSw; (try dsimp only at hSw); go_simp; (try with_reducible rfl)
      (try simp only [Act.put, List.setIfInBounds_toArray, List.set_cons_zero, List.set_cons_succ])
      refine take_on (i := 16) (v := ?_) (some 79) rfl (by kernel_rfl) (by kernel_rfl) (by kernel_rfl) rfl (fun _ _ _ h => h) (by rfl) ?_ (by assumption) ?_
      rotate_left
      · intro w hSw; (try dsimp only at hSw); go_simp; (try with_reducible rfl)
      (try simp only [Act.put, List.setIfInBounds_toArray, List.set_cons_zero, List.set_cons_succ])
      refine take_on (i := 17) (v := ?_) (some 80) rfl (by kernel_rfl) (by kernel_rfl) (by kernel_rfl) rfl (fun _ _ _ h => h) (by rfl) ?_ (by assumption) ?_
      rotate_left
      · intro w hSw; (try dsimp only at hSw); go_simp; (try with_reducible rfl)
      (try simp only [Act.put, List.setIfInBounds_toArray, List.set_cons_zero, List.set_cons_succ])
      refine take_on (i := 18) (v := ?_) (some 81) rfl (by kernel_rfl) (by kernel_rfl) (by kernel_rfl) rfl (fun _ _ _ h => h) (wanted_on (k := 17) (d := 80) (b := false) rfl rfl rfl) ?_ (by assumption) ?_
      rotate_left
      · intro w hSw; (try dsimp only at hSw); go_simp; (try with_reducible rfl)
      (try simp only [Act.put, List.setIfInBounds_toArray, List.set_cons_zero, List.set_cons_succ])
      refine take_on (i := 19) (v := ?_) (some 82) rfl (by kernel_rfl) (by kernel_rfl) (by kernel_rfl) rfl (fun _ _ _ h => h) (wanted_on (k := 17) (d := 80) (b := false) rfl rfl rfl) ?_ (by assumption) ?_
      rotate_left
      · intro w hSw; (try dsimp only at hSw); go_simp; (try with_reducible rfl)
      (try simp only [Act.put, List.setIfInBounds_toArray, List.set_cons_zero, List.set_cons_succ])
      refine take_on (i := 20) (v := ?_) (some 83) rfl (by kernel_rfl) (by kernel_rfl) (by kernel_rfl) rfl (fun _ _ _ h => h) (wanted_on (k := 17) (d := 80) (b := false) rfl rfl rfl) ?_ (by assumption) ?_
      rotate_left
      · intro w hSw; (try dsimp only at hSw); go_simp; (try with_reducible rfl)
      (try simp only [Act.put, List.setIfInBounds_toArray, List.set_cons_zero, List.set_cons_succ])
      refine take_on (i := 21) (v := ?_) (some 84) rfl (by kernel_rfl) (by kernel_rfl) (by kernel_rfl) rfl (fun _ _ _ h => h) (wanted_on (k := 17) (d := 80) (b := false) rfl rfl rfl) ?_ (by assumption) ?_
      rotate_left
      · intro w hSw; (try dsimp only at hSw); go_simp; (try with_reducible rfl)
      (try simp only [Act.put, List.setIfInBounds_toArray, List.set_cons_zero, List.set_cons_succ])
      refine take_on (i := 22) (v := ?_) (some 85) rfl (by kernel_rfl) (by kernel_rfl) (by kernel_rfl) rfl (fun _ _ _ h => h) (wanted_on (k := 17) (d := 80) (b := false) rfl rfl rfl) ?_ (by assumption) ?_
      rotate_left
      · intro w hSw; (try dsimp only at hSw); go_simp; (try with_reducible rfl)
      (try simp only [Act.put, List.setIfInBounds_toArray, List.set_cons_zero, List.set_cons_succ])
      refine take_on (i := 23) (v := ?_) (some 86) rfl (by kernel_rfl) (by kernel_rfl) (by kernel_rfl) rfl (fun _ _ _ h => h) (by rfl) ?_ (by assumption) ?_
      rotate_left
      · intro w hSw; (try dsimp only at hSw); go_simp; (try with_reducible rfl)
      (try simp only [Act.put, List.setIfInBounds_toArray, List.set_cons_zero, List.set_cons_succ])
      refine take_on (i := 24) (v := ?_) (some 87) rfl (by kernel_rfl) (by kernel_rfl) (by kernel_rfl) rfl (fun _ _ _ h => h) (by rfl) ?_ (by assumption) ?_
      rotate_left
      · intro w hSw; (try dsimp only at hSw); go_simp; (try with_reducible rfl)
      (try simp only [Act.put, List.setIfInBounds_toArray, List.set_cons_zero, List.set_cons_succ])
      refine take_on (i := 25) (v := ?_) (some 88) rfl (by kernel_rfl) (by kernel_rfl) (by kernel_rfl) rfl (fun _ _ _ h => h) (wanted_on (k := 24) (d := 87) (b := false) rfl rfl rfl) ?_ (by assumption) ?_
      rotate_left
      · intro w hSw; (try dsimp only at hSw); go_simp; (try with_reducible rfl)
      (try simp only [Act.put, List.setIfInBounds_toArray, List.set_cons_zero, List.set_cons_succ])
      refine take_on (i := 26) (v := ?_) (some 89) rfl (by kernel_rfl) (by kernel_rfl) (by kernel_rfl) rfl (fun _ _ _ h => h) (wanted_on (k := 24) (d := 87) (b := false) rfl rfl rfl) ?_ (by assumption) ?_
      rotate_left
      · intro w hSw; (try dsimp only at hSw); go_simp; (try with_reducible rfl)
      (try simp only [Act.put, List.setIfInBounds_toArray, List.set_cons_zero, List.set_cons_succ])
      refine take_on (i := 27) (v := ?_) (some 90) rfl (by kernel_rfl) (by kernel_rfl) (by kernel_rfl) rfl (fun _ _ _ h => h) (wanted_on (k := 24) (d := 87) (b := false) rfl rfl rfl) ?_ (by assumption) ?_
      rotate_left
      · intro w hSw; (try dsimp only at hSw); go_simp; (try with_reducible rfl)
      (try simp only [Act.put, List.setIfInBounds_toArray, List.set_cons_zero, List.set_cons_succ])
      refine take_on (i := 28) (v := ?_) (some 91) rfl (by kernel_rfl) (by kernel_rfl) (by kernel_rfl) rfl (fun _ _ _ h => h) (wanted_on (k := 24) (d := 87) (b := false) rfl rfl rfl) ?_ (by assumption) ?_
      rotate_left
      · intro w hSw; (try dsimp only at hSw); go_simp; (try with_reducible rfl)
      (try simp only [Act.put, List.setIfInBounds_toArray, List.set_cons_zero, List.set_cons_succ])
      refine take_on (i := 29) (v := ?_) (some 92) rfl (by kernel_rfl) (by kernel_rfl) (by kernel_rfl) rfl (fun _ _ _ h => h) (wanted_on (k := 24) (d := 87) (b := false) rfl rfl rfl) ?_ (by assumption) ?_
      rotate_left
      · intro w hSw; (try dsimp only at hSw); go_simp; (try with_reducible rfl)
      (try simp only [Act.put, List.setIfInBounds_toArray, List.set_cons_zero, List.set_cons_succ])
      refine take_on (i := 30) (v := ?_) (some 93) rfl (by kernel_rfl) (by kernel_rfl) (by kernel_rfl) rfl (fun _ _ _ h => h) (wanted_on (k := 24) (d := 87) (b := false) rfl rfl rfl) ?_ (by assumption) ?_
      rotate_left
      · intro w hSw; (try dsimp only at hSw); go_simp; (try with_reducible rfl)
      (try simp only [Act.put, List.setIfInBounds_toArray, List.set_cons_zero, List.set_cons_succ])
      refine take_on (i := 31) (v := ?_) (some 94) rfl (by kernel_rfl) (by kernel_rfl) (by kernel_rfl) rfl (fun _ _ _ h => h) (wanted_on (k := 24) (d := 87) (b := false) rfl rfl rfl) ?_ (by assumption) ?_
      rotate_left
      · intro w hSw; (try dsimp only at hSw); go_simp; (try with_reducible rfl)
      (try simp only [Act.put, List.setIfInBounds_toArray, List.set_cons_zero, List.set_cons_succ])
      refine take_on (i := 32) (v := ?_) (some 95) rfl (by kernel_rfl) (by kernel_rfl) (by kernel_rfl) rfl (fun _ _ _ h => h) (wanted_on (k := 24) (d := 87) (b := false) rfl rfl rfl) ?_ (by assumption) ?_
      rotate_left
      · intro w hSw; (try dsimp only at hSw); go_simp; (try with_reducible rfl)
      (try simp only [Act.put, List.setIfInBounds_toArray, List.set_cons_zero, List.set_cons_succ])
      refine take_on (i := 33) (v := ?_) (some 96) rfl (by kernel_rfl) (by kernel_rfl) (by kernel_rfl) rfl (fun _ _ _ h => h) (wanted_on (k := 24) (d := 87) (b := false) rfl rfl rfl) ?_ (by assumption) ?_
      rotate_left
      · intro w hSw; (try dsimp only at hSw); go_simp; (try with_reducible rfl)
      (try simp only [Act.put, List.setIfInBounds_toArray, List.set_cons_zero, List.set_cons_succ])
      refine take_on (i := 34) (v := ?_) (some 97) rfl (by kernel_rfl) (by kernel_rfl) (by kernel_rfl) rfl (fun _ _ _ h => h) (by rfl) ?_ (by assumption) ?_
      rotate_left
      · intro w hSw; (try dsimp only at hSw); go_simp; (try with_reducible rfl)
      (try simp only [Act.put, List.setIfInBounds_toArray, List.set_cons_zero, List.set_cons_succ])
      refine take_on (i := 35) (v := ?_) (some 98) rfl (by kernel_rfl) (by kernel_rfl) (by kernel_rfl) rfl (fun _ _ _ h => h) (by rfl) ?_ (by assumption) ?_
      rotate_left
      · intro w hSw; (try dsimp only at hSw); go_simp; (try with_reducible rfl)
      (try simp only [Act.put, List.setIfInBounds_toArray, List.set_cons_zero, List.set_cons_succ])
      refine take_on (i := 36) (v := ?_) (some 99) rfl (by kernel_rfl) (by kernel_rfl) (by kernel_rfl) rfl (fun _ _ _ h => h) (wanted_on (k := 35) (d := 98) (b := false) rfl rfl rfl) ?_ (by assumption) ?_
      rotate_left
      · intro w hSw; (try dsimp only at hSw); go_simp; (try with_reducible rfl)
      (try simp only [Act.put, List.setIfInBounds_toArray, List.set_cons_zero, List.set_cons_succ])
      refine take_on (i := 37) (v := ?_) (some 100) rfl (by kernel_rfl) (by kernel_rfl) (by kernel_rfl) rfl (fun _ _ _ h => h) (wanted_on (k := 35) (d := 98) (b := false) rfl rfl rfl) ?_ (by assumption) ?_
      rotate_left
      · intro w hSw; (try dsimp only at hSw); go_simp; (try with_reducible rfl)
      (try simp only [Act.put, List.setIfInBounds_toArray, List.set_cons_zero, List.set_cons_succ])
      refine take_on (i := 38) (v := ?_) (some 101) rfl (by kernel_rfl) (by kernel_rfl) (by kernel_rfl) rfl (fun _ _ _ h => h) (wanted_on (k := 35) (d := 98) (b := false) rfl rfl rfl) ?_ (by assumption) ?_
      rotate_left
      · intro w hSw; (try dsimp only at hSw); go_simp; (try with_reducible rfl)
      (try simp only [Act.put, List.setIfInBounds_toArray, List.set_cons_zero, List.set_cons_succ])
      refine take_on (i := 39) (v := ?_) (some 102) rfl (by kernel_rfl) (by kernel_rfl) (by kernel_rfl) rfl (fun _ _ _ h => h) (wanted_on (k := 35) (d := 98) (b := false) rfl rfl rfl) ?_ (by assumption) ?_
      rotate_left
      · intro w hSw; (try dsimp only at hSw); go_simp; (try with_reducible rfl)
      (try simp only [Act.put, List.setIfInBounds_toArray, List.set_cons_zero, List.set_cons_succ])
      refine take_on (i := 40) (v := ?_) (some 103) rfl (by kernel_rfl) (by kernel_rfl) (by kernel_rfl) rfl (fun _ _ _ h => h) (wanted_on (k := 35) (d := 98) (b := false) rfl rfl rfl) ?_ (by assumption) ?_
      rotate_left
      · intro w hSw; (try dsimp only at hSw); go_simp; (try with_reducible rfl)
      (try simp only [Act.put, List.setIfInBounds_toArray, List.set_cons_zero, List.set_cons_succ])
      refine take_on (i := 41) (v := ?_) (some 104) rfl (by kernel_rfl) (by kernel_rfl) (by kernel_rfl) rfl (fun _ _ _ h => h) (wanted_on (k := 35) (d := 98) (b := false) rfl rfl rfl) ?_ (by assumption) ?_
      rotate_left
      · intro w hSw; (try dsimp only at hSw); go_simp; (try with_reducible rfl)
      (try simp only [Act.put, List.setIfInBounds_toArray, List.set_cons_zero, List.set_cons_succ])
      refine take_on (i := 42) (v := ?_) (some 105) rfl (by kernel_rfl) (by kernel_rfl) (by kernel_rfl) rfl (fun _ _ _ h => h) (wanted_on (k := 35) (d := 98) (b := false) rfl rfl rfl) ?_ (by assumption) ?_
      rotate_left
      · intro w hSw; (try dsimp only at hSw); go_simp; (try with_reducible rfl)
      (try simp only [Act.put, List.setIfInBounds_toArray, List.set_cons_zero, List.set_cons_succ])
      refine take_on (i := 43) (v := ?_) (some 106) rfl (by kernel_rfl) (by kernel_rfl) (by kernel_rfl) rfl (fun _ _ _ h => h) (wanted_on (k := 35) (d := 98) (b := false) rfl rfl rfl) ?_ (by assumption) ?_
      rotate_left
      · intro w hSw; (try dsimp only at hSw); go_simp; (try with_reducible rfl)
      (try simp only [Act.put, List.setIfInBounds_toArray, List.set_cons_zero, List.set_cons_succ])
      refine take_on (i := 44) (v := ?_) (some 107) rfl (by kernel_rfl) (by kernel_rfl) (by kernel_rfl) rfl (fun _ _ _ h => h) (wanted_on (k := 35) (d := 98) (b := false) rfl rfl rfl) ?_ (by assumption) ?_
      rotate_left
      · intro w hSw; (try dsimp only at hSw); go_simp; (try with_reducible rfl)
      (try simp only [Act.put, List.setIfInBounds_toArray, List.set_cons_zero, List.set_cons_succ])
      refine take_on (i := 45) (v := ?_) (some 108) rfl (by kernel_rfl) (by kernel_rfl) (by kernel_rfl) rfl (fun _ _ _ h => h) (by rfl) ?_ (by assumption) ?_
      rotate_left
      · intro w hSw; (try dsimp only at hSw); go_simp; (try with_reducible rfl)
      (try simp only [Act.put, List.setIfInBounds_toArray, List.set_cons_zero, List.set_cons_succ])
      refine wpAnyH_done (by kernel_rfl) ?_ _
      have be_e := be9.trans (bs_2.mono be9.size)
      have cQe := rowCells hQ_2
      have cRe := rowCells hR_2
      clear hs1 hs2 hs3 hs4 g1 g2 g3 g4 g5 g6 z1 z2 z3 z4 r1 r2 r3 r4 r5 r6 hso hszf hsl rl9
      cases T with
      | false =>
        obtain ⟨k1, k2, k3, k4⟩ := hgo rfl
        have HK1 := Lib.hid k1
        clear hgo hstop
        subst k1 k2
        rw [k3, k4] at cRe
        clear k3 k4
        go_wp2_with (fail)
        go_roundw
        case rel => exact ⟨k + 1, by omega, by go_num, be_e⟩
        case measure => simp [intOf]; omega
      | true =>
        have hst := hstop rfl
        clear hgo hstop
        by_cases hv0 : c.vx = 0
        · have z7 : ((c.vx : Int) == 0) = true := by simpa using hv0
          have z8 : ((c.vx : Int) != 0) = false := by simp [hv0]
          clear hst
          go_wp2_with (fail)
          go_roundw
          case rel => exact ⟨k + 1, by omega, by go_num, be_e⟩
          case measure => simp [intOf]; omega
        · have hy0 : c.vy = 0 := hst.resolve_left hv0
          have z7 : ((c.vx : Int) == 0) = false := by simpa using hv0
          have z8 : ((c.vx : Int) != 0) = true := by simpa using hv0
          have z9 : ((c.vy : Int) == 0) = true := by simpa using hy0
          have z10 : ((c.vy : Int) != 0) = false := by simp [hy0]
          clear hst
          go_wp2_with (fail)
          go_roundw
          case rel => exact ⟨k + 1, by omega, by go_num, be_e⟩
          case measure => simp [intOf]; omega
    · have hkn : ¬ (k : Int) < (N : Int) := by omega
      have hz : decide (0 < N) = true := decide_eq_true (by omega)
      go_wp2_with (fail)
      go_ret
      exact ⟨by simp [hz], bwr⟩

end Go.Proofs.YtdnnejohfhmliaaDoor
