/-
  Texts of this proof: SteerI.
-/
import Derived.Test.YtnlonkkbjkfkmaaGreatDoorM22
import Derived.Deep.Cut
import Derived.Deep.CutBlock
namespace Go.Proofs.YtnlonkkbjkfkmaaGreatDoor
open Go.RowKit
set_option linter.all false
def tm1 (b : Bd) : Int := if 0 < b.timer then b.timer - 1 else b.timer
def vxI (b : Bd) (i : Int) : Int := if bits .and .i64 i 3 = 2 then 3 else if bits .and .i64 i 3 = 1 then -3 else 0
def amI (b : Bd) (i : Int) : Int := if bits .and .i64 i 3 = 2 then 1 else if bits .and .i64 i 3 = 1 then -1 else b.aim
def vyI (L : Rowz) (b : Bd) (i : Int) : Int := if bits .and .i64 i 4 = 4 ∧ blockB L b.x (b.y + 1) 12 = true then -9 else min (b.vy + 1) 8
def strT (b : Bd) (i : Int) : Bool := decide (bits .and .i64 i 8 = 8) && decide (tm1 b = 0)
def strB (L : Rowz) (b : Bd) (i : Int) : Bd := ⟨b.kind, b.owner, b.x, b.y, vxI b i, vyI L b i, amI b i, b.life, if strT b i = true then 12 else tm1 b⟩
theorem inp_cases (i : Int) (h0 : 0 ≤ i) (h1 : i ≤ 15) :
  ((bits .and .i64 i 3 = 0 ∧ bits .and .i64 i 1 = 0 ∧ bits .and .i64 i 2 = 0) ∨ (bits .and .i64 i 3 = 1 ∧ bits .and .i64 i 1 = 1 ∧ bits .and .i64 i 2 = 0) ∨ (bits .and .i64 i 3 = 2 ∧ bits .and .i64 i 1 = 0 ∧ bits .and .i64 i 2 = 2) ∨ (bits .and .i64 i 3 = 3 ∧ bits .and .i64 i 1 = 1 ∧ bits .and .i64 i 2 = 2)) ∧ (bits .and .i64 i 4 = 0 ∨ bits .and .i64 i 4 = 4) ∧ (bits .and .i64 i 8 = 0 ∨ bits .and .i64 i 8 = 8) := by
 have key : ∀ n : Fin 16, ((bits .and .i64 ((n : Nat) : Int) 3 = 0 ∧ bits .and .i64 ((n : Nat) : Int) 1 = 0 ∧ bits .and .i64 ((n : Nat) : Int) 2 = 0) ∨ (bits .and .i64 ((n : Nat) : Int) 3 = 1 ∧ bits .and .i64 ((n : Nat) : Int) 1 = 1 ∧ bits .and .i64 ((n : Nat) : Int) 2 = 0) ∨ (bits .and .i64 ((n : Nat) : Int) 3 = 2 ∧ bits .and .i64 ((n : Nat) : Int) 1 = 0 ∧ bits .and .i64 ((n : Nat) : Int) 2 = 2) ∨ (bits .and .i64 ((n : Nat) : Int) 3 = 3 ∧ bits .and .i64 ((n : Nat) : Int) 1 = 1 ∧ bits .and .i64 ((n : Nat) : Int) 2 = 2)) ∧ (bits .and .i64 ((n : Nat) : Int) 4 = 0 ∨ bits .and .i64 ((n : Nat) : Int) 4 = 4) ∧ (bits .and .i64 ((n : Nat) : Int) 8 = 0 ∨ bits .and .i64 ((n : Nat) : Int) 8 = 8) := by decide
 obtain ⟨n, rfl⟩ := Int.eq_ofNat_of_zero_le h0
 exact key ⟨n, by omega⟩
theorem str_jump {L : Rowz} {b : Bd} {i : Int} (h : bits .and .i64 i 4 = 4) (hs : blockB L b.x (b.y + 1) 12 = true) : vyI L b i = -9 := by unfold vyI; rw [if_pos ⟨h, hs⟩]
theorem str_fall {L : Rowz} {b : Bd} {i : Int} (hs : blockB L b.x (b.y + 1) 12 = false) : vyI L b i = min (b.vy + 1) 8 := by unfold vyI; rw [if_neg]; rw [hs]; simp
theorem str_free {L : Rowz} {b : Bd} {i : Int} (h : bits .and .i64 i 4 = 0) : vyI L b i = min (b.vy + 1) 8 := by unfold vyI; rw [if_neg]; rw [h]; simp
set_option maxRecDepth 100000 in
set_option maxHeartbeats 20000000 in
theorem steerIn_impl {w : World} {v : Value} {L : Rowz} (h : RdS w v L) (hg : Good L) (b : Bd) (hk : b.kind = 0) (hx : I64 b.x) (hy : -9223372036854775808 ≤ b.y ∧ b.y ≤ 1000) (ht : 0 ≤ b.timer ∧ b.timer ≤ 12) (hvy : -15 ≤ b.vy ∧ b.vy ≤ 15) (i : Int) (hi : 0 ≤ i ∧ i ≤ 15) :
  Calls Tryz.prog 204 #[.agg #[v], .agg #[.int .i64 b.kind, .int .i64 b.owner, .int .i64 b.x, .int .i64 b.y, .int .i64 b.vx, .int .i64 b.vy, .int .i64 b.aim, .int .i64 b.life, .int .i64 b.timer], .int .i64 i] w fun e w' => e = .returned (.tuple #[bdV (strB L b i), .bool (strT b i)]) ∧ Below w.heap.size w w' := by
 obtain ⟨a, cap, rfl, -⟩ := id h
 obtain ⟨hd, hj, hf⟩ := inp_cases i hi.1 hi.2
 have HK := Lib.hid hk
 have hyw : IntKind.i64.wrap (b.y + 1) = b.y + 1 := IntWalk.i64_in _ (by omega)
 obtain ⟨m, hm⟩ : ∃ m, tm1 b = m := ⟨_, rfl⟩
 obtain ⟨vx1, hvx⟩ : ∃ m, vxI b i = m := ⟨_, rfl⟩
 obtain ⟨am1, ham⟩ : ∃ m, amI b i = m := ⟨_, rfl⟩
 have HM := Lib.hid hm
 have HVX := Lib.hid hvx
 have HAM := Lib.hid ham
 have hm0 : 0 ≤ m := by rw [← hm]; unfold tm1; split <;> omega
 have hmx : max (b.timer - 1) 0 = m := by rw [← hm]; unfold tm1; split <;> omega
 clear hm hvx ham
 go_enter Tryz.func204, Tryz.ntmps204
 go_upto_block 0 with (fail)
 go_cut [7] from 8 (fun t wr => t = .bool false ∧ wr.heap[w.heap.size]? = some (.cells #[Value.slice a L.length cap] 26 (0, 0)) ∧ wr.heap[w.heap.size + 1]? = some (.cells #[Value.int .i64 0, .int .i64 b.owner, .int .i64 b.x, .int .i64 b.y, .int .i64 (vx1), .int .i64 b.vy, .int .i64 (am1), .int .i64 b.life, .int .i64 (m)] 100 (0, 0)) ∧ wr.heap[w.heap.size + 1 + 1]? = some (.cells #[Value.int .i64 0, .int .i64 0, .int .i64 0, .int .i64 0, .int .i64 0, .int .i64 0, .int .i64 0, .int .i64 0, .int .i64 0] 100 (0, 0)) ∧ Below w.heap.size w wr)
 case first =>
  rcases hd with ⟨e3, e1, e2⟩ | ⟨e3, e1, e2⟩ | ⟨e3, e1, e2⟩ | ⟨e3, e1, e2⟩
  ·have ev : vx1 = 0 := by rw [← HVX.out]; unfold vxI; rw [e3]; rfl
   have ea : am1 = b.aim := by rw [← HAM.out]; unfold amI; rw [e3]; rfl
   obtain ⟨W1, hW1, hA, hB, hC, hB0, hS0⟩ := rows3 w #[Value.slice a L.length cap] #[Value.int .i64 0, .int .i64 b.owner, .int .i64 b.x, .int .i64 b.y, .int .i64 (0), .int .i64 b.vy, .int .i64 (b.aim), .int .i64 b.life, .int .i64 (m)] #[Value.int .i64 0, .int .i64 0, .int .i64 0, .int .i64 0, .int .i64 0, .int .i64 0, .int .i64 0, .int .i64 0, .int .i64 0] 26 100 100
   have EV := Lib.hid ev
   have EA := Lib.hid ea
   clear ev ea
   go_wp2_with (fail)
   try rw [hW1]
   clear hW1
   go_meet
   case rel => exact ⟨rfl, hA, by rw [EV.out, EA.out]; exact hB, hC, hB0⟩
  ·have ev : vx1 = -3 := by rw [← HVX.out]; unfold vxI; rw [e3]; rfl
   have ea : am1 = -1 := by rw [← HAM.out]; unfold amI; rw [e3]; rfl
   obtain ⟨W1, hW1, hA, hB, hC, hB0, hS0⟩ := rows3 w #[Value.slice a L.length cap] #[Value.int .i64 0, .int .i64 b.owner, .int .i64 b.x, .int .i64 b.y, .int .i64 (-3), .int .i64 b.vy, .int .i64 (-1), .int .i64 b.life, .int .i64 (m)] #[Value.int .i64 0, .int .i64 0, .int .i64 0, .int .i64 0, .int .i64 0, .int .i64 0, .int .i64 0, .int .i64 0, .int .i64 0] 26 100 100
   have EV := Lib.hid ev
   have EA := Lib.hid ea
   clear ev ea
   go_wp2_with (fail)
   try rw [hW1]
   clear hW1
   go_meet
   case rel => exact ⟨rfl, hA, by rw [EV.out, EA.out]; exact hB, hC, hB0⟩
  ·have ev : vx1 = 3 := by rw [← HVX.out]; unfold vxI; rw [e3]; rfl
   have ea : am1 = 1 := by rw [← HAM.out]; unfold amI; rw [e3]; rfl
   obtain ⟨W1, hW1, hA, hB, hC, hB0, hS0⟩ := rows3 w #[Value.slice a L.length cap] #[Value.int .i64 0, .int .i64 b.owner, .int .i64 b.x, .int .i64 b.y, .int .i64 (3), .int .i64 b.vy, .int .i64 (1), .int .i64 b.life, .int .i64 (m)] #[Value.int .i64 0, .int .i64 0, .int .i64 0, .int .i64 0, .int .i64 0, .int .i64 0, .int .i64 0, .int .i64 0, .int .i64 0] 26 100 100
   have EV := Lib.hid ev
   have EA := Lib.hid ea
   clear ev ea
   go_wp2_with (fail)
   try rw [hW1]
   clear hW1
   go_meet
   case rel => exact ⟨rfl, hA, by rw [EV.out, EA.out]; exact hB, hC, hB0⟩
  ·have ev : vx1 = 0 := by rw [← HVX.out]; unfold vxI; rw [e3]; rfl
   have ea : am1 = b.aim := by rw [← HAM.out]; unfold amI; rw [e3]; rfl
   obtain ⟨W1, hW1, hA, hB, hC, hB0, hS0⟩ := rows3 w #[Value.slice a L.length cap] #[Value.int .i64 0, .int .i64 b.owner, .int .i64 b.x, .int .i64 b.y, .int .i64 (0), .int .i64 b.vy, .int .i64 (b.aim), .int .i64 b.life, .int .i64 (m)] #[Value.int .i64 0, .int .i64 0, .int .i64 0, .int .i64 0, .int .i64 0, .int .i64 0, .int .i64 0, .int .i64 0, .int .i64 0] 26 100 100
   have EV := Lib.hid ev
   have EA := Lib.hid ea
   clear ev ea
   go_wp2_with (fail)
   try rw [hW1]
   clear hW1
   go_meet
   case rel => exact ⟨rfl, hA, by rw [EV.out, EA.out]; exact hB, hC, hB0⟩
 obtain ⟨rfl, hA, hB, hC, hB0⟩ := hcut
 clear hd
 rcases hj with e4 | e4
 ·have E4 := Lib.hid e4
  have HV := Lib.hid (show vyI L b i = min (b.vy + 1) 8 from str_free E4.out)
  rcases hf with e8 | e8
  ·have E8 := Lib.hid e8
   have HT := Lib.hid (show strT b i = false by unfold strT; rw [E8.out, HM.out]; rfl)
   have HS := Lib.hid (show strB L b i = ⟨0, b.owner, b.x, b.y, vx1, min (b.vy + 1) 8, am1, b.life, m⟩ by unfold strB; rw [HT.out, HV.out, HM.out, HVX.out, HAM.out, HK.out]; rfl)
   have h1 := h.keep hB0
   go_upto_region 8 with (fail)
   have bs_0 : Below wc.heap.size wc wc.drew := belowDrew wc 1
   refine wp_region_held_drew (S := (fun w' => (∀ j, w'.cell? ⟨w.heap.size, j, none⟩ = #[Value.slice a L.length cap][j]?) ∧ (∀ j, w'.cell? ⟨w.heap.size + 1, j, none⟩ = #[Value.int .i64 0, .int .i64 b.owner, .int .i64 b.x, .int .i64 b.y, .int .i64 (vx1), .int .i64 (b.vy), .int .i64 (am1), .int .i64 b.life, .int .i64 (m)][j]?))) (by kernel_rfl) ?_ (fun hHeld => ?_)
   ·exact ⟨rowCells (keepHeap bs_0 hA), rowCells (keepHeap bs_0 hB)⟩
   refine tk 0 24 ?_
   (try simp only [zP, zA, zB, zC])
   refine tk 1 25 ?_
   (try simp only [zP, zA, zB, zC])
   refine tk 2 26 ?_
   (try simp only [zP, zA, zB, zC])
   refine tk 3 27 ?_
   (try simp only [zP, zA, zB, zC])
   refine tof 4 28 3 27 true false ?_
   (try simp only [zP, zA, zB, zC])
   refine tof 5 29 3 27 true false ?_
   (try simp only [zP, zA, zB, zC])
   refine tof 6 30 3 27 true false ?_
   (try simp only [zP, zA, zB, zC])
   refine tof 7 31 3 27 true false ?_
   (try simp only [zP, zA, zB, zC])
   refine tof 8 32 3 27 true false ?_
   (try simp only [zP, zA, zB, zC])
   refine tof 9 33 3 27 true false ?_
   (try simp only [zP, zA, zB, zC])
   refine tof 10 34 3 27 true false ?_
   (try simp only [zP, zA, zB, zC])
   refine tof 11 35 3 27 true false ?_
   (try simp only [zP, zA, zB, zC])
   refine tof 12 36 3 27 true false ?_
   (try simp only [zP, zA, zB, zC])
   refine tof 13 37 3 27 true false ?_
   (try simp only [zP, zA, zB, zC])
   refine tk 14 38 ?_
   (try simp only [zP, zA, zB, zC])
   refine wpAnyH_done (by kernel_rfl) ?_ _
   have hA2 := keepHeap bs_0 hA
   have hB2 := keepHeap bs_0 hB
   have hC2 := keepHeap bs_0 hC
   have hb2 := hB0.trans (bs_0.mono hB0.size)
   have cB2 := rowCells hB2
   have fB2 := fun j => frozenHeap hB2 j
   have hB3 := setHeap (k := 5) (v := .int .i64 (min (b.vy + 1) 8)) hB2
   have hC3 := farHeap (p := ⟨w.heap.size + 1, 5, none⟩) hC2 (by show w.heap.size + 1 + 1 ≠ w.heap.size + 1; omega) (.int .i64 (min (b.vy + 1) 8))
   have hb3 := hb2.setCell (p := ⟨w.heap.size + 1, 5, none⟩) (by show w.heap.size ≤ w.heap.size + 1; omega) (.int .i64 (min (b.vy + 1) 8))
   obtain ⟨W3, hW3⟩ : ∃ W3, (wc.drew).setCell ⟨w.heap.size + 1, 5, none⟩ (.int .i64 (min (b.vy + 1) 8)) = W3 := ⟨_, rfl⟩
   rw [hW3] at hB3 hC3 hb3
   go_upto_region 11 with (fail)
   try rw [hW3]
   clear hW3 cB2 fB2 hA2 hB2 hC2 hb2
   have hB4 : W3.heap[w.heap.size + 1]? = some (.cells #[Value.int .i64 0, .int .i64 b.owner, .int .i64 b.x, .int .i64 b.y, .int .i64 (vx1), .int .i64 (min (b.vy + 1) 8), .int .i64 (am1), .int .i64 b.life, .int .i64 (m)] 100 (0, 0)) := hB3
   have cB4 := rowCells hB4
   have fB4 := fun j => frozenHeap hB4 j
   have cC6 := rowCells hC3
   have fC6 := fun j => frozenHeap hC3 j
   go_wp2_with (fail)
   obtain ⟨c, hc⟩ : ∃ c : Bd, c = ⟨0, b.owner, b.x, b.y, vx1, min (b.vy + 1) 8, am1, b.life, m⟩ := ⟨_, rfl⟩
   have hP := putB_heap hC3 rfl c c.x c.y c.vx c.vy
   have hL := load_bd hP rfl
   have hbP := putB_below hb3 (c := w.heap.size + 1 + 1) (by omega) c c.x c.y c.vx c.vy
   subst hc
   unfold putB at hL hbP
   exact bodyPost_ret (v := .tuple #[.agg (bmv (⟨0, b.owner, b.x, b.y, vx1, min (b.vy + 1) 8, am1, b.life, m⟩) b.x b.y (vx1) (min (b.vy + 1) 8)), .bool false]) (results_two rfl _ _ _ _ _ rfl rfl hL) rfl ⟨by rw [HS.out, HT.out]; rfl, hbP⟩
  ·have E8 := Lib.hid e8
   by_cases hz : m = 0
   ·have hz1 : decide (0 < m) = false := by simp; omega
    have hz2 : (m == 0) = true := by simp [hz]
    have HT := Lib.hid (show strT b i = true by unfold strT; rw [E8.out, HM.out]; simp [hz])
    have HS := Lib.hid (show strB L b i = ⟨0, b.owner, b.x, b.y, vx1, min (b.vy + 1) 8, am1, b.life, 12⟩ by unfold strB; rw [HT.out, HV.out, HM.out, HVX.out, HAM.out, HK.out]; rfl)
    clear hz
    have h1 := h.keep hB0
    go_upto_region 8 with (fail)
    have bs_0 : Below wc.heap.size wc wc.drew := belowDrew wc 1
    refine wp_region_held_drew (S := (fun w' => (∀ j, w'.cell? ⟨w.heap.size, j, none⟩ = #[Value.slice a L.length cap][j]?) ∧ (∀ j, w'.cell? ⟨w.heap.size + 1, j, none⟩ = #[Value.int .i64 0, .int .i64 b.owner, .int .i64 b.x, .int .i64 b.y, .int .i64 (vx1), .int .i64 (b.vy), .int .i64 (am1), .int .i64 b.life, .int .i64 (m)][j]?))) (by kernel_rfl) ?_ (fun hHeld => ?_)
    ·exact ⟨rowCells (keepHeap bs_0 hA), rowCells (keepHeap bs_0 hB)⟩
    refine tk 0 24 ?_
    (try simp only [zP, zA, zB, zC])
    refine tk 1 25 ?_
    (try simp only [zP, zA, zB, zC])
    refine tk 2 26 ?_
    (try simp only [zP, zA, zB, zC])
    refine tk 3 27 ?_
    (try simp only [zP, zA, zB, zC])
    refine tof 4 28 3 27 true false ?_
    (try simp only [zP, zA, zB, zC])
    refine tof 5 29 3 27 true false ?_
    (try simp only [zP, zA, zB, zC])
    refine tof 6 30 3 27 true false ?_
    (try simp only [zP, zA, zB, zC])
    refine tof 7 31 3 27 true false ?_
    (try simp only [zP, zA, zB, zC])
    refine tof 8 32 3 27 true false ?_
    (try simp only [zP, zA, zB, zC])
    refine tof 9 33 3 27 true false ?_
    (try simp only [zP, zA, zB, zC])
    refine tof 10 34 3 27 true false ?_
    (try simp only [zP, zA, zB, zC])
    refine tof 11 35 3 27 true false ?_
    (try simp only [zP, zA, zB, zC])
    refine tof 12 36 3 27 true false ?_
    (try simp only [zP, zA, zB, zC])
    refine tof 13 37 3 27 true false ?_
    (try simp only [zP, zA, zB, zC])
    refine tk 14 38 ?_
    (try simp only [zP, zA, zB, zC])
    refine wpAnyH_done (by kernel_rfl) ?_ _
    have hA2 := keepHeap bs_0 hA
    have hB2 := keepHeap bs_0 hB
    have hC2 := keepHeap bs_0 hC
    have hb2 := hB0.trans (bs_0.mono hB0.size)
    have cB2 := rowCells hB2
    have fB2 := fun j => frozenHeap hB2 j
    have hB3 := setHeap (k := 5) (v := .int .i64 (min (b.vy + 1) 8)) hB2
    have hC3 := farHeap (p := ⟨w.heap.size + 1, 5, none⟩) hC2 (by show w.heap.size + 1 + 1 ≠ w.heap.size + 1; omega) (.int .i64 (min (b.vy + 1) 8))
    have hb3 := hb2.setCell (p := ⟨w.heap.size + 1, 5, none⟩) (by show w.heap.size ≤ w.heap.size + 1; omega) (.int .i64 (min (b.vy + 1) 8))
    obtain ⟨W3, hW3⟩ : ∃ W3, (wc.drew).setCell ⟨w.heap.size + 1, 5, none⟩ (.int .i64 (min (b.vy + 1) 8)) = W3 := ⟨_, rfl⟩
    rw [hW3] at hB3 hC3 hb3
    go_upto_region 11 with (fail)
    try rw [hW3]
    clear hW3 cB2 fB2 hA2 hB2 hC2 hb2
    have hB4 : W3.heap[w.heap.size + 1]? = some (.cells #[Value.int .i64 0, .int .i64 b.owner, .int .i64 b.x, .int .i64 b.y, .int .i64 (vx1), .int .i64 (min (b.vy + 1) 8), .int .i64 (am1), .int .i64 b.life, .int .i64 (m)] 100 (0, 0)) := hB3
    have cB4 := rowCells hB4
    have fB4 := fun j => frozenHeap hB4 j
    have hB5 := setHeap (k := 8) (v := .int .i64 12) hB4
    have hC5 := farHeap (p := ⟨w.heap.size + 1, 8, none⟩) hC3 (by show w.heap.size + 1 + 1 ≠ w.heap.size + 1; omega) (.int .i64 12)
    have hb5 := hb3.setCell (p := ⟨w.heap.size + 1, 8, none⟩) (by show w.heap.size ≤ w.heap.size + 1; omega) (.int .i64 12)
    obtain ⟨W5, hW5⟩ : ∃ W5, W3.setCell ⟨w.heap.size + 1, 8, none⟩ (.int .i64 12) = W5 := ⟨_, rfl⟩
    rw [hW5] at hB5 hC5 hb5
    go_upto_region 14 with (fail)
    try rw [hW5]
    clear hW5 cB4 fB4
    have hB6 : W5.heap[w.heap.size + 1]? = some (.cells #[Value.int .i64 0, .int .i64 b.owner, .int .i64 b.x, .int .i64 b.y, .int .i64 (vx1), .int .i64 (min (b.vy + 1) 8), .int .i64 (am1), .int .i64 b.life, .int .i64 (12)] 100 (0, 0)) := hB5
    have cB6 := rowCells hB6
    have cC6 := rowCells hC5
    have fC6 := fun j => frozenHeap hC5 j
    go_wp2_with (fail)
    obtain ⟨c, hc⟩ : ∃ c : Bd, c = ⟨0, b.owner, b.x, b.y, vx1, min (b.vy + 1) 8, am1, b.life, 12⟩ := ⟨_, rfl⟩
    have hP := putB_heap hC5 rfl c c.x c.y c.vx c.vy
    have hL := load_bd hP rfl
    have hbP := putB_below hb5 (c := w.heap.size + 1 + 1) (by omega) c c.x c.y c.vx c.vy
    subst hc
    unfold putB at hL hbP
    exact bodyPost_ret (v := .tuple #[.agg (bmv (⟨0, b.owner, b.x, b.y, vx1, min (b.vy + 1) 8, am1, b.life, 12⟩) b.x b.y (vx1) (min (b.vy + 1) 8)), .bool true]) (results_two rfl _ _ _ _ _ rfl rfl hL) rfl ⟨by rw [HS.out, HT.out]; rfl, hbP⟩
   ·have hz1 : decide (0 < m) = true := by simp; omega
    have hz2 : (m == 0) = false := by simp [hz]
    have HT := Lib.hid (show strT b i = false by unfold strT; rw [E8.out, HM.out]; simp [hz])
    have HS := Lib.hid (show strB L b i = ⟨0, b.owner, b.x, b.y, vx1, min (b.vy + 1) 8, am1, b.life, m⟩ by unfold strB; rw [HT.out, HV.out, HM.out, HVX.out, HAM.out, HK.out]; rfl)
    clear hz
    have h1 := h.keep hB0
    go_upto_region 8 with (fail)
    have bs_0 : Below wc.heap.size wc wc.drew := belowDrew wc 1
    refine wp_region_held_drew (S := (fun w' => (∀ j, w'.cell? ⟨w.heap.size, j, none⟩ = #[Value.slice a L.length cap][j]?) ∧ (∀ j, w'.cell? ⟨w.heap.size + 1, j, none⟩ = #[Value.int .i64 0, .int .i64 b.owner, .int .i64 b.x, .int .i64 b.y, .int .i64 (vx1), .int .i64 (b.vy), .int .i64 (am1), .int .i64 b.life, .int .i64 (m)][j]?))) (by kernel_rfl) ?_ (fun hHeld => ?_)
    ·exact ⟨rowCells (keepHeap bs_0 hA), rowCells (keepHeap bs_0 hB)⟩
    refine tk 0 24 ?_
    (try simp only [zP, zA, zB, zC])
    refine tk 1 25 ?_
    (try simp only [zP, zA, zB, zC])
    refine tk 2 26 ?_
    (try simp only [zP, zA, zB, zC])
    refine tk 3 27 ?_
    (try simp only [zP, zA, zB, zC])
    refine tof 4 28 3 27 true false ?_
    (try simp only [zP, zA, zB, zC])
    refine tof 5 29 3 27 true false ?_
    (try simp only [zP, zA, zB, zC])
    refine tof 6 30 3 27 true false ?_
    (try simp only [zP, zA, zB, zC])
    refine tof 7 31 3 27 true false ?_
    (try simp only [zP, zA, zB, zC])
    refine tof 8 32 3 27 true false ?_
    (try simp only [zP, zA, zB, zC])
    refine tof 9 33 3 27 true false ?_
    (try simp only [zP, zA, zB, zC])
    refine tof 10 34 3 27 true false ?_
    (try simp only [zP, zA, zB, zC])
    refine tof 11 35 3 27 true false ?_
    (try simp only [zP, zA, zB, zC])
    refine tof 12 36 3 27 true false ?_
    (try simp only [zP, zA, zB, zC])
    refine tof 13 37 3 27 true false ?_
    (try simp only [zP, zA, zB, zC])
    refine tk 14 38 ?_
    (try simp only [zP, zA, zB, zC])
    refine wpAnyH_done (by kernel_rfl) ?_ _
    have hA2 := keepHeap bs_0 hA
    have hB2 := keepHeap bs_0 hB
    have hC2 := keepHeap bs_0 hC
    have hb2 := hB0.trans (bs_0.mono hB0.size)
    have cB2 := rowCells hB2
    have fB2 := fun j => frozenHeap hB2 j
    have hB3 := setHeap (k := 5) (v := .int .i64 (min (b.vy + 1) 8)) hB2
    have hC3 := farHeap (p := ⟨w.heap.size + 1, 5, none⟩) hC2 (by show w.heap.size + 1 + 1 ≠ w.heap.size + 1; omega) (.int .i64 (min (b.vy + 1) 8))
    have hb3 := hb2.setCell (p := ⟨w.heap.size + 1, 5, none⟩) (by show w.heap.size ≤ w.heap.size + 1; omega) (.int .i64 (min (b.vy + 1) 8))
    obtain ⟨W3, hW3⟩ : ∃ W3, (wc.drew).setCell ⟨w.heap.size + 1, 5, none⟩ (.int .i64 (min (b.vy + 1) 8)) = W3 := ⟨_, rfl⟩
    rw [hW3] at hB3 hC3 hb3
    go_upto_region 11 with (fail)
    try rw [hW3]
    clear hW3 cB2 fB2 hA2 hB2 hC2 hb2
    have hB4 : W3.heap[w.heap.size + 1]? = some (.cells #[Value.int .i64 0, .int .i64 b.owner, .int .i64 b.x, .int .i64 b.y, .int .i64 (vx1), .int .i64 (min (b.vy + 1) 8), .int .i64 (am1), .int .i64 b.life, .int .i64 (m)] 100 (0, 0)) := hB3
    have cB4 := rowCells hB4
    have fB4 := fun j => frozenHeap hB4 j
    have cC6 := rowCells hC3
    have fC6 := fun j => frozenHeap hC3 j
    go_wp2_with (fail)
    obtain ⟨c, hc⟩ : ∃ c : Bd, c = ⟨0, b.owner, b.x, b.y, vx1, min (b.vy + 1) 8, am1, b.life, m⟩ := ⟨_, rfl⟩
    have hP := putB_heap hC3 rfl c c.x c.y c.vx c.vy
    have hL := load_bd hP rfl
    have hbP := putB_below hb3 (c := w.heap.size + 1 + 1) (by omega) c c.x c.y c.vx c.vy
    subst hc
    unfold putB at hL hbP
    exact bodyPost_ret (v := .tuple #[.agg (bmv (⟨0, b.owner, b.x, b.y, vx1, min (b.vy + 1) 8, am1, b.life, m⟩) b.x b.y (vx1) (min (b.vy + 1) 8)), .bool false]) (results_two rfl _ _ _ _ _ rfl rfl hL) rfl ⟨by rw [HS.out, HT.out]; rfl, hbP⟩
 ·have E4 := Lib.hid e4
  cases qs : blockB L b.x (b.y + 1) 12 with
  | true =>
   have QS := Lib.hid qs
   clear qs
   have HV := Lib.hid (show vyI L b i = -9 from str_jump E4.out QS.out)
   rcases hf with e8 | e8
   ·have E8 := Lib.hid e8
    have HT := Lib.hid (show strT b i = false by unfold strT; rw [E8.out, HM.out]; rfl)
    have HS := Lib.hid (show strB L b i = ⟨0, b.owner, b.x, b.y, vx1, -9, am1, b.life, m⟩ by unfold strB; rw [HT.out, HV.out, HM.out, HVX.out, HAM.out, HK.out]; rfl)
    have h1 := h.keep hB0
    go_upto_region 8 with (fail)
    have bs_0 : Below wc.heap.size wc wc.drew := belowDrew wc 1
    refine wp_region_held_drew (S := (fun w' => (∀ j, w'.cell? ⟨w.heap.size, j, none⟩ = #[Value.slice a L.length cap][j]?) ∧ (∀ j, w'.cell? ⟨w.heap.size + 1, j, none⟩ = #[Value.int .i64 0, .int .i64 b.owner, .int .i64 b.x, .int .i64 b.y, .int .i64 (vx1), .int .i64 (b.vy), .int .i64 (am1), .int .i64 b.life, .int .i64 (m)][j]?))) (by kernel_rfl) ?_ (fun hHeld => ?_)
    ·exact ⟨rowCells (keepHeap bs_0 hA), rowCells (keepHeap bs_0 hB)⟩
    refine tk 0 24 ?_
    (try simp only [zP, zA, zB, zC])
    refine tk 1 25 ?_
    (try simp only [zP, zA, zB, zC])
    refine tk 2 26 ?_
    (try simp only [zP, zA, zB, zC])
    refine tk 3 27 ?_
    (try simp only [zP, zA, zB, zC])
    refine tw 4 28 3 27 true ?_
    (try simp only [zP, zA, zB, zC])
    refine tw 5 29 3 27 true ?_
    (try simp only [zP, zA, zB, zC])
    refine tw 6 30 3 27 true ?_
    (try simp only [zP, zA, zB, zC])
    refine tw 7 31 3 27 true ?_
    (try simp only [zP, zA, zB, zC])
    refine tw 8 32 3 27 true ?_
    (try simp only [zP, zA, zB, zC])
    refine tw 9 33 3 27 true ?_
    (try simp only [zP, zA, zB, zC])
    refine tw 10 34 3 27 true ?_
    (try simp only [zP, zA, zB, zC])
    refine tw 11 35 3 27 true ?_
    (try simp only [zP, zA, zB, zC])
    refine wpAnyH_ready (rs := [12]) (by kernel_rfl) (by simp) ?_
    refine AllReadyH.cons rfl (fun K hK => ?_) AllReadyH.nil
    go_simp
    refine (sizeOf_impl _ _).mono ?_
    rintro e w_1 ⟨rfl, hb_1⟩
    have bs_1 := bs_0.trans (hb_1.mono bs_0.size)
    rw [sizeI_0]
    (try go_wp2_with (fail))
    refine hK.out _ _ ?_ (fun hHeld => ?_)
    ·exact ⟨rowCells (keepHeap bs_1 hA), rowCells (keepHeap bs_1 hB)⟩
    clear hK K
    (try simp only [zP, zA, zB, zC])
    refine wpAnyH_ready (rs := [13]) (by kernel_rfl) (by simp) ?_
    refine AllReadyH.cons rfl (fun K hK => ?_) AllReadyH.nil
    go_simp
    refine (blocked_impl (h1.keep bs_1) hg b.x (b.y + 1) 12 (by omega) (by omega) hx.2 (by omega) hx.1 (by omega)).mono ?_
    rintro e w_2 ⟨rfl, hb_2⟩
    have bs_2 := bs_1.trans (hb_2.mono bs_1.size)
    rw [show blockB L b.x (b.y + 1) ((12 : Nat) : Int) = true from QS.out]
    (try go_wp2_with (fail))
    refine hK.out _ _ ?_ (fun hHeld => ?_)
    ·exact ⟨rowCells (keepHeap bs_2 hA), rowCells (keepHeap bs_2 hB)⟩
    clear hK K
    (try simp only [zP, zA, zB, zC])
    refine tk 14 38 ?_
    (try simp only [zP, zA, zB, zC])
    refine wpAnyH_done (by kernel_rfl) ?_ _
    have hA2 := keepHeap bs_2 hA
    have hB2 := keepHeap bs_2 hB
    have hC2 := keepHeap bs_2 hC
    have hb2 := hB0.trans (bs_2.mono hB0.size)
    have cB2 := rowCells hB2
    have fB2 := fun j => frozenHeap hB2 j
    have hB3 := setHeap (k := 5) (v := .int .i64 (-9)) hB2
    have hC3 := farHeap (p := ⟨w.heap.size + 1, 5, none⟩) hC2 (by show w.heap.size + 1 + 1 ≠ w.heap.size + 1; omega) (.int .i64 (-9))
    have hb3 := hb2.setCell (p := ⟨w.heap.size + 1, 5, none⟩) (by show w.heap.size ≤ w.heap.size + 1; omega) (.int .i64 (-9))
    obtain ⟨W3, hW3⟩ : ∃ W3, (w_2).setCell ⟨w.heap.size + 1, 5, none⟩ (.int .i64 (-9)) = W3 := ⟨_, rfl⟩
    rw [hW3] at hB3 hC3 hb3
    go_upto_region 11 with (fail)
    try rw [hW3]
    clear hW3 cB2 fB2 hA2 hB2 hC2 hb2
    have hB4 : W3.heap[w.heap.size + 1]? = some (.cells #[Value.int .i64 0, .int .i64 b.owner, .int .i64 b.x, .int .i64 b.y, .int .i64 (vx1), .int .i64 (-9), .int .i64 (am1), .int .i64 b.life, .int .i64 (m)] 100 (0, 0)) := hB3
    have cB4 := rowCells hB4
    have fB4 := fun j => frozenHeap hB4 j
    have cC6 := rowCells hC3
    have fC6 := fun j => frozenHeap hC3 j
    go_wp2_with (fail)
    obtain ⟨c, hc⟩ : ∃ c : Bd, c = ⟨0, b.owner, b.x, b.y, vx1, -9, am1, b.life, m⟩ := ⟨_, rfl⟩
    have hP := putB_heap hC3 rfl c c.x c.y c.vx c.vy
    have hL := load_bd hP rfl
    have hbP := putB_below hb3 (c := w.heap.size + 1 + 1) (by omega) c c.x c.y c.vx c.vy
    subst hc
    unfold putB at hL hbP
    exact bodyPost_ret (v := .tuple #[.agg (bmv (⟨0, b.owner, b.x, b.y, vx1, -9, am1, b.life, m⟩) b.x b.y (vx1) (-9)), .bool false]) (results_two rfl _ _ _ _ _ rfl rfl hL) rfl ⟨by rw [HS.out, HT.out]; rfl, hbP⟩
   ·have E8 := Lib.hid e8
    by_cases hz : m = 0
    ·have hz1 : decide (0 < m) = false := by simp; omega
     have hz2 : (m == 0) = true := by simp [hz]
     have HT := Lib.hid (show strT b i = true by unfold strT; rw [E8.out, HM.out]; simp [hz])
     have HS := Lib.hid (show strB L b i = ⟨0, b.owner, b.x, b.y, vx1, -9, am1, b.life, 12⟩ by unfold strB; rw [HT.out, HV.out, HM.out, HVX.out, HAM.out, HK.out]; rfl)
     clear hz
     have h1 := h.keep hB0
     go_upto_region 8 with (fail)
     have bs_0 : Below wc.heap.size wc wc.drew := belowDrew wc 1
     refine wp_region_held_drew (S := (fun w' => (∀ j, w'.cell? ⟨w.heap.size, j, none⟩ = #[Value.slice a L.length cap][j]?) ∧ (∀ j, w'.cell? ⟨w.heap.size + 1, j, none⟩ = #[Value.int .i64 0, .int .i64 b.owner, .int .i64 b.x, .int .i64 b.y, .int .i64 (vx1), .int .i64 (b.vy), .int .i64 (am1), .int .i64 b.life, .int .i64 (m)][j]?))) (by kernel_rfl) ?_ (fun hHeld => ?_)
     ·exact ⟨rowCells (keepHeap bs_0 hA), rowCells (keepHeap bs_0 hB)⟩
     refine tk 0 24 ?_
     (try simp only [zP, zA, zB, zC])
     refine tk 1 25 ?_
     (try simp only [zP, zA, zB, zC])
     refine tk 2 26 ?_
     (try simp only [zP, zA, zB, zC])
     refine tk 3 27 ?_
     (try simp only [zP, zA, zB, zC])
     refine tw 4 28 3 27 true ?_
     (try simp only [zP, zA, zB, zC])
     refine tw 5 29 3 27 true ?_
     (try simp only [zP, zA, zB, zC])
     refine tw 6 30 3 27 true ?_
     (try simp only [zP, zA, zB, zC])
     refine tw 7 31 3 27 true ?_
     (try simp only [zP, zA, zB, zC])
     refine tw 8 32 3 27 true ?_
     (try simp only [zP, zA, zB, zC])
     refine tw 9 33 3 27 true ?_
     (try simp only [zP, zA, zB, zC])
     refine tw 10 34 3 27 true ?_
     (try simp only [zP, zA, zB, zC])
     refine tw 11 35 3 27 true ?_
     (try simp only [zP, zA, zB, zC])
     refine wpAnyH_ready (rs := [12]) (by kernel_rfl) (by simp) ?_
     refine AllReadyH.cons rfl (fun K hK => ?_) AllReadyH.nil
     go_simp
     refine (sizeOf_impl _ _).mono ?_
     rintro e w_1 ⟨rfl, hb_1⟩
     have bs_1 := bs_0.trans (hb_1.mono bs_0.size)
     rw [sizeI_0]
     (try go_wp2_with (fail))
     refine hK.out _ _ ?_ (fun hHeld => ?_)
     ·exact ⟨rowCells (keepHeap bs_1 hA), rowCells (keepHeap bs_1 hB)⟩
     clear hK K
     (try simp only [zP, zA, zB, zC])
     refine wpAnyH_ready (rs := [13]) (by kernel_rfl) (by simp) ?_
     refine AllReadyH.cons rfl (fun K hK => ?_) AllReadyH.nil
     go_simp
     refine (blocked_impl (h1.keep bs_1) hg b.x (b.y + 1) 12 (by omega) (by omega) hx.2 (by omega) hx.1 (by omega)).mono ?_
     rintro e w_2 ⟨rfl, hb_2⟩
     have bs_2 := bs_1.trans (hb_2.mono bs_1.size)
     rw [show blockB L b.x (b.y + 1) ((12 : Nat) : Int) = true from QS.out]
     (try go_wp2_with (fail))
     refine hK.out _ _ ?_ (fun hHeld => ?_)
     ·exact ⟨rowCells (keepHeap bs_2 hA), rowCells (keepHeap bs_2 hB)⟩
     clear hK K
     (try simp only [zP, zA, zB, zC])
     refine tk 14 38 ?_
     (try simp only [zP, zA, zB, zC])
     refine wpAnyH_done (by kernel_rfl) ?_ _
     have hA2 := keepHeap bs_2 hA
     have hB2 := keepHeap bs_2 hB
     have hC2 := keepHeap bs_2 hC
     have hb2 := hB0.trans (bs_2.mono hB0.size)
     have cB2 := rowCells hB2
     have fB2 := fun j => frozenHeap hB2 j
     have hB3 := setHeap (k := 5) (v := .int .i64 (-9)) hB2
     have hC3 := farHeap (p := ⟨w.heap.size + 1, 5, none⟩) hC2 (by show w.heap.size + 1 + 1 ≠ w.heap.size + 1; omega) (.int .i64 (-9))
     have hb3 := hb2.setCell (p := ⟨w.heap.size + 1, 5, none⟩) (by show w.heap.size ≤ w.heap.size + 1; omega) (.int .i64 (-9))
     obtain ⟨W3, hW3⟩ : ∃ W3, (w_2).setCell ⟨w.heap.size + 1, 5, none⟩ (.int .i64 (-9)) = W3 := ⟨_, rfl⟩
     rw [hW3] at hB3 hC3 hb3
     go_upto_region 11 with (fail)
     try rw [hW3]
     clear hW3 cB2 fB2 hA2 hB2 hC2 hb2
     have hB4 : W3.heap[w.heap.size + 1]? = some (.cells #[Value.int .i64 0, .int .i64 b.owner, .int .i64 b.x, .int .i64 b.y, .int .i64 (vx1), .int .i64 (-9), .int .i64 (am1), .int .i64 b.life, .int .i64 (m)] 100 (0, 0)) := hB3
     have cB4 := rowCells hB4
     have fB4 := fun j => frozenHeap hB4 j
     have hB5 := setHeap (k := 8) (v := .int .i64 12) hB4
     have hC5 := farHeap (p := ⟨w.heap.size + 1, 8, none⟩) hC3 (by show w.heap.size + 1 + 1 ≠ w.heap.size + 1; omega) (.int .i64 12)
     have hb5 := hb3.setCell (p := ⟨w.heap.size + 1, 8, none⟩) (by show w.heap.size ≤ w.heap.size + 1; omega) (.int .i64 12)
     obtain ⟨W5, hW5⟩ : ∃ W5, W3.setCell ⟨w.heap.size + 1, 8, none⟩ (.int .i64 12) = W5 := ⟨_, rfl⟩
     rw [hW5] at hB5 hC5 hb5
     go_upto_region 14 with (fail)
     try rw [hW5]
     clear hW5 cB4 fB4
     have hB6 : W5.heap[w.heap.size + 1]? = some (.cells #[Value.int .i64 0, .int .i64 b.owner, .int .i64 b.x, .int .i64 b.y, .int .i64 (vx1), .int .i64 (-9), .int .i64 (am1), .int .i64 b.life, .int .i64 (12)] 100 (0, 0)) := hB5
     have cB6 := rowCells hB6
     have cC6 := rowCells hC5
     have fC6 := fun j => frozenHeap hC5 j
     go_wp2_with (fail)
     obtain ⟨c, hc⟩ : ∃ c : Bd, c = ⟨0, b.owner, b.x, b.y, vx1, -9, am1, b.life, 12⟩ := ⟨_, rfl⟩
     have hP := putB_heap hC5 rfl c c.x c.y c.vx c.vy
     have hL := load_bd hP rfl
     have hbP := putB_below hb5 (c := w.heap.size + 1 + 1) (by omega) c c.x c.y c.vx c.vy
     subst hc
     unfold putB at hL hbP
     exact bodyPost_ret (v := .tuple #[.agg (bmv (⟨0, b.owner, b.x, b.y, vx1, -9, am1, b.life, 12⟩) b.x b.y (vx1) (-9)), .bool true]) (results_two rfl _ _ _ _ _ rfl rfl hL) rfl ⟨by rw [HS.out, HT.out]; rfl, hbP⟩
    ·have hz1 : decide (0 < m) = true := by simp; omega
     have hz2 : (m == 0) = false := by simp [hz]
     have HT := Lib.hid (show strT b i = false by unfold strT; rw [E8.out, HM.out]; simp [hz])
     have HS := Lib.hid (show strB L b i = ⟨0, b.owner, b.x, b.y, vx1, -9, am1, b.life, m⟩ by unfold strB; rw [HT.out, HV.out, HM.out, HVX.out, HAM.out, HK.out]; rfl)
     clear hz
     have h1 := h.keep hB0
     go_upto_region 8 with (fail)
     have bs_0 : Below wc.heap.size wc wc.drew := belowDrew wc 1
     refine wp_region_held_drew (S := (fun w' => (∀ j, w'.cell? ⟨w.heap.size, j, none⟩ = #[Value.slice a L.length cap][j]?) ∧ (∀ j, w'.cell? ⟨w.heap.size + 1, j, none⟩ = #[Value.int .i64 0, .int .i64 b.owner, .int .i64 b.x, .int .i64 b.y, .int .i64 (vx1), .int .i64 (b.vy), .int .i64 (am1), .int .i64 b.life, .int .i64 (m)][j]?))) (by kernel_rfl) ?_ (fun hHeld => ?_)
     ·exact ⟨rowCells (keepHeap bs_0 hA), rowCells (keepHeap bs_0 hB)⟩
     refine tk 0 24 ?_
     (try simp only [zP, zA, zB, zC])
     refine tk 1 25 ?_
     (try simp only [zP, zA, zB, zC])
     refine tk 2 26 ?_
     (try simp only [zP, zA, zB, zC])
     refine tk 3 27 ?_
     (try simp only [zP, zA, zB, zC])
     refine tw 4 28 3 27 true ?_
     (try simp only [zP, zA, zB, zC])
     refine tw 5 29 3 27 true ?_
     (try simp only [zP, zA, zB, zC])
     refine tw 6 30 3 27 true ?_
     (try simp only [zP, zA, zB, zC])
     refine tw 7 31 3 27 true ?_
     (try simp only [zP, zA, zB, zC])
     refine tw 8 32 3 27 true ?_
     (try simp only [zP, zA, zB, zC])
     refine tw 9 33 3 27 true ?_
     (try simp only [zP, zA, zB, zC])
     refine tw 10 34 3 27 true ?_
     (try simp only [zP, zA, zB, zC])
     refine tw 11 35 3 27 true ?_
     (try simp only [zP, zA, zB, zC])
     refine wpAnyH_ready (rs := [12]) (by kernel_rfl) (by simp) ?_
     refine AllReadyH.cons rfl (fun K hK => ?_) AllReadyH.nil
     go_simp
     refine (sizeOf_impl _ _).mono ?_
     rintro e w_1 ⟨rfl, hb_1⟩
     have bs_1 := bs_0.trans (hb_1.mono bs_0.size)
     rw [sizeI_0]
     (try go_wp2_with (fail))
     refine hK.out _ _ ?_ (fun hHeld => ?_)
     ·exact ⟨rowCells (keepHeap bs_1 hA), rowCells (keepHeap bs_1 hB)⟩
     clear hK K
     (try simp only [zP, zA, zB, zC])
     refine wpAnyH_ready (rs := [13]) (by kernel_rfl) (by simp) ?_
     refine AllReadyH.cons rfl (fun K hK => ?_) AllReadyH.nil
     go_simp
     refine (blocked_impl (h1.keep bs_1) hg b.x (b.y + 1) 12 (by omega) (by omega) hx.2 (by omega) hx.1 (by omega)).mono ?_
     rintro e w_2 ⟨rfl, hb_2⟩
     have bs_2 := bs_1.trans (hb_2.mono bs_1.size)
     rw [show blockB L b.x (b.y + 1) ((12 : Nat) : Int) = true from QS.out]
     (try go_wp2_with (fail))
     refine hK.out _ _ ?_ (fun hHeld => ?_)
     ·exact ⟨rowCells (keepHeap bs_2 hA), rowCells (keepHeap bs_2 hB)⟩
     clear hK K
     (try simp only [zP, zA, zB, zC])
     refine tk 14 38 ?_
     (try simp only [zP, zA, zB, zC])
     refine wpAnyH_done (by kernel_rfl) ?_ _
     have hA2 := keepHeap bs_2 hA
     have hB2 := keepHeap bs_2 hB
     have hC2 := keepHeap bs_2 hC
     have hb2 := hB0.trans (bs_2.mono hB0.size)
     have cB2 := rowCells hB2
     have fB2 := fun j => frozenHeap hB2 j
     have hB3 := setHeap (k := 5) (v := .int .i64 (-9)) hB2
     have hC3 := farHeap (p := ⟨w.heap.size + 1, 5, none⟩) hC2 (by show w.heap.size + 1 + 1 ≠ w.heap.size + 1; omega) (.int .i64 (-9))
     have hb3 := hb2.setCell (p := ⟨w.heap.size + 1, 5, none⟩) (by show w.heap.size ≤ w.heap.size + 1; omega) (.int .i64 (-9))
     obtain ⟨W3, hW3⟩ : ∃ W3, (w_2).setCell ⟨w.heap.size + 1, 5, none⟩ (.int .i64 (-9)) = W3 := ⟨_, rfl⟩
     rw [hW3] at hB3 hC3 hb3
     go_upto_region 11 with (fail)
     try rw [hW3]
     clear hW3 cB2 fB2 hA2 hB2 hC2 hb2
     have hB4 : W3.heap[w.heap.size + 1]? = some (.cells #[Value.int .i64 0, .int .i64 b.owner, .int .i64 b.x, .int .i64 b.y, .int .i64 (vx1), .int .i64 (-9), .int .i64 (am1), .int .i64 b.life, .int .i64 (m)] 100 (0, 0)) := hB3
     have cB4 := rowCells hB4
     have fB4 := fun j => frozenHeap hB4 j
     have cC6 := rowCells hC3
     have fC6 := fun j => frozenHeap hC3 j
     go_wp2_with (fail)
     obtain ⟨c, hc⟩ : ∃ c : Bd, c = ⟨0, b.owner, b.x, b.y, vx1, -9, am1, b.life, m⟩ := ⟨_, rfl⟩
     have hP := putB_heap hC3 rfl c c.x c.y c.vx c.vy
     have hL := load_bd hP rfl
     have hbP := putB_below hb3 (c := w.heap.size + 1 + 1) (by omega) c c.x c.y c.vx c.vy
     subst hc
     unfold putB at hL hbP
     exact bodyPost_ret (v := .tuple #[.agg (bmv (⟨0, b.owner, b.x, b.y, vx1, -9, am1, b.life, m⟩) b.x b.y (vx1) (-9)), .bool false]) (results_two rfl _ _ _ _ _ rfl rfl hL) rfl ⟨by rw [HS.out, HT.out]; rfl, hbP⟩
  | false =>
   have QS := Lib.hid qs
   clear qs
   have HV := Lib.hid (show vyI L b i = min (b.vy + 1) 8 from str_fall QS.out)
   rcases hf with e8 | e8
   ·have E8 := Lib.hid e8
    have HT := Lib.hid (show strT b i = false by unfold strT; rw [E8.out, HM.out]; rfl)
    have HS := Lib.hid (show strB L b i = ⟨0, b.owner, b.x, b.y, vx1, min (b.vy + 1) 8, am1, b.life, m⟩ by unfold strB; rw [HT.out, HV.out, HM.out, HVX.out, HAM.out, HK.out]; rfl)
    have h1 := h.keep hB0
    go_upto_region 8 with (fail)
    have bs_0 : Below wc.heap.size wc wc.drew := belowDrew wc 1
    refine wp_region_held_drew (S := (fun w' => (∀ j, w'.cell? ⟨w.heap.size, j, none⟩ = #[Value.slice a L.length cap][j]?) ∧ (∀ j, w'.cell? ⟨w.heap.size + 1, j, none⟩ = #[Value.int .i64 0, .int .i64 b.owner, .int .i64 b.x, .int .i64 b.y, .int .i64 (vx1), .int .i64 (b.vy), .int .i64 (am1), .int .i64 b.life, .int .i64 (m)][j]?))) (by kernel_rfl) ?_ (fun hHeld => ?_)
    ·exact ⟨rowCells (keepHeap bs_0 hA), rowCells (keepHeap bs_0 hB)⟩
    refine tk 0 24 ?_
    (try simp only [zP, zA, zB, zC])
    refine tk 1 25 ?_
    (try simp only [zP, zA, zB, zC])
    refine tk 2 26 ?_
    (try simp only [zP, zA, zB, zC])
    refine tk 3 27 ?_
    (try simp only [zP, zA, zB, zC])
    refine tw 4 28 3 27 true ?_
    (try simp only [zP, zA, zB, zC])
    refine tw 5 29 3 27 true ?_
    (try simp only [zP, zA, zB, zC])
    refine tw 6 30 3 27 true ?_
    (try simp only [zP, zA, zB, zC])
    refine tw 7 31 3 27 true ?_
    (try simp only [zP, zA, zB, zC])
    refine tw 8 32 3 27 true ?_
    (try simp only [zP, zA, zB, zC])
    refine tw 9 33 3 27 true ?_
    (try simp only [zP, zA, zB, zC])
    refine tw 10 34 3 27 true ?_
    (try simp only [zP, zA, zB, zC])
    refine tw 11 35 3 27 true ?_
    (try simp only [zP, zA, zB, zC])
    refine wpAnyH_ready (rs := [12]) (by kernel_rfl) (by simp) ?_
    refine AllReadyH.cons rfl (fun K hK => ?_) AllReadyH.nil
    go_simp
    refine (sizeOf_impl _ _).mono ?_
    rintro e w_1 ⟨rfl, hb_1⟩
    have bs_1 := bs_0.trans (hb_1.mono bs_0.size)
    rw [sizeI_0]
    (try go_wp2_with (fail))
    refine hK.out _ _ ?_ (fun hHeld => ?_)
    ·exact ⟨rowCells (keepHeap bs_1 hA), rowCells (keepHeap bs_1 hB)⟩
    clear hK K
    (try simp only [zP, zA, zB, zC])
    refine wpAnyH_ready (rs := [13]) (by kernel_rfl) (by simp) ?_
    refine AllReadyH.cons rfl (fun K hK => ?_) AllReadyH.nil
    go_simp
    refine (blocked_impl (h1.keep bs_1) hg b.x (b.y + 1) 12 (by omega) (by omega) hx.2 (by omega) hx.1 (by omega)).mono ?_
    rintro e w_2 ⟨rfl, hb_2⟩
    have bs_2 := bs_1.trans (hb_2.mono bs_1.size)
    rw [show blockB L b.x (b.y + 1) ((12 : Nat) : Int) = false from QS.out]
    (try go_wp2_with (fail))
    refine hK.out _ _ ?_ (fun hHeld => ?_)
    ·exact ⟨rowCells (keepHeap bs_2 hA), rowCells (keepHeap bs_2 hB)⟩
    clear hK K
    (try simp only [zP, zA, zB, zC])
    refine tk 14 38 ?_
    (try simp only [zP, zA, zB, zC])
    refine wpAnyH_done (by kernel_rfl) ?_ _
    have hA2 := keepHeap bs_2 hA
    have hB2 := keepHeap bs_2 hB
    have hC2 := keepHeap bs_2 hC
    have hb2 := hB0.trans (bs_2.mono hB0.size)
    have cB2 := rowCells hB2
    have fB2 := fun j => frozenHeap hB2 j
    have hB3 := setHeap (k := 5) (v := .int .i64 (min (b.vy + 1) 8)) hB2
    have hC3 := farHeap (p := ⟨w.heap.size + 1, 5, none⟩) hC2 (by show w.heap.size + 1 + 1 ≠ w.heap.size + 1; omega) (.int .i64 (min (b.vy + 1) 8))
    have hb3 := hb2.setCell (p := ⟨w.heap.size + 1, 5, none⟩) (by show w.heap.size ≤ w.heap.size + 1; omega) (.int .i64 (min (b.vy + 1) 8))
    obtain ⟨W3, hW3⟩ : ∃ W3, (w_2).setCell ⟨w.heap.size + 1, 5, none⟩ (.int .i64 (min (b.vy + 1) 8)) = W3 := ⟨_, rfl⟩
    rw [hW3] at hB3 hC3 hb3
    go_upto_region 11 with (fail)
    try rw [hW3]
    clear hW3 cB2 fB2 hA2 hB2 hC2 hb2
    have hB4 : W3.heap[w.heap.size + 1]? = some (.cells #[Value.int .i64 0, .int .i64 b.owner, .int .i64 b.x, .int .i64 b.y, .int .i64 (vx1), .int .i64 (min (b.vy + 1) 8), .int .i64 (am1), .int .i64 b.life, .int .i64 (m)] 100 (0, 0)) := hB3
    have cB4 := rowCells hB4
    have fB4 := fun j => frozenHeap hB4 j
    have cC6 := rowCells hC3
    have fC6 := fun j => frozenHeap hC3 j
    go_wp2_with (fail)
    obtain ⟨c, hc⟩ : ∃ c : Bd, c = ⟨0, b.owner, b.x, b.y, vx1, min (b.vy + 1) 8, am1, b.life, m⟩ := ⟨_, rfl⟩
    have hP := putB_heap hC3 rfl c c.x c.y c.vx c.vy
    have hL := load_bd hP rfl
    have hbP := putB_below hb3 (c := w.heap.size + 1 + 1) (by omega) c c.x c.y c.vx c.vy
    subst hc
    unfold putB at hL hbP
    exact bodyPost_ret (v := .tuple #[.agg (bmv (⟨0, b.owner, b.x, b.y, vx1, min (b.vy + 1) 8, am1, b.life, m⟩) b.x b.y (vx1) (min (b.vy + 1) 8)), .bool false]) (results_two rfl _ _ _ _ _ rfl rfl hL) rfl ⟨by rw [HS.out, HT.out]; rfl, hbP⟩
   ·have E8 := Lib.hid e8
    by_cases hz : m = 0
    ·have hz1 : decide (0 < m) = false := by simp; omega
     have hz2 : (m == 0) = true := by simp [hz]
     have HT := Lib.hid (show strT b i = true by unfold strT; rw [E8.out, HM.out]; simp [hz])
     have HS := Lib.hid (show strB L b i = ⟨0, b.owner, b.x, b.y, vx1, min (b.vy + 1) 8, am1, b.life, 12⟩ by unfold strB; rw [HT.out, HV.out, HM.out, HVX.out, HAM.out, HK.out]; rfl)
     clear hz
     have h1 := h.keep hB0
     go_upto_region 8 with (fail)
     have bs_0 : Below wc.heap.size wc wc.drew := belowDrew wc 1
     refine wp_region_held_drew (S := (fun w' => (∀ j, w'.cell? ⟨w.heap.size, j, none⟩ = #[Value.slice a L.length cap][j]?) ∧ (∀ j, w'.cell? ⟨w.heap.size + 1, j, none⟩ = #[Value.int .i64 0, .int .i64 b.owner, .int .i64 b.x, .int .i64 b.y, .int .i64 (vx1), .int .i64 (b.vy), .int .i64 (am1), .int .i64 b.life, .int .i64 (m)][j]?))) (by kernel_rfl) ?_ (fun hHeld => ?_)
     ·exact ⟨rowCells (keepHeap bs_0 hA), rowCells (keepHeap bs_0 hB)⟩
     refine tk 0 24 ?_
     (try simp only [zP, zA, zB, zC])
     refine tk 1 25 ?_
     (try simp only [zP, zA, zB, zC])
     refine tk 2 26 ?_
     (try simp only [zP, zA, zB, zC])
     refine tk 3 27 ?_
     (try simp only [zP, zA, zB, zC])
     refine tw 4 28 3 27 true ?_
     (try simp only [zP, zA, zB, zC])
     refine tw 5 29 3 27 true ?_
     (try simp only [zP, zA, zB, zC])
     refine tw 6 30 3 27 true ?_
     (try simp only [zP, zA, zB, zC])
     refine tw 7 31 3 27 true ?_
     (try simp only [zP, zA, zB, zC])
     refine tw 8 32 3 27 true ?_
     (try simp only [zP, zA, zB, zC])
     refine tw 9 33 3 27 true ?_
     (try simp only [zP, zA, zB, zC])
     refine tw 10 34 3 27 true ?_
     (try simp only [zP, zA, zB, zC])
     refine tw 11 35 3 27 true ?_
     (try simp only [zP, zA, zB, zC])
     refine wpAnyH_ready (rs := [12]) (by kernel_rfl) (by simp) ?_
     refine AllReadyH.cons rfl (fun K hK => ?_) AllReadyH.nil
     go_simp
     refine (sizeOf_impl _ _).mono ?_
     rintro e w_1 ⟨rfl, hb_1⟩
     have bs_1 := bs_0.trans (hb_1.mono bs_0.size)
     rw [sizeI_0]
     (try go_wp2_with (fail))
     refine hK.out _ _ ?_ (fun hHeld => ?_)
     ·exact ⟨rowCells (keepHeap bs_1 hA), rowCells (keepHeap bs_1 hB)⟩
     clear hK K
     (try simp only [zP, zA, zB, zC])
     refine wpAnyH_ready (rs := [13]) (by kernel_rfl) (by simp) ?_
     refine AllReadyH.cons rfl (fun K hK => ?_) AllReadyH.nil
     go_simp
     refine (blocked_impl (h1.keep bs_1) hg b.x (b.y + 1) 12 (by omega) (by omega) hx.2 (by omega) hx.1 (by omega)).mono ?_
     rintro e w_2 ⟨rfl, hb_2⟩
     have bs_2 := bs_1.trans (hb_2.mono bs_1.size)
     rw [show blockB L b.x (b.y + 1) ((12 : Nat) : Int) = false from QS.out]
     (try go_wp2_with (fail))
     refine hK.out _ _ ?_ (fun hHeld => ?_)
     ·exact ⟨rowCells (keepHeap bs_2 hA), rowCells (keepHeap bs_2 hB)⟩
     clear hK K
     (try simp only [zP, zA, zB, zC])
     refine tk 14 38 ?_
     (try simp only [zP, zA, zB, zC])
     refine wpAnyH_done (by kernel_rfl) ?_ _
     have hA2 := keepHeap bs_2 hA
     have hB2 := keepHeap bs_2 hB
     have hC2 := keepHeap bs_2 hC
     have hb2 := hB0.trans (bs_2.mono hB0.size)
     have cB2 := rowCells hB2
     have fB2 := fun j => frozenHeap hB2 j
     have hB3 := setHeap (k := 5) (v := .int .i64 (min (b.vy + 1) 8)) hB2
     have hC3 := farHeap (p := ⟨w.heap.size + 1, 5, none⟩) hC2 (by show w.heap.size + 1 + 1 ≠ w.heap.size + 1; omega) (.int .i64 (min (b.vy + 1) 8))
     have hb3 := hb2.setCell (p := ⟨w.heap.size + 1, 5, none⟩) (by show w.heap.size ≤ w.heap.size + 1; omega) (.int .i64 (min (b.vy + 1) 8))
     obtain ⟨W3, hW3⟩ : ∃ W3, (w_2).setCell ⟨w.heap.size + 1, 5, none⟩ (.int .i64 (min (b.vy + 1) 8)) = W3 := ⟨_, rfl⟩
     rw [hW3] at hB3 hC3 hb3
     go_upto_region 11 with (fail)
     try rw [hW3]
     clear hW3 cB2 fB2 hA2 hB2 hC2 hb2
     have hB4 : W3.heap[w.heap.size + 1]? = some (.cells #[Value.int .i64 0, .int .i64 b.owner, .int .i64 b.x, .int .i64 b.y, .int .i64 (vx1), .int .i64 (min (b.vy + 1) 8), .int .i64 (am1), .int .i64 b.life, .int .i64 (m)] 100 (0, 0)) := hB3
     have cB4 := rowCells hB4
     have fB4 := fun j => frozenHeap hB4 j
     have hB5 := setHeap (k := 8) (v := .int .i64 12) hB4
     have hC5 := farHeap (p := ⟨w.heap.size + 1, 8, none⟩) hC3 (by show w.heap.size + 1 + 1 ≠ w.heap.size + 1; omega) (.int .i64 12)
     have hb5 := hb3.setCell (p := ⟨w.heap.size + 1, 8, none⟩) (by show w.heap.size ≤ w.heap.size + 1; omega) (.int .i64 12)
     obtain ⟨W5, hW5⟩ : ∃ W5, W3.setCell ⟨w.heap.size + 1, 8, none⟩ (.int .i64 12) = W5 := ⟨_, rfl⟩
     rw [hW5] at hB5 hC5 hb5
     go_upto_region 14 with (fail)
     try rw [hW5]
     clear hW5 cB4 fB4
     have hB6 : W5.heap[w.heap.size + 1]? = some (.cells #[Value.int .i64 0, .int .i64 b.owner, .int .i64 b.x, .int .i64 b.y, .int .i64 (vx1), .int .i64 (min (b.vy + 1) 8), .int .i64 (am1), .int .i64 b.life, .int .i64 (12)] 100 (0, 0)) := hB5
     have cB6 := rowCells hB6
     have cC6 := rowCells hC5
     have fC6 := fun j => frozenHeap hC5 j
     go_wp2_with (fail)
     obtain ⟨c, hc⟩ : ∃ c : Bd, c = ⟨0, b.owner, b.x, b.y, vx1, min (b.vy + 1) 8, am1, b.life, 12⟩ := ⟨_, rfl⟩
     have hP := putB_heap hC5 rfl c c.x c.y c.vx c.vy
     have hL := load_bd hP rfl
     have hbP := putB_below hb5 (c := w.heap.size + 1 + 1) (by omega) c c.x c.y c.vx c.vy
     subst hc
     unfold putB at hL hbP
     exact bodyPost_ret (v := .tuple #[.agg (bmv (⟨0, b.owner, b.x, b.y, vx1, min (b.vy + 1) 8, am1, b.life, 12⟩) b.x b.y (vx1) (min (b.vy + 1) 8)), .bool true]) (results_two rfl _ _ _ _ _ rfl rfl hL) rfl ⟨by rw [HS.out, HT.out]; rfl, hbP⟩
    ·have hz1 : decide (0 < m) = true := by simp; omega
     have hz2 : (m == 0) = false := by simp [hz]
     have HT := Lib.hid (show strT b i = false by unfold strT; rw [E8.out, HM.out]; simp [hz])
     have HS := Lib.hid (show strB L b i = ⟨0, b.owner, b.x, b.y, vx1, min (b.vy + 1) 8, am1, b.life, m⟩ by unfold strB; rw [HT.out, HV.out, HM.out, HVX.out, HAM.out, HK.out]; rfl)
     clear hz
     have h1 := h.keep hB0
     go_upto_region 8 with (fail)
     have bs_0 : Below wc.heap.size wc wc.drew := belowDrew wc 1
     refine wp_region_held_drew (S := (fun w' => (∀ j, w'.cell? ⟨w.heap.size, j, none⟩ = #[Value.slice a L.length cap][j]?) ∧ (∀ j, w'.cell? ⟨w.heap.size + 1, j, none⟩ = #[Value.int .i64 0, .int .i64 b.owner, .int .i64 b.x, .int .i64 b.y, .int .i64 (vx1), .int .i64 (b.vy), .int .i64 (am1), .int .i64 b.life, .int .i64 (m)][j]?))) (by kernel_rfl) ?_ (fun hHeld => ?_)
     ·exact ⟨rowCells (keepHeap bs_0 hA), rowCells (keepHeap bs_0 hB)⟩
     refine tk 0 24 ?_
     (try simp only [zP, zA, zB, zC])
     refine tk 1 25 ?_
     (try simp only [zP, zA, zB, zC])
     refine tk 2 26 ?_
     (try simp only [zP, zA, zB, zC])
     refine tk 3 27 ?_
     (try simp only [zP, zA, zB, zC])
     refine tw 4 28 3 27 true ?_
     (try simp only [zP, zA, zB, zC])
     refine tw 5 29 3 27 true ?_
     (try simp only [zP, zA, zB, zC])
     refine tw 6 30 3 27 true ?_
     (try simp only [zP, zA, zB, zC])
     refine tw 7 31 3 27 true ?_
     (try simp only [zP, zA, zB, zC])
     refine tw 8 32 3 27 true ?_
     (try simp only [zP, zA, zB, zC])
     refine tw 9 33 3 27 true ?_
     (try simp only [zP, zA, zB, zC])
     refine tw 10 34 3 27 true ?_
     (try simp only [zP, zA, zB, zC])
     refine tw 11 35 3 27 true ?_
     (try simp only [zP, zA, zB, zC])
     refine wpAnyH_ready (rs := [12]) (by kernel_rfl) (by simp) ?_
     refine AllReadyH.cons rfl (fun K hK => ?_) AllReadyH.nil
     go_simp
     refine (sizeOf_impl _ _).mono ?_
     rintro e w_1 ⟨rfl, hb_1⟩
     have bs_1 := bs_0.trans (hb_1.mono bs_0.size)
     rw [sizeI_0]
     (try go_wp2_with (fail))
     refine hK.out _ _ ?_ (fun hHeld => ?_)
     ·exact ⟨rowCells (keepHeap bs_1 hA), rowCells (keepHeap bs_1 hB)⟩
     clear hK K
     (try simp only [zP, zA, zB, zC])
     refine wpAnyH_ready (rs := [13]) (by kernel_rfl) (by simp) ?_
     refine AllReadyH.cons rfl (fun K hK => ?_) AllReadyH.nil
     go_simp
     refine (blocked_impl (h1.keep bs_1) hg b.x (b.y + 1) 12 (by omega) (by omega) hx.2 (by omega) hx.1 (by omega)).mono ?_
     rintro e w_2 ⟨rfl, hb_2⟩
     have bs_2 := bs_1.trans (hb_2.mono bs_1.size)
     rw [show blockB L b.x (b.y + 1) ((12 : Nat) : Int) = false from QS.out]
     (try go_wp2_with (fail))
     refine hK.out _ _ ?_ (fun hHeld => ?_)
     ·exact ⟨rowCells (keepHeap bs_2 hA), rowCells (keepHeap bs_2 hB)⟩
     clear hK K
     (try simp only [zP, zA, zB, zC])
     refine tk 14 38 ?_
     (try simp only [zP, zA, zB, zC])
     refine wpAnyH_done (by kernel_rfl) ?_ _
     have hA2 := keepHeap bs_2 hA
     have hB2 := keepHeap bs_2 hB
     have hC2 := keepHeap bs_2 hC
     have hb2 := hB0.trans (bs_2.mono hB0.size)
     have cB2 := rowCells hB2
     have fB2 := fun j => frozenHeap hB2 j
     have hB3 := setHeap (k := 5) (v := .int .i64 (min (b.vy + 1) 8)) hB2
     have hC3 := farHeap (p := ⟨w.heap.size + 1, 5, none⟩) hC2 (by show w.heap.size + 1 + 1 ≠ w.heap.size + 1; omega) (.int .i64 (min (b.vy + 1) 8))
     have hb3 := hb2.setCell (p := ⟨w.heap.size + 1, 5, none⟩) (by show w.heap.size ≤ w.heap.size + 1; omega) (.int .i64 (min (b.vy + 1) 8))
     obtain ⟨W3, hW3⟩ : ∃ W3, (w_2).setCell ⟨w.heap.size + 1, 5, none⟩ (.int .i64 (min (b.vy + 1) 8)) = W3 := ⟨_, rfl⟩
     rw [hW3] at hB3 hC3 hb3
     go_upto_region 11 with (fail)
     try rw [hW3]
     clear hW3 cB2 fB2 hA2 hB2 hC2 hb2
     have hB4 : W3.heap[w.heap.size + 1]? = some (.cells #[Value.int .i64 0, .int .i64 b.owner, .int .i64 b.x, .int .i64 b.y, .int .i64 (vx1), .int .i64 (min (b.vy + 1) 8), .int .i64 (am1), .int .i64 b.life, .int .i64 (m)] 100 (0, 0)) := hB3
     have cB4 := rowCells hB4
     have fB4 := fun j => frozenHeap hB4 j
     have cC6 := rowCells hC3
     have fC6 := fun j => frozenHeap hC3 j
     go_wp2_with (fail)
     obtain ⟨c, hc⟩ : ∃ c : Bd, c = ⟨0, b.owner, b.x, b.y, vx1, min (b.vy + 1) 8, am1, b.life, m⟩ := ⟨_, rfl⟩
     have hP := putB_heap hC3 rfl c c.x c.y c.vx c.vy
     have hL := load_bd hP rfl
     have hbP := putB_below hb3 (c := w.heap.size + 1 + 1) (by omega) c c.x c.y c.vx c.vy
     subst hc
     unfold putB at hL hbP
     exact bodyPost_ret (v := .tuple #[.agg (bmv (⟨0, b.owner, b.x, b.y, vx1, min (b.vy + 1) 8, am1, b.life, m⟩) b.x b.y (vx1) (min (b.vy + 1) 8)), .bool false]) (results_two rfl _ _ _ _ _ rfl rfl hL) rfl ⟨by rw [HS.out, HT.out]; rfl, hbP⟩
end Go.Proofs.YtnlonkkbjkfkmaaGreatDoor
