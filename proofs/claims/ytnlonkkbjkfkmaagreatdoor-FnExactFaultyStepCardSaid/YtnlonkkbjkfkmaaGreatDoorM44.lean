/-
  Texts of this proof: SteerS.
-/
import Derived.Test.YtnlonkkbjkfkmaaGreatDoorM23
namespace Go.Proofs.YtnlonkkbjkfkmaaGreatDoor
open Go.RowKit
set_option linter.all false
set_option maxRecDepth 100000 in
set_option maxHeartbeats 20000000 in
theorem steer_spec {w : World} {v : Value} {L : Rowz} (h : RdS w v L) (hg : Good L) (b : Bd) (hk : b.kind = 0) (hx : I64 b.x) (hy : -9223372036854775808 ≤ b.y ∧ b.y ≤ 1000) (ht : 0 ≤ b.timer ∧ b.timer ≤ 12) (hvy : -15 ≤ b.vy ∧ b.vy ≤ 15) (i : Int) (hi : 0 ≤ i ∧ i ≤ 15) :
  Calls Tryz.prog 218 #[.agg #[v], .agg #[.int .i64 b.kind, .int .i64 b.owner, .int .i64 b.x, .int .i64 b.y, .int .i64 b.vx, .int .i64 b.vy, .int .i64 b.aim, .int .i64 b.life, .int .i64 b.timer], .int .i64 i] w fun e w' => e = .returned (.tuple #[bdV (strB L b i), .bool (strT b i)]) ∧ Below w.heap.size w w' := by
 obtain ⟨a, cap, rfl, -⟩ := id h
 obtain ⟨hd, hj, hf⟩ := inp_cases i hi.1 hi.2
 have HK := Lib.hid hk
 have hyw : IntKind.i64.wrap (b.y + 1) = b.y + 1 := IntWalk.i64_in _ (by omega)
 obtain ⟨ht1, ht2⟩ := ht
 obtain ⟨m, hm⟩ : ∃ m, tm1 b = m := ⟨_, rfl⟩
 obtain ⟨vx1, hvx⟩ : ∃ m, vxI b i = m := ⟨_, rfl⟩
 obtain ⟨am1, ham⟩ : ∃ m, amI b i = m := ⟨_, rfl⟩
 have HM := Lib.hid hm
 have HVX := Lib.hid hvx
 have HAM := Lib.hid ham
 have hm0 : 0 ≤ m := by rw [← hm]; unfold tm1; split <;> omega
 clear hvx ham
 rw [hk]
 go_enter Tryz.func218, Tryz.ntmps218
 go_upto_if 10 with (fail)
 go_cut [7] from 8 (fun t wr => t = .bool false ∧ wr.heap[w.heap.size]? = some (.cells #[Value.slice a L.length cap] 26 (0, 0)) ∧ wr.heap[w.heap.size + 1]? = some (.cells #[Value.int .i64 0, .int .i64 b.owner, .int .i64 b.x, .int .i64 b.y, .int .i64 b.vx, .int .i64 b.vy, .int .i64 b.aim, .int .i64 b.life, .int .i64 m] 100 (0, 0)) ∧ wr.heap[w.heap.size + 1 + 1]? = some (.cells #[Value.int .i64 0, .int .i64 0, .int .i64 0, .int .i64 0, .int .i64 0, .int .i64 0, .int .i64 0, .int .i64 0, .int .i64 0] 100 (0, 0)) ∧ Below w.heap.size w wr)
 case first =>
  by_cases ht0 : 0 < b.timer
  ·have z0 : decide (0 < b.timer) = true := by simpa using ht0
   have em : m = b.timer - 1 := by rw [← hm]; unfold tm1; rw [if_pos ht0]
   obtain ⟨W1, hW1, hA, hB, hC, hB0, hS0⟩ := rows3 w #[Value.slice a L.length cap] #[Value.int .i64 0, .int .i64 b.owner, .int .i64 b.x, .int .i64 b.y, .int .i64 b.vx, .int .i64 b.vy, .int .i64 b.aim, .int .i64 b.life, .int .i64 (b.timer - 1)] #[Value.int .i64 0, .int .i64 0, .int .i64 0, .int .i64 0, .int .i64 0, .int .i64 0, .int .i64 0, .int .i64 0, .int .i64 0] 26 100 100
   have EM := Lib.hid em
   clear em hm
   go_wp2_with (fail)
   try rw [hW1]
   clear hW1
   go_meet
   case rel => exact ⟨rfl, hA, by rw [EM.out]; exact hB, hC, hB0⟩
  ·have z0 : decide (0 < b.timer) = false := by simpa using ht0
   have em : m = b.timer := by rw [← hm]; unfold tm1; rw [if_neg ht0]
   obtain ⟨W1, hW1, hA, hB, hC, hB0, hS0⟩ := rows3 w #[Value.slice a L.length cap] #[Value.int .i64 0, .int .i64 b.owner, .int .i64 b.x, .int .i64 b.y, .int .i64 b.vx, .int .i64 b.vy, .int .i64 b.aim, .int .i64 b.life, .int .i64 (b.timer)] #[Value.int .i64 0, .int .i64 0, .int .i64 0, .int .i64 0, .int .i64 0, .int .i64 0, .int .i64 0, .int .i64 0, .int .i64 0] 26 100 100
   have EM := Lib.hid em
   clear em hm
   go_wp2_with (fail)
   try rw [hW1]
   clear hW1
   go_meet
   case rel => exact ⟨rfl, hA, by rw [EM.out]; exact hB, hC, hB0⟩
 clear hm
 obtain ⟨rfl, hA, hB, hC, hB0⟩ := hcut
 have cB := rowCells hB
 have fB := fun j => frozenHeap hB j
 have hB1 := setHeap (k := 4) (v := .int .i64 0) hB
 have hA1 := farHeap (p := ⟨w.heap.size + 1, 4, none⟩) hA (by show w.heap.size ≠ w.heap.size + 1; omega) (.int .i64 0)
 have hC1 := farHeap (p := ⟨w.heap.size + 1, 4, none⟩) hC (by show w.heap.size + 1 + 1 ≠ w.heap.size + 1; omega) (.int .i64 0)
 have hb1 := hB0.setCell (p := ⟨w.heap.size + 1, 4, none⟩) (by show w.heap.size ≤ w.heap.size + 1; omega) (.int .i64 0)
 obtain ⟨W2, hW2⟩ : ∃ W2, wc.setCell ⟨w.heap.size + 1, 4, none⟩ (.int .i64 0) = W2 := ⟨_, rfl⟩
 rw [hW2] at hA1 hB1 hC1 hb1
 go_upto_region 4 with (fail)
 try rw [hW2]
 clear hW2 cB fB hA hB hC hB0
 have hB2 : W2.heap[w.heap.size + 1]? = some (.cells #[Value.int .i64 0, .int .i64 b.owner, .int .i64 b.x, .int .i64 b.y, .int .i64 (0), .int .i64 b.vy, .int .i64 (b.aim), .int .i64 b.life, .int .i64 (m)] 100 (0, 0)) := hB1
 clear hB1
 have cB2 := rowCells hB2
 have fB2 := fun j => frozenHeap hB2 j
 go_cut [7, 23] from 8 (fun t s wr => t = .bool false ∧ s = .bool (decide (bits .and .i64 i 3 = 2)) ∧ wr = W2)
 case first =>
  rcases hd with ⟨e3, e1, e2⟩ | ⟨e3, e1, e2⟩ | ⟨e3, e1, e2⟩ | ⟨e3, e1, e2⟩
  ·have EZ := Lib.hid (show decide (bits .and .i64 i 3 = 2) = false by rw [e3]; rfl)
   clear e3
   go_wp2_with (fail)
   go_meet
   case rel => exact ⟨rfl, by rw [EZ.out], rfl⟩
  ·have EZ := Lib.hid (show decide (bits .and .i64 i 3 = 2) = false by rw [e3]; rfl)
   clear e3
   go_wp2_with (fail)
   go_meet
   case rel => exact ⟨rfl, by rw [EZ.out], rfl⟩
  ·have EZ := Lib.hid (show decide (bits .and .i64 i 3 = 2) = true by rw [e3]; rfl)
   clear e3
   go_wp2_with (fail)
   go_meet
   case rel => exact ⟨rfl, by rw [EZ.out], rfl⟩
  ·have EZ := Lib.hid (show decide (bits .and .i64 i 3 = 2) = false by rw [e3]; rfl)
   clear e3
   go_wp2_with (fail)
   go_meet
   case rel => exact ⟨rfl, by rw [EZ.out], rfl⟩
 obtain ⟨rfl, rfl, rfl⟩ := hcut
 go_upto_if 23 with (fail)
 obtain ⟨vx0, hv0⟩ : ∃ m, (if bits .and .i64 i 3 = 2 then 3 else 0 : Int) = m := ⟨_, rfl⟩
 obtain ⟨am0, ha0⟩ : ∃ m, (if bits .and .i64 i 3 = 2 then 1 else b.aim : Int) = m := ⟨_, rfl⟩
 have HV0 := Lib.hid hv0
 have HA0 := Lib.hid ha0
 clear hv0 ha0
 go_cut [7] from 8 (fun t wr => t = .bool false ∧ wr.heap[w.heap.size]? = some (.cells #[Value.slice a L.length cap] 26 (0, 0)) ∧ wr.heap[w.heap.size + 1]? = some (.cells #[Value.int .i64 0, .int .i64 b.owner, .int .i64 b.x, .int .i64 b.y, .int .i64 (vx0), .int .i64 b.vy, .int .i64 (am0), .int .i64 b.life, .int .i64 (m)] 100 (0, 0)) ∧ wr.heap[w.heap.size + 1 + 1]? = some (.cells #[Value.int .i64 0, .int .i64 0, .int .i64 0, .int .i64 0, .int .i64 0, .int .i64 0, .int .i64 0, .int .i64 0, .int .i64 0] 100 (0, 0)) ∧ Below w.heap.size w wr)
 case first =>
  rcases hd with ⟨e3, e1, e2⟩ | ⟨e3, e1, e2⟩ | ⟨e3, e1, e2⟩ | ⟨e3, e1, e2⟩
  ·have ev : vx0 = 0 := by rw [← HV0.out, e3]; rfl
   have ea : am0 = b.aim := by rw [← HA0.out, e3]; rfl
   have EV := Lib.hid ev
   have EA := Lib.hid ea
   clear ev ea
   go_wp2_with (fail)
   go_meet
   case rel => exact ⟨rfl, hA1, by rw [EV.out, EA.out]; exact hB2, hC1, hb1⟩
  ·have ev : vx0 = 0 := by rw [← HV0.out, e3]; rfl
   have ea : am0 = b.aim := by rw [← HA0.out, e3]; rfl
   have EV := Lib.hid ev
   have EA := Lib.hid ea
   clear ev ea
   go_wp2_with (fail)
   go_meet
   case rel => exact ⟨rfl, hA1, by rw [EV.out, EA.out]; exact hB2, hC1, hb1⟩
  ·have ev : vx0 = 3 := by rw [← HV0.out, e3]; rfl
   have ea : am0 = 1 := by rw [← HA0.out, e3]; rfl
   have EV := Lib.hid ev
   have EA := Lib.hid ea
   clear ev ea
   have hBa := setHeap (k := 6) (v := .int .i64 (1)) (setHeap (k := 4) (v := .int .i64 (3)) hB2)
   have hAa := farHeap (p := ⟨w.heap.size + 1, 6, none⟩) (farHeap (p := ⟨w.heap.size + 1, 4, none⟩) hA1 (by show w.heap.size ≠ w.heap.size + 1; omega) (.int .i64 (3))) (by show w.heap.size ≠ w.heap.size + 1; omega) (.int .i64 (1))
   have hCa := farHeap (p := ⟨w.heap.size + 1, 6, none⟩) (farHeap (p := ⟨w.heap.size + 1, 4, none⟩) hC1 (by show w.heap.size + 1 + 1 ≠ w.heap.size + 1; omega) (.int .i64 (3))) (by show w.heap.size + 1 + 1 ≠ w.heap.size + 1; omega) (.int .i64 (1))
   have hba := (hb1.setCell (p := ⟨w.heap.size + 1, 4, none⟩) (by show w.heap.size ≤ w.heap.size + 1; omega) (.int .i64 (3))).setCell (p := ⟨w.heap.size + 1, 6, none⟩) (by show w.heap.size ≤ w.heap.size + 1; omega) (.int .i64 (1))
   go_wp2_with (fail)
   go_meet
   case rel => exact ⟨rfl, hAa, by rw [EV.out, EA.out]; exact hBa, hCa, hba⟩
  ·have ev : vx0 = 0 := by rw [← HV0.out, e3]; rfl
   have ea : am0 = b.aim := by rw [← HA0.out, e3]; rfl
   have EV := Lib.hid ev
   have EA := Lib.hid ea
   clear ev ea
   go_wp2_with (fail)
   go_meet
   case rel => exact ⟨rfl, hA1, by rw [EV.out, EA.out]; exact hB2, hC1, hb1⟩
 clear cB2 fB2 hA1 hB2 hC1 hb1
 obtain ⟨rfl, hA1, hB2, hC1, hb1⟩ := hcut
 have cB2 := rowCells hB2
 have fB2 := fun j => frozenHeap hB2 j
 go_upto_region 7 with (fail)
 go_cut [7, 33] from 8 (fun t s wr => t = .bool false ∧ s = .bool (decide (bits .and .i64 i 3 = 1)) ∧ wr = wc)
 case first =>
  rcases hd with ⟨e3, e1, e2⟩ | ⟨e3, e1, e2⟩ | ⟨e3, e1, e2⟩ | ⟨e3, e1, e2⟩
  ·have EZ := Lib.hid (show decide (bits .and .i64 i 3 = 1) = false by rw [e3]; rfl)
   clear e3
   go_wp2_with (fail)
   go_meet
   case rel => exact ⟨rfl, by rw [EZ.out], rfl⟩
  ·have EZ := Lib.hid (show decide (bits .and .i64 i 3 = 1) = true by rw [e3]; rfl)
   clear e3
   go_wp2_with (fail)
   go_meet
   case rel => exact ⟨rfl, by rw [EZ.out], rfl⟩
  ·have EZ := Lib.hid (show decide (bits .and .i64 i 3 = 1) = false by rw [e3]; rfl)
   clear e3
   go_wp2_with (fail)
   go_meet
   case rel => exact ⟨rfl, by rw [EZ.out], rfl⟩
  ·have EZ := Lib.hid (show decide (bits .and .i64 i 3 = 1) = false by rw [e3]; rfl)
   clear e3
   go_wp2_with (fail)
   go_meet
   case rel => exact ⟨rfl, by rw [EZ.out], rfl⟩
 obtain ⟨rfl, rfl, hwc⟩ := hcut
 subst hwc
 go_upto_if 33 with (fail)
 go_cut [7] from 8 (fun t wr => t = .bool false ∧ wr.heap[w.heap.size]? = some (.cells #[Value.slice a L.length cap] 26 (0, 0)) ∧ wr.heap[w.heap.size + 1]? = some (.cells #[Value.int .i64 0, .int .i64 b.owner, .int .i64 b.x, .int .i64 b.y, .int .i64 (vx1), .int .i64 b.vy, .int .i64 (am1), .int .i64 b.life, .int .i64 (m)] 100 (0, 0)) ∧ wr.heap[w.heap.size + 1 + 1]? = some (.cells #[Value.int .i64 0, .int .i64 0, .int .i64 0, .int .i64 0, .int .i64 0, .int .i64 0, .int .i64 0, .int .i64 0, .int .i64 0] 100 (0, 0)) ∧ Below w.heap.size w wr)
 case first =>
  rcases hd with ⟨e3, e1, e2⟩ | ⟨e3, e1, e2⟩ | ⟨e3, e1, e2⟩ | ⟨e3, e1, e2⟩
  ·have ev : vx1 = vx0 := by rw [← HVX.out, ← HV0.out]; unfold vxI; rw [e3]; rfl
   have ea : am1 = am0 := by rw [← HAM.out, ← HA0.out]; unfold amI; rw [e3]; rfl
   have EV := Lib.hid ev
   have EA := Lib.hid ea
   clear ev ea
   go_wp2_with (fail)
   go_meet
   case rel => exact ⟨rfl, hA1, by rw [EV.out, EA.out]; exact hB2, hC1, hb1⟩
  ·have ev : vx1 = -3 := by rw [← HVX.out]; unfold vxI; rw [e3]; rfl
   have ea : am1 = -1 := by rw [← HAM.out]; unfold amI; rw [e3]; rfl
   have EV := Lib.hid ev
   have EA := Lib.hid ea
   clear ev ea
   have hBa := setHeap (k := 6) (v := .int .i64 (-1)) (setHeap (k := 4) (v := .int .i64 (-3)) hB2)
   have hAa := farHeap (p := ⟨w.heap.size + 1, 6, none⟩) (farHeap (p := ⟨w.heap.size + 1, 4, none⟩) hA1 (by show w.heap.size ≠ w.heap.size + 1; omega) (.int .i64 (-3))) (by show w.heap.size ≠ w.heap.size + 1; omega) (.int .i64 (-1))
   have hCa := farHeap (p := ⟨w.heap.size + 1, 6, none⟩) (farHeap (p := ⟨w.heap.size + 1, 4, none⟩) hC1 (by show w.heap.size + 1 + 1 ≠ w.heap.size + 1; omega) (.int .i64 (-3))) (by show w.heap.size + 1 + 1 ≠ w.heap.size + 1; omega) (.int .i64 (-1))
   have hba := (hb1.setCell (p := ⟨w.heap.size + 1, 4, none⟩) (by show w.heap.size ≤ w.heap.size + 1; omega) (.int .i64 (-3))).setCell (p := ⟨w.heap.size + 1, 6, none⟩) (by show w.heap.size ≤ w.heap.size + 1; omega) (.int .i64 (-1))
   go_wp2_with (fail)
   go_meet
   case rel => exact ⟨rfl, hAa, by rw [EV.out, EA.out]; exact hBa, hCa, hba⟩
  ·have ev : vx1 = vx0 := by rw [← HVX.out, ← HV0.out]; unfold vxI; rw [e3]; rfl
   have ea : am1 = am0 := by rw [← HAM.out, ← HA0.out]; unfold amI; rw [e3]; rfl
   have EV := Lib.hid ev
   have EA := Lib.hid ea
   clear ev ea
   go_wp2_with (fail)
   go_meet
   case rel => exact ⟨rfl, hA1, by rw [EV.out, EA.out]; exact hB2, hC1, hb1⟩
  ·have ev : vx1 = vx0 := by rw [← HVX.out, ← HV0.out]; unfold vxI; rw [e3]; rfl
   have ea : am1 = am0 := by rw [← HAM.out, ← HA0.out]; unfold amI; rw [e3]; rfl
   have EV := Lib.hid ev
   have EA := Lib.hid ea
   clear ev ea
   go_wp2_with (fail)
   go_meet
   case rel => exact ⟨rfl, hA1, by rw [EV.out, EA.out]; exact hB2, hC1, hb1⟩
 clear cB2 fB2 hA1 hB2 hC1 hb1 hd
 obtain ⟨rfl, hA, hB, hC, hB0⟩ := hcut

 rcases hj with e4 | e4
 ·have E4 := Lib.hid e4
  have HV := Lib.hid (show vyI L b i = min (b.vy + 1) 8 from str_free E4.out)
  rcases hf with e8 | e8
  ·have E8 := Lib.hid e8
   have HT := Lib.hid (show strT b i = false by unfold strT; rw [E8.out, HM.out]; rfl)
   have HS := Lib.hid (show strB L b i = ⟨0, b.owner, b.x, b.y, vx1, min (b.vy + 1) 8, am1, b.life, m⟩ by unfold strB; rw [HT.out, HV.out, HM.out, HVX.out, HAM.out, HK.out]; rfl)
   have h1 := h.keep hB0
   go_upto_region 10 with (fail)
   have bs_0 : Below wc.heap.size wc wc.drew := belowDrew wc 1
   refine wp_region_held_drew (S := (fun w' => (∀ j, w'.cell? ⟨w.heap.size, j, none⟩ = #[Value.slice a L.length cap][j]?) ∧ (∀ j, w'.cell? ⟨w.heap.size + 1, j, none⟩ = #[Value.int .i64 0, .int .i64 b.owner, .int .i64 b.x, .int .i64 b.y, .int .i64 (vx1), .int .i64 (b.vy), .int .i64 (am1), .int .i64 b.life, .int .i64 (m)][j]?))) (by kernel_rfl) ?_ (fun hHeld => ?_)
   ·exact ⟨rowCells (keepHeap bs_0 hA), rowCells (keepHeap bs_0 hB)⟩
   refine tk 0 36 ?_
   (try simp only [zP, zA, zB, zC])
   refine tk 1 37 ?_
   (try simp only [zP, zA, zB, zC])
   refine tk 2 38 ?_
   (try simp only [zP, zA, zB, zC])
   refine tk 3 39 ?_
   (try simp only [zP, zA, zB, zC])
   refine tof 4 40 3 39 true false ?_
   (try simp only [zP, zA, zB, zC])
   refine tof 5 41 3 39 true false ?_
   (try simp only [zP, zA, zB, zC])
   refine tof 6 42 3 39 true false ?_
   (try simp only [zP, zA, zB, zC])
   refine tof 7 43 3 39 true false ?_
   (try simp only [zP, zA, zB, zC])
   refine tof 8 44 3 39 true false ?_
   (try simp only [zP, zA, zB, zC])
   refine tof 9 45 3 39 true false ?_
   (try simp only [zP, zA, zB, zC])
   refine tof 10 46 3 39 true false ?_
   (try simp only [zP, zA, zB, zC])
   refine tof 11 47 3 39 true false ?_
   (try simp only [zP, zA, zB, zC])
   refine tof 12 48 3 39 true false ?_
   (try simp only [zP, zA, zB, zC])
   refine tof 13 49 3 39 true false ?_
   (try simp only [zP, zA, zB, zC])
   refine tk 14 50 ?_
   (try simp only [zP, zA, zB, zC])
   refine wpAnyH_done (by kernel_rfl) ?_ _
   have hA2 := keepHeap bs_0 hA
   have hB2 := keepHeap bs_0 hB
   have hC2 := keepHeap bs_0 hC
   have hb2 := hB0.trans (bs_0.mono hB0.size)
   have cB2 := rowCells hB2
   have fB2 := fun j => frozenHeap hB2 j
   have hB3 := setHeap (k := 5) (v := .int .i64 (min (b.vy + 1) 8)) hB2
   have hC3 := farHeap (p := ⟨w.heap.size + 1, 5, none⟩) hC2 (by show w.heap.size + 1 + 1 ≠ w.heap.size + 1; omega) (.int .i64 (min (b.vy + 1) 8))
   have hb3 := hb2.setCell (p := ⟨w.heap.size + 1, 5, none⟩) (by show w.heap.size ≤ w.heap.size + 1; omega) (.int .i64 (min (b.vy + 1) 8))
   obtain ⟨W3, hW3⟩ : ∃ W3, (wc.drew).setCell ⟨w.heap.size + 1, 5, none⟩ (.int .i64 (min (b.vy + 1) 8)) = W3 := ⟨_, rfl⟩
   rw [hW3] at hB3 hC3 hb3
   go_upto_region 13 with (fail)
   try rw [hW3]
   clear hW3 cB2 fB2 hA2 hB2 hC2 hb2
   have hB4 : W3.heap[w.heap.size + 1]? = some (.cells #[Value.int .i64 0, .int .i64 b.owner, .int .i64 b.x, .int .i64 b.y, .int .i64 (vx1), .int .i64 (min (b.vy + 1) 8), .int .i64 (am1), .int .i64 b.life, .int .i64 (m)] 100 (0, 0)) := hB3
   have cB4 := rowCells hB4
   have fB4 := fun j => frozenHeap hB4 j
   have cC6 := rowCells hC3
   have fC6 := fun j => frozenHeap hC3 j
   go_wp2_with (fail)
   obtain ⟨c, hc⟩ : ∃ c : Bd, c = ⟨0, b.owner, b.x, b.y, vx1, min (b.vy + 1) 8, am1, b.life, m⟩ := ⟨_, rfl⟩
   have hP := putB_heap hC3 rfl c c.x c.y c.vx c.vy
   have hL := load_bd hP rfl
   have hbP := putB_below hb3 (c := w.heap.size + 1 + 1) (by omega) c c.x c.y c.vx c.vy
   subst hc
   unfold putB at hL hbP
   exact bodyPost_ret (v := .tuple #[.agg (bmv (⟨0, b.owner, b.x, b.y, vx1, min (b.vy + 1) 8, am1, b.life, m⟩) b.x b.y (vx1) (min (b.vy + 1) 8)), .bool false]) (results_two rfl _ _ _ _ _ rfl rfl hL) rfl ⟨by rw [HS.out, HT.out]; rfl, hbP⟩
  ·have E8 := Lib.hid e8
   by_cases hz : m = 0
   ·have hz1 : decide (0 < m) = false := by simp; omega
    have hz2 : (m == 0) = true := by simp [hz]
    have HT := Lib.hid (show strT b i = true by unfold strT; rw [E8.out, HM.out]; simp [hz])
    have HS := Lib.hid (show strB L b i = ⟨0, b.owner, b.x, b.y, vx1, min (b.vy + 1) 8, am1, b.life, 12⟩ by unfold strB; rw [HT.out, HV.out, HM.out, HVX.out, HAM.out, HK.out]; rfl)
    clear hz
    have h1 := h.keep hB0
    go_upto_region 10 with (fail)
    have bs_0 : Below wc.heap.size wc wc.drew := belowDrew wc 1
    refine wp_region_held_drew (S := (fun w' => (∀ j, w'.cell? ⟨w.heap.size, j, none⟩ = #[Value.slice a L.length cap][j]?) ∧ (∀ j, w'.cell? ⟨w.heap.size + 1, j, none⟩ = #[Value.int .i64 0, .int .i64 b.owner, .int .i64 b.x, .int .i64 b.y, .int .i64 (vx1), .int .i64 (b.vy), .int .i64 (am1), .int .i64 b.life, .int .i64 (m)][j]?))) (by kernel_rfl) ?_ (fun hHeld => ?_)
    ·exact ⟨rowCells (keepHeap bs_0 hA), rowCells (keepHeap bs_0 hB)⟩
    refine tk 0 36 ?_
    (try simp only [zP, zA, zB, zC])
    refine tk 1 37 ?_
    (try simp only [zP, zA, zB, zC])
    refine tk 2 38 ?_
    (try simp only [zP, zA, zB, zC])
    refine tk 3 39 ?_
    (try simp only [zP, zA, zB, zC])
    refine tof 4 40 3 39 true false ?_
    (try simp only [zP, zA, zB, zC])
    refine tof 5 41 3 39 true false ?_
    (try simp only [zP, zA, zB, zC])
    refine tof 6 42 3 39 true false ?_
    (try simp only [zP, zA, zB, zC])
    refine tof 7 43 3 39 true false ?_
    (try simp only [zP, zA, zB, zC])
    refine tof 8 44 3 39 true false ?_
    (try simp only [zP, zA, zB, zC])
    refine tof 9 45 3 39 true false ?_
    (try simp only [zP, zA, zB, zC])
    refine tof 10 46 3 39 true false ?_
    (try simp only [zP, zA, zB, zC])
    refine tof 11 47 3 39 true false ?_
    (try simp only [zP, zA, zB, zC])
    refine tof 12 48 3 39 true false ?_
    (try simp only [zP, zA, zB, zC])
    refine tof 13 49 3 39 true false ?_
    (try simp only [zP, zA, zB, zC])
    refine tk 14 50 ?_
    (try simp only [zP, zA, zB, zC])
    refine wpAnyH_done (by kernel_rfl) ?_ _
    have hA2 := keepHeap bs_0 hA
    have hB2 := keepHeap bs_0 hB
    have hC2 := keepHeap bs_0 hC
    have hb2 := hB0.trans (bs_0.mono hB0.size)
    have cB2 := rowCells hB2
    have fB2 := fun j => frozenHeap hB2 j
    have hB3 := setHeap (k := 5) (v := .int .i64 (min (b.vy + 1) 8)) hB2
    have hC3 := farHeap (p := ⟨w.heap.size + 1, 5, none⟩) hC2 (by show w.heap.size + 1 + 1 ≠ w.heap.size + 1; omega) (.int .i64 (min (b.vy + 1) 8))
    have hb3 := hb2.setCell (p := ⟨w.heap.size + 1, 5, none⟩) (by show w.heap.size ≤ w.heap.size + 1; omega) (.int .i64 (min (b.vy + 1) 8))
    obtain ⟨W3, hW3⟩ : ∃ W3, (wc.drew).setCell ⟨w.heap.size + 1, 5, none⟩ (.int .i64 (min (b.vy + 1) 8)) = W3 := ⟨_, rfl⟩
    rw [hW3] at hB3 hC3 hb3
    go_upto_region 13 with (fail)
    try rw [hW3]
    clear hW3 cB2 fB2 hA2 hB2 hC2 hb2
    have hB4 : W3.heap[w.heap.size + 1]? = some (.cells #[Value.int .i64 0, .int .i64 b.owner, .int .i64 b.x, .int .i64 b.y, .int .i64 (vx1), .int .i64 (min (b.vy + 1) 8), .int .i64 (am1), .int .i64 b.life, .int .i64 (m)] 100 (0, 0)) := hB3
    have cB4 := rowCells hB4
    have fB4 := fun j => frozenHeap hB4 j
    have hB5 := setHeap (k := 8) (v := .int .i64 12) hB4
    have hC5 := farHeap (p := ⟨w.heap.size + 1, 8, none⟩) hC3 (by show w.heap.size + 1 + 1 ≠ w.heap.size + 1; omega) (.int .i64 12)
    have hb5 := hb3.setCell (p := ⟨w.heap.size + 1, 8, none⟩) (by show w.heap.size ≤ w.heap.size + 1; omega) (.int .i64 12)
    obtain ⟨W5, hW5⟩ : ∃ W5, W3.setCell ⟨w.heap.size + 1, 8, none⟩ (.int .i64 12) = W5 := ⟨_, rfl⟩
    rw [hW5] at hB5 hC5 hb5
    go_upto_region 15 with (fail)
    try rw [hW5]
    clear hW5 cB4 fB4
    have hB6 : W5.heap[w.heap.size + 1]? = some (.cells #[Value.int .i64 0, .int .i64 b.owner, .int .i64 b.x, .int .i64 b.y, .int .i64 (vx1), .int .i64 (min (b.vy + 1) 8), .int .i64 (am1), .int .i64 b.life, .int .i64 (12)] 100 (0, 0)) := hB5
    have cB6 := rowCells hB6
    have cC6 := rowCells hC5
    have fC6 := fun j => frozenHeap hC5 j
    go_wp2_with (fail)
    obtain ⟨c, hc⟩ : ∃ c : Bd, c = ⟨0, b.owner, b.x, b.y, vx1, min (b.vy + 1) 8, am1, b.life, 12⟩ := ⟨_, rfl⟩
    have hP := putB_heap hC5 rfl c c.x c.y c.vx c.vy
    have hL := load_bd hP rfl
    have hbP := putB_below hb5 (c := w.heap.size + 1 + 1) (by omega) c c.x c.y c.vx c.vy
    subst hc
    unfold putB at hL hbP
    exact bodyPost_ret (v := .tuple #[.agg (bmv (⟨0, b.owner, b.x, b.y, vx1, min (b.vy + 1) 8, am1, b.life, 12⟩) b.x b.y (vx1) (min (b.vy + 1) 8)), .bool true]) (results_two rfl _ _ _ _ _ rfl rfl hL) rfl ⟨by rw [HS.out, HT.out]; rfl, hbP⟩
   ·have hz1 : decide (0 < m) = true := by simp; omega
    have hz2 : (m == 0) = false := by simp [hz]
    have HT := Lib.hid (show strT b i = false by unfold strT; rw [E8.out, HM.out]; simp [hz])
    have HS := Lib.hid (show strB L b i = ⟨0, b.owner, b.x, b.y, vx1, min (b.vy + 1) 8, am1, b.life, m⟩ by unfold strB; rw [HT.out, HV.out, HM.out, HVX.out, HAM.out, HK.out]; rfl)
    clear hz
    have h1 := h.keep hB0
    go_upto_region 10 with (fail)
    have bs_0 : Below wc.heap.size wc wc.drew := belowDrew wc 1
    refine wp_region_held_drew (S := (fun w' => (∀ j, w'.cell? ⟨w.heap.size, j, none⟩ = #[Value.slice a L.length cap][j]?) ∧ (∀ j, w'.cell? ⟨w.heap.size + 1, j, none⟩ = #[Value.int .i64 0, .int .i64 b.owner, .int .i64 b.x, .int .i64 b.y, .int .i64 (vx1), .int .i64 (b.vy), .int .i64 (am1), .int .i64 b.life, .int .i64 (m)][j]?))) (by kernel_rfl) ?_ (fun hHeld => ?_)
    ·exact ⟨rowCells (keepHeap bs_0 hA), rowCells (keepHeap bs_0 hB)⟩
    refine tk 0 36 ?_
    (try simp only [zP, zA, zB, zC])
    refine tk 1 37 ?_
    (try simp only [zP, zA, zB, zC])
    refine tk 2 38 ?_
    (try simp only [zP, zA, zB, zC])
    refine tk 3 39 ?_
    (try simp only [zP, zA, zB, zC])
    refine tof 4 40 3 39 true false ?_
    (try simp only [zP, zA, zB, zC])
    refine tof 5 41 3 39 true false ?_
    (try simp only [zP, zA, zB, zC])
    refine tof 6 42 3 39 true false ?_
    (try simp only [zP, zA, zB, zC])
    refine tof 7 43 3 39 true false ?_
    (try simp only [zP, zA, zB, zC])
    refine tof 8 44 3 39 true false ?_
    (try simp only [zP, zA, zB, zC])
    refine tof 9 45 3 39 true false ?_
    (try simp only [zP, zA, zB, zC])
    refine tof 10 46 3 39 true false ?_
    (try simp only [zP, zA, zB, zC])
    refine tof 11 47 3 39 true false ?_
    (try simp only [zP, zA, zB, zC])
    refine tof 12 48 3 39 true false ?_
    (try simp only [zP, zA, zB, zC])
    refine tof 13 49 3 39 true false ?_
    (try simp only [zP, zA, zB, zC])
    refine tk 14 50 ?_
    (try simp only [zP, zA, zB, zC])
    refine wpAnyH_done (by kernel_rfl) ?_ _
    have hA2 := keepHeap bs_0 hA
    have hB2 := keepHeap bs_0 hB
    have hC2 := keepHeap bs_0 hC
    have hb2 := hB0.trans (bs_0.mono hB0.size)
    have cB2 := rowCells hB2
    have fB2 := fun j => frozenHeap hB2 j
    have hB3 := setHeap (k := 5) (v := .int .i64 (min (b.vy + 1) 8)) hB2
    have hC3 := farHeap (p := ⟨w.heap.size + 1, 5, none⟩) hC2 (by show w.heap.size + 1 + 1 ≠ w.heap.size + 1; omega) (.int .i64 (min (b.vy + 1) 8))
    have hb3 := hb2.setCell (p := ⟨w.heap.size + 1, 5, none⟩) (by show w.heap.size ≤ w.heap.size + 1; omega) (.int .i64 (min (b.vy + 1) 8))
    obtain ⟨W3, hW3⟩ : ∃ W3, (wc.drew).setCell ⟨w.heap.size + 1, 5, none⟩ (.int .i64 (min (b.vy + 1) 8)) = W3 := ⟨_, rfl⟩
    rw [hW3] at hB3 hC3 hb3
    go_upto_region 13 with (fail)
    try rw [hW3]
    clear hW3 cB2 fB2 hA2 hB2 hC2 hb2
    have hB4 : W3.heap[w.heap.size + 1]? = some (.cells #[Value.int .i64 0, .int .i64 b.owner, .int .i64 b.x, .int .i64 b.y, .int .i64 (vx1), .int .i64 (min (b.vy + 1) 8), .int .i64 (am1), .int .i64 b.life, .int .i64 (m)] 100 (0, 0)) := hB3
    have cB4 := rowCells hB4
    have fB4 := fun j => frozenHeap hB4 j
    have cC6 := rowCells hC3
    have fC6 := fun j => frozenHeap hC3 j
    go_wp2_with (fail)
    obtain ⟨c, hc⟩ : ∃ c : Bd, c = ⟨0, b.owner, b.x, b.y, vx1, min (b.vy + 1) 8, am1, b.life, m⟩ := ⟨_, rfl⟩
    have hP := putB_heap hC3 rfl c c.x c.y c.vx c.vy
    have hL := load_bd hP rfl
    have hbP := putB_below hb3 (c := w.heap.size + 1 + 1) (by omega) c c.x c.y c.vx c.vy
    subst hc
    unfold putB at hL hbP
    exact bodyPost_ret (v := .tuple #[.agg (bmv (⟨0, b.owner, b.x, b.y, vx1, min (b.vy + 1) 8, am1, b.life, m⟩) b.x b.y (vx1) (min (b.vy + 1) 8)), .bool false]) (results_two rfl _ _ _ _ _ rfl rfl hL) rfl ⟨by rw [HS.out, HT.out]; rfl, hbP⟩
 ·have E4 := Lib.hid e4
  cases qs : blockB L b.x (b.y + 1) 12 with
  | true =>
   have QS := Lib.hid qs
   clear qs
   have HV := Lib.hid (show vyI L b i = -9 from str_jump E4.out QS.out)
   rcases hf with e8 | e8
   ·have E8 := Lib.hid e8
    have HT := Lib.hid (show strT b i = false by unfold strT; rw [E8.out, HM.out]; rfl)
    have HS := Lib.hid (show strB L b i = ⟨0, b.owner, b.x, b.y, vx1, -9, am1, b.life, m⟩ by unfold strB; rw [HT.out, HV.out, HM.out, HVX.out, HAM.out, HK.out]; rfl)
    have h1 := h.keep hB0
    go_upto_region 10 with (fail)
    have bs_0 : Below wc.heap.size wc wc.drew := belowDrew wc 1
    refine wp_region_held_drew (S := (fun w' => (∀ j, w'.cell? ⟨w.heap.size, j, none⟩ = #[Value.slice a L.length cap][j]?) ∧ (∀ j, w'.cell? ⟨w.heap.size + 1, j, none⟩ = #[Value.int .i64 0, .int .i64 b.owner, .int .i64 b.x, .int .i64 b.y, .int .i64 (vx1), .int .i64 (b.vy), .int .i64 (am1), .int .i64 b.life, .int .i64 (m)][j]?))) (by kernel_rfl) ?_ (fun hHeld => ?_)
    ·exact ⟨rowCells (keepHeap bs_0 hA), rowCells (keepHeap bs_0 hB)⟩
    refine tk 0 36 ?_
    (try simp only [zP, zA, zB, zC])
    refine tk 1 37 ?_
    (try simp only [zP, zA, zB, zC])
    refine tk 2 38 ?_
    (try simp only [zP, zA, zB, zC])
    refine tk 3 39 ?_
    (try simp only [zP, zA, zB, zC])
    refine tw 4 40 3 39 true ?_
    (try simp only [zP, zA, zB, zC])
    refine tw 5 41 3 39 true ?_
    (try simp only [zP, zA, zB, zC])
    refine tw 6 42 3 39 true ?_
    (try simp only [zP, zA, zB, zC])
    refine tw 7 43 3 39 true ?_
    (try simp only [zP, zA, zB, zC])
    refine tw 8 44 3 39 true ?_
    (try simp only [zP, zA, zB, zC])
    refine tw 9 45 3 39 true ?_
    (try simp only [zP, zA, zB, zC])
    refine tw 10 46 3 39 true ?_
    (try simp only [zP, zA, zB, zC])
    refine tw 11 47 3 39 true ?_
    (try simp only [zP, zA, zB, zC])
    refine wpAnyH_ready (rs := [12]) (by kernel_rfl) (by simp) ?_
    refine AllReadyH.cons rfl (fun K hK => ?_) AllReadyH.nil
    go_simp
    refine (sizeOf_spec _ _).mono ?_
    rintro e w_x ⟨rfl, rfl⟩
    rw [sizeI_0]
    (try go_wp2_with (fail))
    refine hK.out _ _ ?_ (fun hHeld => ?_)
    ·exact ⟨rowCells (keepHeap bs_0 hA), rowCells (keepHeap bs_0 hB)⟩
    clear hK K
    (try simp only [zP, zA, zB, zC])
    refine wpAnyH_ready (rs := [13]) (by kernel_rfl) (by simp) ?_
    refine AllReadyH.cons rfl (fun K hK => ?_) AllReadyH.nil
    go_simp
    refine (solid_spec (h1.keep bs_0) hg b.x (b.y + 1) 12 (by omega) (by omega) hx.2 (by omega) hx.1 (by omega)).mono ?_
    rintro e w_1 ⟨rfl, hb_1⟩
    have bs_1 := bs_0.trans (hb_1.mono bs_0.size)
    rw [show blockB L b.x (b.y + 1) ((12 : Nat) : Int) = true from QS.out]
    (try go_wp2_with (fail))
    refine hK.out _ _ ?_ (fun hHeld => ?_)
    ·exact ⟨rowCells (keepHeap bs_1 hA), rowCells (keepHeap bs_1 hB)⟩
    clear hK K
    (try simp only [zP, zA, zB, zC])
    refine tk 14 50 ?_
    (try simp only [zP, zA, zB, zC])
    refine wpAnyH_done (by kernel_rfl) ?_ _
    have hA2 := keepHeap bs_1 hA
    have hB2 := keepHeap bs_1 hB
    have hC2 := keepHeap bs_1 hC
    have hb2 := hB0.trans (bs_1.mono hB0.size)
    have cB2 := rowCells hB2
    have fB2 := fun j => frozenHeap hB2 j
    have hB3 := setHeap (k := 5) (v := .int .i64 (-9)) hB2
    have hC3 := farHeap (p := ⟨w.heap.size + 1, 5, none⟩) hC2 (by show w.heap.size + 1 + 1 ≠ w.heap.size + 1; omega) (.int .i64 (-9))
    have hb3 := hb2.setCell (p := ⟨w.heap.size + 1, 5, none⟩) (by show w.heap.size ≤ w.heap.size + 1; omega) (.int .i64 (-9))
    obtain ⟨W3, hW3⟩ : ∃ W3, (w_1).setCell ⟨w.heap.size + 1, 5, none⟩ (.int .i64 (-9)) = W3 := ⟨_, rfl⟩
    rw [hW3] at hB3 hC3 hb3
    go_upto_region 13 with (fail)
    try rw [hW3]
    clear hW3 cB2 fB2 hA2 hB2 hC2 hb2
    have hB4 : W3.heap[w.heap.size + 1]? = some (.cells #[Value.int .i64 0, .int .i64 b.owner, .int .i64 b.x, .int .i64 b.y, .int .i64 (vx1), .int .i64 (-9), .int .i64 (am1), .int .i64 b.life, .int .i64 (m)] 100 (0, 0)) := hB3
    have cB4 := rowCells hB4
    have fB4 := fun j => frozenHeap hB4 j
    have cC6 := rowCells hC3
    have fC6 := fun j => frozenHeap hC3 j
    go_wp2_with (fail)
    obtain ⟨c, hc⟩ : ∃ c : Bd, c = ⟨0, b.owner, b.x, b.y, vx1, -9, am1, b.life, m⟩ := ⟨_, rfl⟩
    have hP := putB_heap hC3 rfl c c.x c.y c.vx c.vy
    have hL := load_bd hP rfl
    have hbP := putB_below hb3 (c := w.heap.size + 1 + 1) (by omega) c c.x c.y c.vx c.vy
    subst hc
    unfold putB at hL hbP
    exact bodyPost_ret (v := .tuple #[.agg (bmv (⟨0, b.owner, b.x, b.y, vx1, -9, am1, b.life, m⟩) b.x b.y (vx1) (-9)), .bool false]) (results_two rfl _ _ _ _ _ rfl rfl hL) rfl ⟨by rw [HS.out, HT.out]; rfl, hbP⟩
   ·have E8 := Lib.hid e8
    by_cases hz : m = 0
    ·have hz1 : decide (0 < m) = false := by simp; omega
     have hz2 : (m == 0) = true := by simp [hz]
     have HT := Lib.hid (show strT b i = true by unfold strT; rw [E8.out, HM.out]; simp [hz])
     have HS := Lib.hid (show strB L b i = ⟨0, b.owner, b.x, b.y, vx1, -9, am1, b.life, 12⟩ by unfold strB; rw [HT.out, HV.out, HM.out, HVX.out, HAM.out, HK.out]; rfl)
     clear hz
     have h1 := h.keep hB0
     go_upto_region 10 with (fail)
     have bs_0 : Below wc.heap.size wc wc.drew := belowDrew wc 1
     refine wp_region_held_drew (S := (fun w' => (∀ j, w'.cell? ⟨w.heap.size, j, none⟩ = #[Value.slice a L.length cap][j]?) ∧ (∀ j, w'.cell? ⟨w.heap.size + 1, j, none⟩ = #[Value.int .i64 0, .int .i64 b.owner, .int .i64 b.x, .int .i64 b.y, .int .i64 (vx1), .int .i64 (b.vy), .int .i64 (am1), .int .i64 b.life, .int .i64 (m)][j]?))) (by kernel_rfl) ?_ (fun hHeld => ?_)
     ·exact ⟨rowCells (keepHeap bs_0 hA), rowCells (keepHeap bs_0 hB)⟩
     refine tk 0 36 ?_
     (try simp only [zP, zA, zB, zC])
     refine tk 1 37 ?_
     (try simp only [zP, zA, zB, zC])
     refine tk 2 38 ?_
     (try simp only [zP, zA, zB, zC])
     refine tk 3 39 ?_
     (try simp only [zP, zA, zB, zC])
     refine tw 4 40 3 39 true ?_
     (try simp only [zP, zA, zB, zC])
     refine tw 5 41 3 39 true ?_
     (try simp only [zP, zA, zB, zC])
     refine tw 6 42 3 39 true ?_
     (try simp only [zP, zA, zB, zC])
     refine tw 7 43 3 39 true ?_
     (try simp only [zP, zA, zB, zC])
     refine tw 8 44 3 39 true ?_
     (try simp only [zP, zA, zB, zC])
     refine tw 9 45 3 39 true ?_
     (try simp only [zP, zA, zB, zC])
     refine tw 10 46 3 39 true ?_
     (try simp only [zP, zA, zB, zC])
     refine tw 11 47 3 39 true ?_
     (try simp only [zP, zA, zB, zC])
     refine wpAnyH_ready (rs := [12]) (by kernel_rfl) (by simp) ?_
     refine AllReadyH.cons rfl (fun K hK => ?_) AllReadyH.nil
     go_simp
     refine (sizeOf_spec _ _).mono ?_
     rintro e w_x ⟨rfl, rfl⟩
     rw [sizeI_0]
     (try go_wp2_with (fail))
     refine hK.out _ _ ?_ (fun hHeld => ?_)
     ·exact ⟨rowCells (keepHeap bs_0 hA), rowCells (keepHeap bs_0 hB)⟩
     clear hK K
     (try simp only [zP, zA, zB, zC])
     refine wpAnyH_ready (rs := [13]) (by kernel_rfl) (by simp) ?_
     refine AllReadyH.cons rfl (fun K hK => ?_) AllReadyH.nil
     go_simp
     refine (solid_spec (h1.keep bs_0) hg b.x (b.y + 1) 12 (by omega) (by omega) hx.2 (by omega) hx.1 (by omega)).mono ?_
     rintro e w_1 ⟨rfl, hb_1⟩
     have bs_1 := bs_0.trans (hb_1.mono bs_0.size)
     rw [show blockB L b.x (b.y + 1) ((12 : Nat) : Int) = true from QS.out]
     (try go_wp2_with (fail))
     refine hK.out _ _ ?_ (fun hHeld => ?_)
     ·exact ⟨rowCells (keepHeap bs_1 hA), rowCells (keepHeap bs_1 hB)⟩
     clear hK K
     (try simp only [zP, zA, zB, zC])
     refine tk 14 50 ?_
     (try simp only [zP, zA, zB, zC])
     refine wpAnyH_done (by kernel_rfl) ?_ _
     have hA2 := keepHeap bs_1 hA
     have hB2 := keepHeap bs_1 hB
     have hC2 := keepHeap bs_1 hC
     have hb2 := hB0.trans (bs_1.mono hB0.size)
     have cB2 := rowCells hB2
     have fB2 := fun j => frozenHeap hB2 j
     have hB3 := setHeap (k := 5) (v := .int .i64 (-9)) hB2
     have hC3 := farHeap (p := ⟨w.heap.size + 1, 5, none⟩) hC2 (by show w.heap.size + 1 + 1 ≠ w.heap.size + 1; omega) (.int .i64 (-9))
     have hb3 := hb2.setCell (p := ⟨w.heap.size + 1, 5, none⟩) (by show w.heap.size ≤ w.heap.size + 1; omega) (.int .i64 (-9))
     obtain ⟨W3, hW3⟩ : ∃ W3, (w_1).setCell ⟨w.heap.size + 1, 5, none⟩ (.int .i64 (-9)) = W3 := ⟨_, rfl⟩
     rw [hW3] at hB3 hC3 hb3
     go_upto_region 13 with (fail)
     try rw [hW3]
     clear hW3 cB2 fB2 hA2 hB2 hC2 hb2
     have hB4 : W3.heap[w.heap.size + 1]? = some (.cells #[Value.int .i64 0, .int .i64 b.owner, .int .i64 b.x, .int .i64 b.y, .int .i64 (vx1), .int .i64 (-9), .int .i64 (am1), .int .i64 b.life, .int .i64 (m)] 100 (0, 0)) := hB3
     have cB4 := rowCells hB4
     have fB4 := fun j => frozenHeap hB4 j
     have hB5 := setHeap (k := 8) (v := .int .i64 12) hB4
     have hC5 := farHeap (p := ⟨w.heap.size + 1, 8, none⟩) hC3 (by show w.heap.size + 1 + 1 ≠ w.heap.size + 1; omega) (.int .i64 12)
     have hb5 := hb3.setCell (p := ⟨w.heap.size + 1, 8, none⟩) (by show w.heap.size ≤ w.heap.size + 1; omega) (.int .i64 12)
     obtain ⟨W5, hW5⟩ : ∃ W5, W3.setCell ⟨w.heap.size + 1, 8, none⟩ (.int .i64 12) = W5 := ⟨_, rfl⟩
     rw [hW5] at hB5 hC5 hb5
     go_upto_region 15 with (fail)
     try rw [hW5]
     clear hW5 cB4 fB4
     have hB6 : W5.heap[w.heap.size + 1]? = some (.cells #[Value.int .i64 0, .int .i64 b.owner, .int .i64 b.x, .int .i64 b.y, .int .i64 (vx1), .int .i64 (-9), .int .i64 (am1), .int .i64 b.life, .int .i64 (12)] 100 (0, 0)) := hB5
     have cB6 := rowCells hB6
     have cC6 := rowCells hC5
     have fC6 := fun j => frozenHeap hC5 j
     go_wp2_with (fail)
     obtain ⟨c, hc⟩ : ∃ c : Bd, c = ⟨0, b.owner, b.x, b.y, vx1, -9, am1, b.life, 12⟩ := ⟨_, rfl⟩
     have hP := putB_heap hC5 rfl c c.x c.y c.vx c.vy
     have hL := load_bd hP rfl
     have hbP := putB_below hb5 (c := w.heap.size + 1 + 1) (by omega) c c.x c.y c.vx c.vy
     subst hc
     unfold putB at hL hbP
     exact bodyPost_ret (v := .tuple #[.agg (bmv (⟨0, b.owner, b.x, b.y, vx1, -9, am1, b.life, 12⟩) b.x b.y (vx1) (-9)), .bool true]) (results_two rfl _ _ _ _ _ rfl rfl hL) rfl ⟨by rw [HS.out, HT.out]; rfl, hbP⟩
    ·have hz1 : decide (0 < m) = true := by simp; omega
     have hz2 : (m == 0) = false := by simp [hz]
     have HT := Lib.hid (show strT b i = false by unfold strT; rw [E8.out, HM.out]; simp [hz])
     have HS := Lib.hid (show strB L b i = ⟨0, b.owner, b.x, b.y, vx1, -9, am1, b.life, m⟩ by unfold strB; rw [HT.out, HV.out, HM.out, HVX.out, HAM.out, HK.out]; rfl)
     clear hz
     have h1 := h.keep hB0
     go_upto_region 10 with (fail)
     have bs_0 : Below wc.heap.size wc wc.drew := belowDrew wc 1
     refine wp_region_held_drew (S := (fun w' => (∀ j, w'.cell? ⟨w.heap.size, j, none⟩ = #[Value.slice a L.length cap][j]?) ∧ (∀ j, w'.cell? ⟨w.heap.size + 1, j, none⟩ = #[Value.int .i64 0, .int .i64 b.owner, .int .i64 b.x, .int .i64 b.y, .int .i64 (vx1), .int .i64 (b.vy), .int .i64 (am1), .int .i64 b.life, .int .i64 (m)][j]?))) (by kernel_rfl) ?_ (fun hHeld => ?_)
     ·exact ⟨rowCells (keepHeap bs_0 hA), rowCells (keepHeap bs_0 hB)⟩
     refine tk 0 36 ?_
     (try simp only [zP, zA, zB, zC])
     refine tk 1 37 ?_
     (try simp only [zP, zA, zB, zC])
     refine tk 2 38 ?_
     (try simp only [zP, zA, zB, zC])
     refine tk 3 39 ?_
     (try simp only [zP, zA, zB, zC])
     refine tw 4 40 3 39 true ?_
     (try simp only [zP, zA, zB, zC])
     refine tw 5 41 3 39 true ?_
     (try simp only [zP, zA, zB, zC])
     refine tw 6 42 3 39 true ?_
     (try simp only [zP, zA, zB, zC])
     refine tw 7 43 3 39 true ?_
     (try simp only [zP, zA, zB, zC])
     refine tw 8 44 3 39 true ?_
     (try simp only [zP, zA, zB, zC])
     refine tw 9 45 3 39 true ?_
     (try simp only [zP, zA, zB, zC])
     refine tw 10 46 3 39 true ?_
     (try simp only [zP, zA, zB, zC])
     refine tw 11 47 3 39 true ?_
     (try simp only [zP, zA, zB, zC])
     refine wpAnyH_ready (rs := [12]) (by kernel_rfl) (by simp) ?_
     refine AllReadyH.cons rfl (fun K hK => ?_) AllReadyH.nil
     go_simp
     refine (sizeOf_spec _ _).mono ?_
     rintro e w_x ⟨rfl, rfl⟩
     rw [sizeI_0]
     (try go_wp2_with (fail))
     refine hK.out _ _ ?_ (fun hHeld => ?_)
     ·exact ⟨rowCells (keepHeap bs_0 hA), rowCells (keepHeap bs_0 hB)⟩
     clear hK K
     (try simp only [zP, zA, zB, zC])
     refine wpAnyH_ready (rs := [13]) (by kernel_rfl) (by simp) ?_
     refine AllReadyH.cons rfl (fun K hK => ?_) AllReadyH.nil
     go_simp
     refine (solid_spec (h1.keep bs_0) hg b.x (b.y + 1) 12 (by omega) (by omega) hx.2 (by omega) hx.1 (by omega)).mono ?_
     rintro e w_1 ⟨rfl, hb_1⟩
     have bs_1 := bs_0.trans (hb_1.mono bs_0.size)
     rw [show blockB L b.x (b.y + 1) ((12 : Nat) : Int) = true from QS.out]
     (try go_wp2_with (fail))
     refine hK.out _ _ ?_ (fun hHeld => ?_)
     ·exact ⟨rowCells (keepHeap bs_1 hA), rowCells (keepHeap bs_1 hB)⟩
     clear hK K
     (try simp only [zP, zA, zB, zC])
     refine tk 14 50 ?_
     (try simp only [zP, zA, zB, zC])
     refine wpAnyH_done (by kernel_rfl) ?_ _
     have hA2 := keepHeap bs_1 hA
     have hB2 := keepHeap bs_1 hB
     have hC2 := keepHeap bs_1 hC
     have hb2 := hB0.trans (bs_1.mono hB0.size)
     have cB2 := rowCells hB2
     have fB2 := fun j => frozenHeap hB2 j
     have hB3 := setHeap (k := 5) (v := .int .i64 (-9)) hB2
     have hC3 := farHeap (p := ⟨w.heap.size + 1, 5, none⟩) hC2 (by show w.heap.size + 1 + 1 ≠ w.heap.size + 1; omega) (.int .i64 (-9))
     have hb3 := hb2.setCell (p := ⟨w.heap.size + 1, 5, none⟩) (by show w.heap.size ≤ w.heap.size + 1; omega) (.int .i64 (-9))
     obtain ⟨W3, hW3⟩ : ∃ W3, (w_1).setCell ⟨w.heap.size + 1, 5, none⟩ (.int .i64 (-9)) = W3 := ⟨_, rfl⟩
     rw [hW3] at hB3 hC3 hb3
     go_upto_region 13 with (fail)
     try rw [hW3]
     clear hW3 cB2 fB2 hA2 hB2 hC2 hb2
     have hB4 : W3.heap[w.heap.size + 1]? = some (.cells #[Value.int .i64 0, .int .i64 b.owner, .int .i64 b.x, .int .i64 b.y, .int .i64 (vx1), .int .i64 (-9), .int .i64 (am1), .int .i64 b.life, .int .i64 (m)] 100 (0, 0)) := hB3
     have cB4 := rowCells hB4
     have fB4 := fun j => frozenHeap hB4 j
     have cC6 := rowCells hC3
     have fC6 := fun j => frozenHeap hC3 j
     go_wp2_with (fail)
     obtain ⟨c, hc⟩ : ∃ c : Bd, c = ⟨0, b.owner, b.x, b.y, vx1, -9, am1, b.life, m⟩ := ⟨_, rfl⟩
     have hP := putB_heap hC3 rfl c c.x c.y c.vx c.vy
     have hL := load_bd hP rfl
     have hbP := putB_below hb3 (c := w.heap.size + 1 + 1) (by omega) c c.x c.y c.vx c.vy
     subst hc
     unfold putB at hL hbP
     exact bodyPost_ret (v := .tuple #[.agg (bmv (⟨0, b.owner, b.x, b.y, vx1, -9, am1, b.life, m⟩) b.x b.y (vx1) (-9)), .bool false]) (results_two rfl _ _ _ _ _ rfl rfl hL) rfl ⟨by rw [HS.out, HT.out]; rfl, hbP⟩
  | false =>
   have QS := Lib.hid qs
   clear qs
   have HV := Lib.hid (show vyI L b i = min (b.vy + 1) 8 from str_fall QS.out)
   rcases hf with e8 | e8
   ·have E8 := Lib.hid e8
    have HT := Lib.hid (show strT b i = false by unfold strT; rw [E8.out, HM.out]; rfl)
    have HS := Lib.hid (show strB L b i = ⟨0, b.owner, b.x, b.y, vx1, min (b.vy + 1) 8, am1, b.life, m⟩ by unfold strB; rw [HT.out, HV.out, HM.out, HVX.out, HAM.out, HK.out]; rfl)
    have h1 := h.keep hB0
    go_upto_region 10 with (fail)
    have bs_0 : Below wc.heap.size wc wc.drew := belowDrew wc 1
    refine wp_region_held_drew (S := (fun w' => (∀ j, w'.cell? ⟨w.heap.size, j, none⟩ = #[Value.slice a L.length cap][j]?) ∧ (∀ j, w'.cell? ⟨w.heap.size + 1, j, none⟩ = #[Value.int .i64 0, .int .i64 b.owner, .int .i64 b.x, .int .i64 b.y, .int .i64 (vx1), .int .i64 (b.vy), .int .i64 (am1), .int .i64 b.life, .int .i64 (m)][j]?))) (by kernel_rfl) ?_ (fun hHeld => ?_)
    ·exact ⟨rowCells (keepHeap bs_0 hA), rowCells (keepHeap bs_0 hB)⟩
    refine tk 0 36 ?_
    (try simp only [zP, zA, zB, zC])
    refine tk 1 37 ?_
    (try simp only [zP, zA, zB, zC])
    refine tk 2 38 ?_
    (try simp only [zP, zA, zB, zC])
    refine tk 3 39 ?_
    (try simp only [zP, zA, zB, zC])
    refine tw 4 40 3 39 true ?_
    (try simp only [zP, zA, zB, zC])
    refine tw 5 41 3 39 true ?_
    (try simp only [zP, zA, zB, zC])
    refine tw 6 42 3 39 true ?_
    (try simp only [zP, zA, zB, zC])
    refine tw 7 43 3 39 true ?_
    (try simp only [zP, zA, zB, zC])
    refine tw 8 44 3 39 true ?_
    (try simp only [zP, zA, zB, zC])
    refine tw 9 45 3 39 true ?_
    (try simp only [zP, zA, zB, zC])
    refine tw 10 46 3 39 true ?_
    (try simp only [zP, zA, zB, zC])
    refine tw 11 47 3 39 true ?_
    (try simp only [zP, zA, zB, zC])
    refine wpAnyH_ready (rs := [12]) (by kernel_rfl) (by simp) ?_
    refine AllReadyH.cons rfl (fun K hK => ?_) AllReadyH.nil
    go_simp
    refine (sizeOf_spec _ _).mono ?_
    rintro e w_x ⟨rfl, rfl⟩
    rw [sizeI_0]
    (try go_wp2_with (fail))
    refine hK.out _ _ ?_ (fun hHeld => ?_)
    ·exact ⟨rowCells (keepHeap bs_0 hA), rowCells (keepHeap bs_0 hB)⟩
    clear hK K
    (try simp only [zP, zA, zB, zC])
    refine wpAnyH_ready (rs := [13]) (by kernel_rfl) (by simp) ?_
    refine AllReadyH.cons rfl (fun K hK => ?_) AllReadyH.nil
    go_simp
    refine (solid_spec (h1.keep bs_0) hg b.x (b.y + 1) 12 (by omega) (by omega) hx.2 (by omega) hx.1 (by omega)).mono ?_
    rintro e w_1 ⟨rfl, hb_1⟩
    have bs_1 := bs_0.trans (hb_1.mono bs_0.size)
    rw [show blockB L b.x (b.y + 1) ((12 : Nat) : Int) = false from QS.out]
    (try go_wp2_with (fail))
    refine hK.out _ _ ?_ (fun hHeld => ?_)
    ·exact ⟨rowCells (keepHeap bs_1 hA), rowCells (keepHeap bs_1 hB)⟩
    clear hK K
    (try simp only [zP, zA, zB, zC])
    refine tk 14 50 ?_
    (try simp only [zP, zA, zB, zC])
    refine wpAnyH_done (by kernel_rfl) ?_ _
    have hA2 := keepHeap bs_1 hA
    have hB2 := keepHeap bs_1 hB
    have hC2 := keepHeap bs_1 hC
    have hb2 := hB0.trans (bs_1.mono hB0.size)
    have cB2 := rowCells hB2
    have fB2 := fun j => frozenHeap hB2 j
    have hB3 := setHeap (k := 5) (v := .int .i64 (min (b.vy + 1) 8)) hB2
    have hC3 := farHeap (p := ⟨w.heap.size + 1, 5, none⟩) hC2 (by show w.heap.size + 1 + 1 ≠ w.heap.size + 1; omega) (.int .i64 (min (b.vy + 1) 8))
    have hb3 := hb2.setCell (p := ⟨w.heap.size + 1, 5, none⟩) (by show w.heap.size ≤ w.heap.size + 1; omega) (.int .i64 (min (b.vy + 1) 8))
    obtain ⟨W3, hW3⟩ : ∃ W3, (w_1).setCell ⟨w.heap.size + 1, 5, none⟩ (.int .i64 (min (b.vy + 1) 8)) = W3 := ⟨_, rfl⟩
    rw [hW3] at hB3 hC3 hb3
    go_upto_region 13 with (fail)
    try rw [hW3]
    clear hW3 cB2 fB2 hA2 hB2 hC2 hb2
    have hB4 : W3.heap[w.heap.size + 1]? = some (.cells #[Value.int .i64 0, .int .i64 b.owner, .int .i64 b.x, .int .i64 b.y, .int .i64 (vx1), .int .i64 (min (b.vy + 1) 8), .int .i64 (am1), .int .i64 b.life, .int .i64 (m)] 100 (0, 0)) := hB3
    have cB4 := rowCells hB4
    have fB4 := fun j => frozenHeap hB4 j
    have cC6 := rowCells hC3
    have fC6 := fun j => frozenHeap hC3 j
    go_wp2_with (fail)
    obtain ⟨c, hc⟩ : ∃ c : Bd, c = ⟨0, b.owner, b.x, b.y, vx1, min (b.vy + 1) 8, am1, b.life, m⟩ := ⟨_, rfl⟩
    have hP := putB_heap hC3 rfl c c.x c.y c.vx c.vy
    have hL := load_bd hP rfl
    have hbP := putB_below hb3 (c := w.heap.size + 1 + 1) (by omega) c c.x c.y c.vx c.vy
    subst hc
    unfold putB at hL hbP
    exact bodyPost_ret (v := .tuple #[.agg (bmv (⟨0, b.owner, b.x, b.y, vx1, min (b.vy + 1) 8, am1, b.life, m⟩) b.x b.y (vx1) (min (b.vy + 1) 8)), .bool false]) (results_two rfl _ _ _ _ _ rfl rfl hL) rfl ⟨by rw [HS.out, HT.out]; rfl, hbP⟩
   ·have E8 := Lib.hid e8
    by_cases hz : m = 0
    ·have hz1 : decide (0 < m) = false := by simp; omega
     have hz2 : (m == 0) = true := by simp [hz]
     have HT := Lib.hid (show strT b i = true by unfold strT; rw [E8.out, HM.out]; simp [hz])
     have HS := Lib.hid (show strB L b i = ⟨0, b.owner, b.x, b.y, vx1, min (b.vy + 1) 8, am1, b.life, 12⟩ by unfold strB; rw [HT.out, HV.out, HM.out, HVX.out, HAM.out, HK.out]; rfl)
     clear hz
     have h1 := h.keep hB0
     go_upto_region 10 with (fail)
     have bs_0 : Below wc.heap.size wc wc.drew := belowDrew wc 1
     refine wp_region_held_drew (S := (fun w' => (∀ j, w'.cell? ⟨w.heap.size, j, none⟩ = #[Value.slice a L.length cap][j]?) ∧ (∀ j, w'.cell? ⟨w.heap.size + 1, j, none⟩ = #[Value.int .i64 0, .int .i64 b.owner, .int .i64 b.x, .int .i64 b.y, .int .i64 (vx1), .int .i64 (b.vy), .int .i64 (am1), .int .i64 b.life, .int .i64 (m)][j]?))) (by kernel_rfl) ?_ (fun hHeld => ?_)
     ·exact ⟨rowCells (keepHeap bs_0 hA), rowCells (keepHeap bs_0 hB)⟩
     refine tk 0 36 ?_
     (try simp only [zP, zA, zB, zC])
     refine tk 1 37 ?_
     (try simp only [zP, zA, zB, zC])
     refine tk 2 38 ?_
     (try simp only [zP, zA, zB, zC])
     refine tk 3 39 ?_
     (try simp only [zP, zA, zB, zC])
     refine tw 4 40 3 39 true ?_
     (try simp only [zP, zA, zB, zC])
     refine tw 5 41 3 39 true ?_
     (try simp only [zP, zA, zB, zC])
     refine tw 6 42 3 39 true ?_
     (try simp only [zP, zA, zB, zC])
     refine tw 7 43 3 39 true ?_
     (try simp only [zP, zA, zB, zC])
     refine tw 8 44 3 39 true ?_
     (try simp only [zP, zA, zB, zC])
     refine tw 9 45 3 39 true ?_
     (try simp only [zP, zA, zB, zC])
     refine tw 10 46 3 39 true ?_
     (try simp only [zP, zA, zB, zC])
     refine tw 11 47 3 39 true ?_
     (try simp only [zP, zA, zB, zC])
     refine wpAnyH_ready (rs := [12]) (by kernel_rfl) (by simp) ?_
     refine AllReadyH.cons rfl (fun K hK => ?_) AllReadyH.nil
     go_simp
     refine (sizeOf_spec _ _).mono ?_
     rintro e w_x ⟨rfl, rfl⟩
     rw [sizeI_0]
     (try go_wp2_with (fail))
     refine hK.out _ _ ?_ (fun hHeld => ?_)
     ·exact ⟨rowCells (keepHeap bs_0 hA), rowCells (keepHeap bs_0 hB)⟩
     clear hK K
     (try simp only [zP, zA, zB, zC])
     refine wpAnyH_ready (rs := [13]) (by kernel_rfl) (by simp) ?_
     refine AllReadyH.cons rfl (fun K hK => ?_) AllReadyH.nil
     go_simp
     refine (solid_spec (h1.keep bs_0) hg b.x (b.y + 1) 12 (by omega) (by omega) hx.2 (by omega) hx.1 (by omega)).mono ?_
     rintro e w_1 ⟨rfl, hb_1⟩
     have bs_1 := bs_0.trans (hb_1.mono bs_0.size)
     rw [show blockB L b.x (b.y + 1) ((12 : Nat) : Int) = false from QS.out]
     (try go_wp2_with (fail))
     refine hK.out _ _ ?_ (fun hHeld => ?_)
     ·exact ⟨rowCells (keepHeap bs_1 hA), rowCells (keepHeap bs_1 hB)⟩
     clear hK K
     (try simp only [zP, zA, zB, zC])
     refine tk 14 50 ?_
     (try simp only [zP, zA, zB, zC])
     refine wpAnyH_done (by kernel_rfl) ?_ _
     have hA2 := keepHeap bs_1 hA
     have hB2 := keepHeap bs_1 hB
     have hC2 := keepHeap bs_1 hC
     have hb2 := hB0.trans (bs_1.mono hB0.size)
     have cB2 := rowCells hB2
     have fB2 := fun j => frozenHeap hB2 j
     have hB3 := setHeap (k := 5) (v := .int .i64 (min (b.vy + 1) 8)) hB2
     have hC3 := farHeap (p := ⟨w.heap.size + 1, 5, none⟩) hC2 (by show w.heap.size + 1 + 1 ≠ w.heap.size + 1; omega) (.int .i64 (min (b.vy + 1) 8))
     have hb3 := hb2.setCell (p := ⟨w.heap.size + 1, 5, none⟩) (by show w.heap.size ≤ w.heap.size + 1; omega) (.int .i64 (min (b.vy + 1) 8))
     obtain ⟨W3, hW3⟩ : ∃ W3, (w_1).setCell ⟨w.heap.size + 1, 5, none⟩ (.int .i64 (min (b.vy + 1) 8)) = W3 := ⟨_, rfl⟩
     rw [hW3] at hB3 hC3 hb3
     go_upto_region 13 with (fail)
     try rw [hW3]
     clear hW3 cB2 fB2 hA2 hB2 hC2 hb2
     have hB4 : W3.heap[w.heap.size + 1]? = some (.cells #[Value.int .i64 0, .int .i64 b.owner, .int .i64 b.x, .int .i64 b.y, .int .i64 (vx1), .int .i64 (min (b.vy + 1) 8), .int .i64 (am1), .int .i64 b.life, .int .i64 (m)] 100 (0, 0)) := hB3
     have cB4 := rowCells hB4
     have fB4 := fun j => frozenHeap hB4 j
     have hB5 := setHeap (k := 8) (v := .int .i64 12) hB4
     have hC5 := farHeap (p := ⟨w.heap.size + 1, 8, none⟩) hC3 (by show w.heap.size + 1 + 1 ≠ w.heap.size + 1; omega) (.int .i64 12)
     have hb5 := hb3.setCell (p := ⟨w.heap.size + 1, 8, none⟩) (by show w.heap.size ≤ w.heap.size + 1; omega) (.int .i64 12)
     obtain ⟨W5, hW5⟩ : ∃ W5, W3.setCell ⟨w.heap.size + 1, 8, none⟩ (.int .i64 12) = W5 := ⟨_, rfl⟩
     rw [hW5] at hB5 hC5 hb5
     go_upto_region 15 with (fail)
     try rw [hW5]
     clear hW5 cB4 fB4
     have hB6 : W5.heap[w.heap.size + 1]? = some (.cells #[Value.int .i64 0, .int .i64 b.owner, .int .i64 b.x, .int .i64 b.y, .int .i64 (vx1), .int .i64 (min (b.vy + 1) 8), .int .i64 (am1), .int .i64 b.life, .int .i64 (12)] 100 (0, 0)) := hB5
     have cB6 := rowCells hB6
     have cC6 := rowCells hC5
     have fC6 := fun j => frozenHeap hC5 j
     go_wp2_with (fail)
     obtain ⟨c, hc⟩ : ∃ c : Bd, c = ⟨0, b.owner, b.x, b.y, vx1, min (b.vy + 1) 8, am1, b.life, 12⟩ := ⟨_, rfl⟩
     have hP := putB_heap hC5 rfl c c.x c.y c.vx c.vy
     have hL := load_bd hP rfl
     have hbP := putB_below hb5 (c := w.heap.size + 1 + 1) (by omega) c c.x c.y c.vx c.vy
     subst hc
     unfold putB at hL hbP
     exact bodyPost_ret (v := .tuple #[.agg (bmv (⟨0, b.owner, b.x, b.y, vx1, min (b.vy + 1) 8, am1, b.life, 12⟩) b.x b.y (vx1) (min (b.vy + 1) 8)), .bool true]) (results_two rfl _ _ _ _ _ rfl rfl hL) rfl ⟨by rw [HS.out, HT.out]; rfl, hbP⟩
    ·have hz1 : decide (0 < m) = true := by simp; omega
     have hz2 : (m == 0) = false := by simp [hz]
     have HT := Lib.hid (show strT b i = false by unfold strT; rw [E8.out, HM.out]; simp [hz])
     have HS := Lib.hid (show strB L b i = ⟨0, b.owner, b.x, b.y, vx1, min (b.vy + 1) 8, am1, b.life, m⟩ by unfold strB; rw [HT.out, HV.out, HM.out, HVX.out, HAM.out, HK.out]; rfl)
     clear hz
     have h1 := h.keep hB0
     go_upto_region 10 with (fail)
     have bs_0 : Below wc.heap.size wc wc.drew := belowDrew wc 1
     refine wp_region_held_drew (S := (fun w' => (∀ j, w'.cell? ⟨w.heap.size, j, none⟩ = #[Value.slice a L.length cap][j]?) ∧ (∀ j, w'.cell? ⟨w.heap.size + 1, j, none⟩ = #[Value.int .i64 0, .int .i64 b.owner, .int .i64 b.x, .int .i64 b.y, .int .i64 (vx1), .int .i64 (b.vy), .int .i64 (am1), .int .i64 b.life, .int .i64 (m)][j]?))) (by kernel_rfl) ?_ (fun hHeld => ?_)
     ·exact ⟨rowCells (keepHeap bs_0 hA), rowCells (keepHeap bs_0 hB)⟩
     refine tk 0 36 ?_
     (try simp only [zP, zA, zB, zC])
     refine tk 1 37 ?_
     (try simp only [zP, zA, zB, zC])
     refine tk 2 38 ?_
     (try simp only [zP, zA, zB, zC])
     refine tk 3 39 ?_
     (try simp only [zP, zA, zB, zC])
     refine tw 4 40 3 39 true ?_
     (try simp only [zP, zA, zB, zC])
     refine tw 5 41 3 39 true ?_
     (try simp only [zP, zA, zB, zC])
     refine tw 6 42 3 39 true ?_
     (try simp only [zP, zA, zB, zC])
     refine tw 7 43 3 39 true ?_
     (try simp only [zP, zA, zB, zC])
     refine tw 8 44 3 39 true ?_
     (try simp only [zP, zA, zB, zC])
     refine tw 9 45 3 39 true ?_
     (try simp only [zP, zA, zB, zC])
     refine tw 10 46 3 39 true ?_
     (try simp only [zP, zA, zB, zC])
     refine tw 11 47 3 39 true ?_
     (try simp only [zP, zA, zB, zC])
     refine wpAnyH_ready (rs := [12]) (by kernel_rfl) (by simp) ?_
     refine AllReadyH.cons rfl (fun K hK => ?_) AllReadyH.nil
     go_simp
     refine (sizeOf_spec _ _).mono ?_
     rintro e w_x ⟨rfl, rfl⟩
     rw [sizeI_0]
     (try go_wp2_with (fail))
     refine hK.out _ _ ?_ (fun hHeld => ?_)
     ·exact ⟨rowCells (keepHeap bs_0 hA), rowCells (keepHeap bs_0 hB)⟩
     clear hK K
     (try simp only [zP, zA, zB, zC])
     refine wpAnyH_ready (rs := [13]) (by kernel_rfl) (by simp) ?_
     refine AllReadyH.cons rfl (fun K hK => ?_) AllReadyH.nil
     go_simp
     refine (solid_spec (h1.keep bs_0) hg b.x (b.y + 1) 12 (by omega) (by omega) hx.2 (by omega) hx.1 (by omega)).mono ?_
     rintro e w_1 ⟨rfl, hb_1⟩
     have bs_1 := bs_0.trans (hb_1.mono bs_0.size)
     rw [show blockB L b.x (b.y + 1) ((12 : Nat) : Int) = false from QS.out]
     (try go_wp2_with (fail))
     refine hK.out _ _ ?_ (fun hHeld => ?_)
     ·exact ⟨rowCells (keepHeap bs_1 hA), rowCells (keepHeap bs_1 hB)⟩
     clear hK K
     (try simp only [zP, zA, zB, zC])
     refine tk 14 50 ?_
     (try simp only [zP, zA, zB, zC])
     refine wpAnyH_done (by kernel_rfl) ?_ _
     have hA2 := keepHeap bs_1 hA
     have hB2 := keepHeap bs_1 hB
     have hC2 := keepHeap bs_1 hC
     have hb2 := hB0.trans (bs_1.mono hB0.size)
     have cB2 := rowCells hB2
     have fB2 := fun j => frozenHeap hB2 j
     have hB3 := setHeap (k := 5) (v := .int .i64 (min (b.vy + 1) 8)) hB2
     have hC3 := farHeap (p := ⟨w.heap.size + 1, 5, none⟩) hC2 (by show w.heap.size + 1 + 1 ≠ w.heap.size + 1; omega) (.int .i64 (min (b.vy + 1) 8))
     have hb3 := hb2.setCell (p := ⟨w.heap.size + 1, 5, none⟩) (by show w.heap.size ≤ w.heap.size + 1; omega) (.int .i64 (min (b.vy + 1) 8))
     obtain ⟨W3, hW3⟩ : ∃ W3, (w_1).setCell ⟨w.heap.size + 1, 5, none⟩ (.int .i64 (min (b.vy + 1) 8)) = W3 := ⟨_, rfl⟩
     rw [hW3] at hB3 hC3 hb3
     go_upto_region 13 with (fail)
     try rw [hW3]
     clear hW3 cB2 fB2 hA2 hB2 hC2 hb2
     have hB4 : W3.heap[w.heap.size + 1]? = some (.cells #[Value.int .i64 0, .int .i64 b.owner, .int .i64 b.x, .int .i64 b.y, .int .i64 (vx1), .int .i64 (min (b.vy + 1) 8), .int .i64 (am1), .int .i64 b.life, .int .i64 (m)] 100 (0, 0)) := hB3
     have cB4 := rowCells hB4
     have fB4 := fun j => frozenHeap hB4 j
     have cC6 := rowCells hC3
     have fC6 := fun j => frozenHeap hC3 j
     go_wp2_with (fail)
     obtain ⟨c, hc⟩ : ∃ c : Bd, c = ⟨0, b.owner, b.x, b.y, vx1, min (b.vy + 1) 8, am1, b.life, m⟩ := ⟨_, rfl⟩
     have hP := putB_heap hC3 rfl c c.x c.y c.vx c.vy
     have hL := load_bd hP rfl
     have hbP := putB_below hb3 (c := w.heap.size + 1 + 1) (by omega) c c.x c.y c.vx c.vy
     subst hc
     unfold putB at hL hbP
     exact bodyPost_ret (v := .tuple #[.agg (bmv (⟨0, b.owner, b.x, b.y, vx1, min (b.vy + 1) 8, am1, b.life, m⟩) b.x b.y (vx1) (min (b.vy + 1) 8)), .bool false]) (results_two rfl _ _ _ _ _ rfl rfl hL) rfl ⟨by rw [HS.out, HT.out]; rfl, hbP⟩
end Go.Proofs.YtnlonkkbjkfkmaaGreatDoor
