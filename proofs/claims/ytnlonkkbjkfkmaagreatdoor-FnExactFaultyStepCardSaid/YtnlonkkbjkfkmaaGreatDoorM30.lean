/-
  Texts of this proof: TkW2.
-/
import Derived.Test.YtnlonkkbjkfkmaaGreatDoorM29
import Derived.Test.YtnlonkkbjkfkmaaGreatDoorM21
import Derived.Test.YtnlonkkbjkfkmaaGreatDoorM11
namespace Go.Proofs.YtnlonkkbjkfkmaaGreatDoor
open Go.RowKit
set_option linter.all false
theorem putB_heapT {w : World} {c : Nat} {cs : Array Value} {T : TypeId} (h : w.heap[c]? = some (.cells cs T (0, 0))) (hn : cs.size = 9) (b : Bd) (x y vx vy : Int) : (putB w c b x y vx vy).heap[c]? = some (.cells (bmv b x y vx vy) T (0, 0)) := by
 obtain ⟨l⟩ := cs
 match l, hn with
 | [a0, a1, a2, a3, a4, a5, a6, a7, a8], _ =>
  have h0 := setH (k := 0) (v := .int .i64 b.kind) h
  have h1 := setH (k := 1) (v := .int .i64 b.owner) h0
  have h2 := setH (k := 2) (v := .int .i64 x) h1
  have h3 := setH (k := 3) (v := .int .i64 y) h2
  have h4 := setH (k := 4) (v := .int .i64 vx) h3
  have h5 := setH (k := 5) (v := .int .i64 vy) h4
  have h6 := setH (k := 6) (v := .int .i64 b.aim) h5
  have h7 := setH (k := 7) (v := .int .i64 b.life) h6
  have h8 := setH (k := 8) (v := .int .i64 b.timer) h7
  exact h8
def RetMt (w : World) (L : Rowz) (b : Bd) (e : Ending) (w' : World) : Prop := ∃ (c : Bd) (t : Bool), e = .returned (.tuple #[.agg #[.int .i64 c.kind, .int .i64 c.owner, .int .i64 c.x, .int .i64 c.y, .int .i64 c.vx, .int .i64 c.vy, .int .i64 c.aim, .int .i64 c.life, .int .i64 c.timer], .bool t]) ∧ mvB L b = (if t = true then some c else none) ∧ Below w.heap.size w w'
set_option maxRecDepth 100000 in
set_option maxHeartbeats 8000000 in
theorem moveInTick_impl {w : World} {v : Value} {L : Rowz} (h : RdS w v L) (hg : Good L) (n : Int) (b : Bd) (hf : fitB L n b = true) :
  Calls Tryz.prog 206 #[.agg #[v], .agg #[.int .i64 b.kind, .int .i64 b.owner, .int .i64 b.x, .int .i64 b.y, .int .i64 b.vx, .int .i64 b.vy, .int .i64 b.aim, .int .i64 b.life, .int .i64 b.timer]] w (RetMt w L b) := by
 obtain ⟨p0, p1, p2, p3, p4, p5⟩ := fit_parts hf
 obtain ⟨S, HS⟩ : ∃ S : Nat, sizeI b.kind = (S : Int) := Int.eq_ofNat_of_zero_le (sizeI_range _).1
 have hS := size_kind p0
 rw [HS] at p2 hS
 have hmv := fun {W : World} {u : Value} (h1 : RdS W u L) => moveIn_impl h1 hg b S HS (by omega) (by omega) p2 ((inR_iff _ _ _).1 p3) ((inR_iff _ _ _).1 p4)
 obtain ⟨a, cap, rfl, -⟩ := id h
 obtain ⟨W0, hW, hA, hB, hR, hB0, hS0⟩ := rows3 w #[.slice a L.length cap] #[.int .i64 b.kind, .int .i64 b.owner, .int .i64 b.x, .int .i64 b.y, .int .i64 b.vx, .int .i64 b.vy, .int .i64 b.aim, .int .i64 b.life, .int .i64 b.timer] z9 26 100 100
 unfold z9 at hW hR
 have cA := rowCells hA
 have cB := rowCells hB
 have ta1 := ta_hit1
 have ta0 := ta_hit0
 have ta2 := ta_miss10
 have ta3 := ta_miss20
 have ta4 := ta_miss21
 clear HS hS p2 p3 p4
 obtain ⟨MB, hMB⟩ : ∃ c, c = moveB L b := ⟨_, rfl⟩
 obtain ⟨MT, hMT⟩ : ∃ c, c = moveT L b := ⟨_, rfl⟩
 unfold bdV at hmv
 rw [← hMB, ← hMT] at hmv
 rcases kind3 p0 with hk | hk | hk
 ·have hfo := figureOf_0 b hk W0
  by_cases hlf : 0 < b.life
  ·have HE : Hid (mvB L b = some MB) := Lib.hid (by unfold mvB; rw [if_pos hk, if_pos hlf, hMB])
   have z1 : decide (0 < b.life) = true := by simpa using hlf
   clear hk hlf hMB hMT p5
   go_enter Tryz.func206, Tryz.ntmps206
   go_upto_region 6 with (go_at_call 211; refine hfo.mono ?_; rintro e w1 ⟨rfl, hb1⟩; have cA1 := rowCells (keepHeap (hb1.trans ((below1 w1 (.cells #[.int .i64 b.kind, .int .i64 b.owner, .int .i64 b.x, .int .i64 b.y, .int .i64 b.vx, .int .i64 b.vy, .int .i64 b.aim, .int .i64 b.life, .int .i64 b.timer] 239)).mono hb1.size)) hA))
   have hb01 := hB0.trans (hb1.mono hB0.size)
   have hs1 := hb1.size
   have hA2 := keepHeap (below1 w1 (.cells #[.int .i64 b.kind, .int .i64 b.owner, .int .i64 b.x, .int .i64 b.y, .int .i64 b.vx, .int .i64 b.vy, .int .i64 b.aim, .int .i64 b.life, .int .i64 b.timer] 239)) (keepHeap hb1 hA)
   have hR2 := keepHeap (below1 w1 (.cells #[.int .i64 b.kind, .int .i64 b.owner, .int .i64 b.x, .int .i64 b.y, .int .i64 b.vx, .int .i64 b.vy, .int .i64 b.aim, .int .i64 b.life, .int .i64 b.timer] 239)) (keepHeap hb1 hR)
   obtain ⟨W2, hW2, hq, hb2⟩ : ∃ W2, w1.alloc (.cells #[.int .i64 b.kind, .int .i64 b.owner, .int .i64 b.x, .int .i64 b.y, .int .i64 b.vx, .int .i64 b.vy, .int .i64 b.aim, .int .i64 b.life, .int .i64 b.timer] 239) = W2 ∧ W2.heap[w1.heap.size]? = some (.cells #[.int .i64 b.kind, .int .i64 b.owner, .int .i64 b.x, .int .i64 b.y, .int .i64 b.vx, .int .i64 b.vy, .int .i64 b.aim, .int .i64 b.life, .int .i64 b.timer] 239 (0, 0)) ∧ Below w1.heap.size w1 W2 := ⟨_, rfl, heap_alloc_new w1 _, below1 w1 _⟩
   rw [hW2] at hA2 hR2 cA1 ⊢
   clear hW2 hW cA cB
   have hb02 := hb01.trans (hb2.mono hb01.size)
   have cq := rowCells hq
   have hs2 := hb2.size
   obtain ⟨q, hqq⟩ : ∃ q, q = w1.heap.size := ⟨_, rfl⟩
   have hq1 : W0.heap.size ≤ q := by omega
   rw [← hqq] at hq cq hs2 ⊢
   clear hqq
   go_upto_region 7 with (go_at_call 246; refine (hmv (h.keep hb02)).mono ?_; rintro e w3 ⟨rfl, hb3⟩; have cq3 := rowCells (keepHeap hb3 hq); have fq3 := fun j => frozenHeap (keepHeap hb3 hq) j)
   have hqR : w.heap.size + 1 + 1 ≠ q := by omega
   have hs3 := hb3.size
   have hq4 := putB_heapT (keepHeap hb3 hq) rfl MB MB.x MB.y MB.vx MB.vy
   have hR4 := putB_far (keepHeap hb3 hR2) hqR MB MB.x MB.y MB.vx MB.vy
   have hb04 := putB_below (hb02.trans (hb3.mono hb02.size)) (c := q) (by omega) MB MB.x MB.y MB.vx MB.vy
   obtain ⟨W4, hW4⟩ : ∃ W, putB w3 q MB MB.x MB.y MB.vx MB.vy = W := ⟨_, rfl⟩
   rw [hW4] at hq4 hR4 hb04
   unfold putB at hW4
   rw [hW4]
   clear hW4 cq3 fq3 cq cA1
   have cq4 := rowCells hq4
   unfold bmv at cq4
   have cR4 := rowCells hR4
   have fR4 := fun j => frozenHeap hR4 j
   go_wp2_with (fail)
   have hP := putB_heap hR4 rfl MB MB.x MB.y MB.vx MB.vy
   have hL := load_bd hP rfl
   have hbP := putB_below hb04 (c := w.heap.size + 1 + 1) (by omega) MB MB.x MB.y MB.vx MB.vy
   unfold putB at hL hbP
   refine bodyPost_ret (v := .tuple #[.agg #[.int .i64 MB.kind, .int .i64 MB.owner, .int .i64 MB.x, .int .i64 MB.y, .int .i64 MB.vx, .int .i64 MB.vy, .int .i64 MB.aim, .int .i64 MB.life, .int .i64 MB.timer], .bool true]) (results_two rfl _ _ _ _ _ rfl rfl hL) rfl ⟨MB, true, rfl, by rw [HE.out]; rfl, hbP⟩
  ·have HE : Hid (mvB L b = some b) := Lib.hid (by unfold mvB; rw [if_pos hk, if_neg hlf])
   have z1 : decide (0 < b.life) = false := by simpa using hlf
   clear hk hlf hMB hMT p5
   go_enter Tryz.func206, Tryz.ntmps206
   go_upto_region 7 with (go_at_call 211; refine hfo.mono ?_; rintro e w1 ⟨rfl, hb1⟩)
   have hb01 := hB0.trans (hb1.mono hB0.size)
   have hs1 := hb1.size
   have hR2 := keepHeap (below1 w1 (.cells #[.int .i64 b.kind, .int .i64 b.owner, .int .i64 b.x, .int .i64 b.y, .int .i64 b.vx, .int .i64 b.vy, .int .i64 b.aim, .int .i64 b.life, .int .i64 b.timer] 239)) (keepHeap hb1 hR)
   obtain ⟨W2, hW2, hq, hb2⟩ : ∃ W2, w1.alloc (.cells #[.int .i64 b.kind, .int .i64 b.owner, .int .i64 b.x, .int .i64 b.y, .int .i64 b.vx, .int .i64 b.vy, .int .i64 b.aim, .int .i64 b.life, .int .i64 b.timer] 239) = W2 ∧ W2.heap[w1.heap.size]? = some (.cells #[.int .i64 b.kind, .int .i64 b.owner, .int .i64 b.x, .int .i64 b.y, .int .i64 b.vx, .int .i64 b.vy, .int .i64 b.aim, .int .i64 b.life, .int .i64 b.timer] 239 (0, 0)) ∧ Below w1.heap.size w1 W2 := ⟨_, rfl, heap_alloc_new w1 _, below1 w1 _⟩
   rw [hW2] at hR2 ⊢
   clear hW2 hW cA cB
   have hb02 := hb01.trans (hb2.mono hb01.size)
   have cq := rowCells hq
   have cR := rowCells hR2
   have fR := fun j => frozenHeap hR2 j
   go_wp2_with (fail)
   have hP := putB_heap hR2 rfl b b.x b.y b.vx b.vy
   have hL := load_bd hP rfl
   have hbP := putB_below hb02 (c := w.heap.size + 1 + 1) (by omega) b b.x b.y b.vx b.vy
   unfold putB at hL hbP
   refine bodyPost_ret (v := .tuple #[.agg #[.int .i64 b.kind, .int .i64 b.owner, .int .i64 b.x, .int .i64 b.y, .int .i64 b.vx, .int .i64 b.vy, .int .i64 b.aim, .int .i64 b.life, .int .i64 b.timer], .bool true]) (results_two rfl _ _ _ _ _ rfl rfl hL) rfl ⟨b, true, rfl, by rw [HE.out]; rfl, hbP⟩
 ·have hfo := figureOf_1 b hk W0
  obtain ⟨-, -, ht1, ht2⟩ := kind1_facts hk p5
  have HE : Hid (mvB L b = if MT || decide (b.timer - 1 ≤ 0) then none else some ⟨b.kind, b.owner, MB.x, MB.y, MB.vx, MB.vy, b.aim, b.life, b.timer - 1⟩) := Lib.hid (by unfold mvB; rw [if_neg (by omega), if_pos hk, hMB, hMT])
  have HM : Hid (MB.kind = b.kind ∧ MB.owner = b.owner ∧ MB.aim = b.aim ∧ MB.life = b.life ∧ MB.timer = b.timer) := Lib.hid (by rw [hMB]; exact ⟨rfl, rfl, rfl, rfl, rfl⟩)
  have ht3 : 1 ≤ MB.timer ∧ MB.timer ≤ 25 := by rw [HM.out.2.2.2.2]; exact ⟨ht1, ht2⟩
  obtain ⟨ht4, ht5⟩ := ht3
  clear hk hMB hMT p5
  go_enter Tryz.func206, Tryz.ntmps206
  go_upto_region 10 with (go_at_call 211; refine hfo.mono ?_; rintro e w1 ⟨rfl, hb1⟩)
  have hb01 := hB0.trans (hb1.mono hB0.size)
  have hs1 := hb1.size
  have hA2 := keepHeap (below1 w1 (.cells #[.int .i64 b.kind, .int .i64 b.owner, .int .i64 b.x, .int .i64 b.y, .int .i64 b.vx, .int .i64 b.vy, .int .i64 b.aim, .int .i64 b.life, .int .i64 b.timer] 240)) (keepHeap hb1 hA)
  have hR2 := keepHeap (below1 w1 (.cells #[.int .i64 b.kind, .int .i64 b.owner, .int .i64 b.x, .int .i64 b.y, .int .i64 b.vx, .int .i64 b.vy, .int .i64 b.aim, .int .i64 b.life, .int .i64 b.timer] 240)) (keepHeap hb1 hR)
  obtain ⟨W2, hW2, hq, hb2⟩ : ∃ W2, w1.alloc (.cells #[.int .i64 b.kind, .int .i64 b.owner, .int .i64 b.x, .int .i64 b.y, .int .i64 b.vx, .int .i64 b.vy, .int .i64 b.aim, .int .i64 b.life, .int .i64 b.timer] 240) = W2 ∧ W2.heap[w1.heap.size]? = some (.cells #[.int .i64 b.kind, .int .i64 b.owner, .int .i64 b.x, .int .i64 b.y, .int .i64 b.vx, .int .i64 b.vy, .int .i64 b.aim, .int .i64 b.life, .int .i64 b.timer] 240 (0, 0)) ∧ Below w1.heap.size w1 W2 := ⟨_, rfl, heap_alloc_new w1 _, below1 w1 _⟩
  rw [hW2] at hA2 hR2 ⊢
  clear hW2 hW cA cB
  have hb02 := hb01.trans (hb2.mono hb01.size)
  have cq := rowCells hq
  have cA2 := rowCells hA2
  have hs2 := hb2.size
  go_upto_region 11 with (go_at_call 246; refine (hmv (h.keep hb02)).mono ?_; rintro e w3 ⟨rfl, hb3⟩)
  have hs3 := hb3.size
  have hR4 := keepHeap (below1 w3 (.cells #[.int .i64 MB.kind, .int .i64 MB.owner, .int .i64 MB.x, .int .i64 MB.y, .int .i64 MB.vx, .int .i64 MB.vy, .int .i64 MB.aim, .int .i64 MB.life, .int .i64 MB.timer] 100)) (keepHeap hb3 hR2)
  have hb03 := hb02.trans (hb3.mono hb02.size)
  obtain ⟨W4, hW4, hq4, hb4⟩ : ∃ W4, w3.alloc (.cells #[.int .i64 MB.kind, .int .i64 MB.owner, .int .i64 MB.x, .int .i64 MB.y, .int .i64 MB.vx, .int .i64 MB.vy, .int .i64 MB.aim, .int .i64 MB.life, .int .i64 MB.timer] 100) = W4 ∧ W4.heap[w3.heap.size]? = some (.cells #[.int .i64 MB.kind, .int .i64 MB.owner, .int .i64 MB.x, .int .i64 MB.y, .int .i64 MB.vx, .int .i64 MB.vy, .int .i64 MB.aim, .int .i64 MB.life, .int .i64 MB.timer] 100 (0, 0)) ∧ Below w3.heap.size w3 W4 := ⟨_, rfl, heap_alloc_new w3 _, below1 w3 _⟩
  rw [hW4] at hR4 ⊢
  clear hW4 cq cA2 hA2 hq
  have hb04 := hb03.trans (hb4.mono hb03.size)
  have cq4 := rowCells hq4
  have fq4 := fun j => frozenHeap hq4 j
  have hs4 := hb4.size
  have hqR : w.heap.size + 1 + 1 ≠ w3.heap.size := by omega
  have hq5 := setH (k := 8) (v := .int .i64 (MB.timer - 1)) hq4
  have hR5 := farHeap (p := ⟨w3.heap.size, 8, none⟩) hR4 hqR (.int .i64 (MB.timer - 1))
  have hb05 := hb04.setCell (p := ⟨w3.heap.size, 8, none⟩) (by show _ ≤ w3.heap.size; omega) (.int .i64 (MB.timer - 1))
  go_upto_region 12 with (fail)
  obtain ⟨W5, hW5⟩ : ∃ W, W4.setCell ⟨w3.heap.size, 8, none⟩ (.int .i64 (MB.timer - 1)) = W := ⟨_, rfl⟩
  rw [hW5] at hq5 hR5 hb05 ⊢
  clear hW5 cq4 fq4
  have hq5 : W5.heap[w3.heap.size]? = some (.cells #[.int .i64 MB.kind, .int .i64 MB.owner, .int .i64 MB.x, .int .i64 MB.y, .int .i64 MB.vx, .int .i64 MB.vy, .int .i64 MB.aim, .int .i64 MB.life, .int .i64 (MB.timer - 1)] 100 (0, 0)) := hq5
  clear hfo hmv hb1 hb2 hb3 hb4 hb01 hb02 hb03 hb04 hR2 hR4 hq4 ta0 ta1 ta2 ta3 ta4 hA hB hR h hf p0 p1
  cases MT with
  | true =>
   have HE2 : Hid (mvB L b = none) := Lib.hid (by rw [HE.out]; rfl)
   have hq6 : W5.drew.heap[w3.heap.size]? = _ := hq5
   have bs_0 : Below W5.heap.size W5 W5.drew := belowDrew W5 1
   refine wp_region_held_drew (S := (fun w' => ∀ j, w'.cell? ⟨w3.heap.size, j, none⟩ = #[Value.int .i64 MB.kind, .int .i64 MB.owner, .int .i64 MB.x, .int .i64 MB.y, .int .i64 MB.vx, .int .i64 MB.vy, .int .i64 MB.aim, .int .i64 MB.life, .int .i64 (MB.timer - 1)][j]?)) (by kernel_rfl) ?_ (fun hHeld => ?_)
   ·exact rowCells hq6
   refine tk 0 49 ?_
   (try simp only [zP, zA, zB, zC])
   refine tk 1 50 ?_
   (try simp only [zP, zA, zB, zC])
   refine tk 2 51 ?_
   (try simp only [zP, zA, zB, zC])
   refine tk 3 52 ?_
   (try simp only [zP, zA, zB, zC])
   refine tof 4 53 3 52 true false ?_
   (try simp only [zP, zA, zB, zC])
   refine tof 5 54 3 52 true false ?_
   (try simp only [zP, zA, zB, zC])
   refine tof 6 55 3 52 true false ?_
   (try simp only [zP, zA, zB, zC])
   refine tk 7 56 ?_
   (try simp only [zP, zA, zB, zC])
   refine wpAnyH_ready (rs := [8]) (by kernel_rfl) (by simp) ?_
   refine AllReadyH.cons rfl (fun K hK => ?_) AllReadyH.nil
   have cR5 := rowCells hR5
   have fR5 := fun j => frozenHeap hR5 j
   go_simp
   have P_0 := putB_heap hR5 rfl ⟨MB.kind, MB.owner, MB.x, MB.y, MB.vx, MB.vy, MB.aim, MB.life, MB.timer - 1⟩ MB.x MB.y MB.vx MB.vy
   have q_0 := putB_far hq5 (c := (w.heap.size + 1 + 1)) (by omega) ⟨MB.kind, MB.owner, MB.x, MB.y, MB.vx, MB.vy, MB.aim, MB.life, MB.timer - 1⟩ MB.x MB.y MB.vx MB.vy
   have bv_0 := putB_below hb05 (c := (w.heap.size + 1 + 1)) (by omega) ⟨MB.kind, MB.owner, MB.x, MB.y, MB.vx, MB.vy, MB.aim, MB.life, MB.timer - 1⟩ MB.x MB.y MB.vx MB.vy
   obtain ⟨V, hV⟩ : ∃ V, putB W5 (w.heap.size + 1 + 1) ⟨MB.kind, MB.owner, MB.x, MB.y, MB.vx, MB.vy, MB.aim, MB.life, MB.timer - 1⟩ MB.x MB.y MB.vx MB.vy = V := ⟨_, rfl⟩
   rw [hV] at P_0 q_0 bv_0
   unfold putB at hV
   try rw [hV]
   clear hV
   have P_1 : V.drew.heap[(w.heap.size + 1 + 1)]? = _ := P_0
   have q_1 : V.drew.heap[w3.heap.size]? = _ := q_0
   have bs_1 : Below w.heap.size w V.drew := bv_0.trans ((belowDrew V 1).mono bv_0.size)
   refine hK.out _ _ ?_ (fun hHeld => ?_)
   ·exact rowCells q_1
   clear hK K
   (try simp only [zP, zA, zB, zC])
   refine tk 9 5 ?_
   (try simp only [zP, zA, zB, zC])
   refine wpAnyH_done (by kernel_rfl) ?_ _
   go_wp2_with (fail)
   have hL := load_bd P_1 rfl
   refine bodyPost_ret (v := .tuple #[.agg #[Value.int .i64 MB.kind, .int .i64 MB.owner, .int .i64 MB.x, .int .i64 MB.y, .int .i64 MB.vx, .int .i64 MB.vy, .int .i64 MB.aim, .int .i64 MB.life, .int .i64 (MB.timer - 1)], .bool (false)]) (results_two rfl _ _ _ _ _ rfl rfl hL) rfl ⟨⟨MB.kind, MB.owner, MB.x, MB.y, MB.vx, MB.vy, MB.aim, MB.life, MB.timer - 1⟩, false, rfl, by rw [HE2.out]; rfl, bs_1⟩
  | false =>
   have HE3 : Hid (∀ c : Bd, c = ⟨MB.kind, MB.owner, MB.x, MB.y, MB.vx, MB.vy, MB.aim, MB.life, MB.timer - 1⟩ → mvB L b = if decide (1 < MB.timer) = true then some c else none) := Lib.hid (fun c hc => by
    rw [HE.out, hc, HM.out.1, HM.out.2.1, HM.out.2.2.1, HM.out.2.2.2.1, HM.out.2.2.2.2]
    by_cases hz : 0 < b.timer - 1
    ·rw [if_neg (by simp; omega), if_pos (by simpa using hz)]
    ·rw [if_pos (by simp; omega), if_neg (by simpa using hz)])
   have hq6 : W5.drew.heap[w3.heap.size]? = _ := hq5
   have bs_0 : Below W5.heap.size W5 W5.drew := belowDrew W5 1
   refine wp_region_held_drew (S := (fun w' => ∀ j, w'.cell? ⟨w3.heap.size, j, none⟩ = #[Value.int .i64 MB.kind, .int .i64 MB.owner, .int .i64 MB.x, .int .i64 MB.y, .int .i64 MB.vx, .int .i64 MB.vy, .int .i64 MB.aim, .int .i64 MB.life, .int .i64 (MB.timer - 1)][j]?)) (by kernel_rfl) ?_ (fun hHeld => ?_)
   ·exact rowCells hq6
   refine tk 0 49 ?_
   (try simp only [zP, zA, zB, zC])
   refine tk 1 50 ?_
   (try simp only [zP, zA, zB, zC])
   refine tk 2 51 ?_
   (try simp only [zP, zA, zB, zC])
   refine tk 3 52 ?_
   (try simp only [zP, zA, zB, zC])
   refine tw 4 53 3 52 true ?_
   (try simp only [zP, zA, zB, zC])
   refine tw 5 54 3 52 true ?_
   (try simp only [zP, zA, zB, zC])
   refine tw 6 55 3 52 true ?_
   (try simp only [zP, zA, zB, zC])
   refine tk 7 56 ?_
   (try simp only [zP, zA, zB, zC])
   refine wpAnyH_ready (rs := [8]) (by kernel_rfl) (by simp) ?_
   refine AllReadyH.cons rfl (fun K hK => ?_) AllReadyH.nil
   have cR5 := rowCells hR5
   have fR5 := fun j => frozenHeap hR5 j
   go_simp
   have P_0 := putB_heap hR5 rfl ⟨MB.kind, MB.owner, MB.x, MB.y, MB.vx, MB.vy, MB.aim, MB.life, MB.timer - 1⟩ MB.x MB.y MB.vx MB.vy
   have q_0 := putB_far hq5 (c := (w.heap.size + 1 + 1)) (by omega) ⟨MB.kind, MB.owner, MB.x, MB.y, MB.vx, MB.vy, MB.aim, MB.life, MB.timer - 1⟩ MB.x MB.y MB.vx MB.vy
   have bv_0 := putB_below hb05 (c := (w.heap.size + 1 + 1)) (by omega) ⟨MB.kind, MB.owner, MB.x, MB.y, MB.vx, MB.vy, MB.aim, MB.life, MB.timer - 1⟩ MB.x MB.y MB.vx MB.vy
   obtain ⟨V, hV⟩ : ∃ V, putB W5 (w.heap.size + 1 + 1) ⟨MB.kind, MB.owner, MB.x, MB.y, MB.vx, MB.vy, MB.aim, MB.life, MB.timer - 1⟩ MB.x MB.y MB.vx MB.vy = V := ⟨_, rfl⟩
   rw [hV] at P_0 q_0 bv_0
   unfold putB at hV
   try rw [hV]
   clear hV
   have P_1 : V.drew.heap[(w.heap.size + 1 + 1)]? = _ := P_0
   have q_1 : V.drew.heap[w3.heap.size]? = _ := q_0
   have bs_1 : Below w.heap.size w V.drew := bv_0.trans ((belowDrew V 1).mono bv_0.size)
   refine hK.out _ _ ?_ (fun hHeld => ?_)
   ·exact rowCells q_1
   clear hK K
   (try simp only [zP, zA, zB, zC])
   refine tk 9 5 ?_
   (try simp only [zP, zA, zB, zC])
   refine wpAnyH_done (by kernel_rfl) ?_ _
   go_wp2_with (fail)
   have hL := load_bd P_1 rfl
   refine bodyPost_ret (v := .tuple #[.agg #[Value.int .i64 MB.kind, .int .i64 MB.owner, .int .i64 MB.x, .int .i64 MB.y, .int .i64 MB.vx, .int .i64 MB.vy, .int .i64 MB.aim, .int .i64 MB.life, .int .i64 (MB.timer - 1)], .bool (decide (1 < MB.timer))]) (results_two rfl _ _ _ _ _ rfl rfl hL) rfl ⟨⟨MB.kind, MB.owner, MB.x, MB.y, MB.vx, MB.vy, MB.aim, MB.life, MB.timer - 1⟩, decide (1 < MB.timer), rfl, HE3.out _ rfl, bs_1⟩
 ·have hfo := figureOf_2 b hk W0
  have HE : Hid (mvB L b = some b) := Lib.hid (by unfold mvB; rw [if_neg (by omega), if_neg (by omega)])
  clear hk hMB hMT p5
  go_enter Tryz.func206, Tryz.ntmps206
  go_upto_region 13 with (go_at_call 211; refine hfo.mono ?_; rintro e w1 ⟨rfl, hb1⟩)
  have hb01 := hB0.trans (hb1.mono hB0.size)
  have hB2 := keepHeap hb1 hB
  have hR2 := keepHeap hb1 hR
  clear hW cA cB
  have cB := rowCells hB2
  have cR := rowCells hR2
  have fR := fun j => frozenHeap hR2 j
  go_wp2_with (fail)
  have hP := putB_heap hR2 rfl b b.x b.y b.vx b.vy
  have hL := load_bd hP rfl
  have hbP := putB_below hb01 (c := w.heap.size + 1 + 1) (by omega) b b.x b.y b.vx b.vy
  unfold putB at hL hbP
  refine bodyPost_ret (v := .tuple #[.agg #[.int .i64 b.kind, .int .i64 b.owner, .int .i64 b.x, .int .i64 b.y, .int .i64 b.vx, .int .i64 b.vy, .int .i64 b.aim, .int .i64 b.life, .int .i64 b.timer], .bool true]) (results_two rfl _ _ _ _ _ rfl rfl hL) rfl ⟨b, true, rfl, by rw [HE.out]; rfl, hbP⟩
end Go.Proofs.YtnlonkkbjkfkmaaGreatDoor
