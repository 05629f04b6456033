/-
  launch of the program's SendWire. No condition but the ranges.
-/
import Derived.Test.YteafgghpkohfpabSendI
namespace Go.Proofs.Yteafgghpkohfpab
open Go.RowKit
set_option linter.all false
theorem BoxW.keep {W W' : World} {B p : Nat} {x : Wi} {v : Value} (h : BoxW W B p x v) (hb : Below W.heap.size W W') : BoxW W' B p x v := ⟨keepHeap hb h.1, h.2.1.keep hb (Nat.le_refl _), h.2.2⟩
set_option maxRecDepth 100000 in
set_option maxHeartbeats 8000000 in
theorem launch_any {W : World} {B p : Nat} {x : Wi} {v : Value} (h : BoxW W B p x v) (hB : B ≤ W.heap.size) (hx : x.sound) (d : List UInt8) (hd : d.length ≤ 4096) :
    Calls Try.prog 67 #[.pointer (some ⟨p, 0, none⟩), .string ⟨d.toArray⟩] W (RetBox0 W B p (launchX x d)) := by
  obtain ⟨hx1, hx2, hx3, hx4, hx5⟩ := hx
  have hbp := h.2.2
  have hLow := fun W => below_impl x.seed (x.jitter + 1) W
  have hn0 := (belowR_any x.seed (x.jitter + 1)).2.2
  rw [show belowR x.seed (x.jitter + 1) = (lchS x, lchN x) from rfl] at hLow hn0
  dsimp only at hLow hn0
  obtain ⟨s1, hS⟩ : ∃ s, s = lchS x := ⟨_, rfl⟩
  obtain ⟨late, hN⟩ : ∃ n, n = lchN x := ⟨_, rfl⟩
  rw [← hN] at hn0
  simp only [← hS, ← hN] at hLow
  have HC : Hid (lchC x = chanceR s1 x.damage) := Lib.hid (by unfold lchC; rw [← hS])
  have HNN : Hid (lchN x = late) := Lib.hid hN.symm
  clear hS hN
  have hA := h.1
  have hW := Lib.hid h
  unfold wiC at hA
  have cA := rowCells hA
  have w1 : IntKind.i64.wrap (x.jitter + 1) = x.jitter + 1 := IntWalk.i64_in _ (by omega)
  go_enter Try.func67, Try.ntmps67
  go_wp2_with (fail)
  go_quiet ((go_at_call 89; exact Calls.quiet_of (hLow _)))
  have box1 := hW.out.drewN nq
  have hb1 := below_drewN (Below.refl B W) nq
  have hsz1 : (W.drewN nq).heap.size = W.heap.size := rfl
  generalize W.drewN nq = W1 at *
  have hA1 := box1.1
  unfold wiC at hA1
  have cA1 := rowCells hA1
  have fA1 := fun j => frozenHeap hA1 j
  have box2 := box1.set (y := x.seeded s1) 0 (.int .i64 s1) rfl rfl
  have hb2 := hb1.setCell (p := ⟨p, 0, none⟩) hbp (.int .i64 s1)
  have hB1 : B ≤ (W1.setCell ⟨p, 0, none⟩ (.int .i64 s1)).heap.size := by simp; omega
  clear cA hA hLow w1 box1 hb1 hW h
  go_upto_region 2 with (fail)
  generalize W1.setCell ⟨p, 0, none⟩ (.int .i64 s1) = W2 at *
  have hA2 := box2.1
  unfold wiC Wi.seeded at hA2
  dsimp only at hA2
  have cA2 := rowCells hA2
  have hH : Calls Try.prog 65 #[.pointer (some ⟨p, 0, none⟩), .int .i64 x.damage] W2 (RetBox W2 B p (x.seeded (chanceR s1 x.damage).1) (.bool (chanceR s1 x.damage).2)) := happens_any box2 x.damage
  generalize chanceR s1 x.damage = r at hH HC
  obtain ⟨cc, cb⟩ := r
  dsimp only at hH
  clear hA1 cA1 fA1 hsz1
  go_wp2_with (fail)
  refine hH.mono ?_
  rintro e W3 ⟨v3, rfl, box3, hb3⟩
  have hb03 := hb2.trans hb3
  have hB3 := Nat.le_trans hB1 hb3.size
  clear hA2 cA2 box2 hb2 hb3
  cases cb with
  | true =>
    have hSp := fun W => spoilByte_impl cc d W (by omega)
    have HD : Hid (lchD x d = spoilR cc d) := Lib.hid (by unfold lchD; rw [HC.out]; rfl)
    generalize spoilR cc d = r at hSp HD
    obtain ⟨s3, d3⟩ := r
    dsimp only at hSp
    have hA3 := box3.1
    unfold wiC Wi.seeded at hA3
    dsimp only at hA3
    have cA3 := rowCells hA3
    go_wp2_with (fail)
    refine (hSp _).mono ?_
    rintro e W4 ⟨rfl, hb4⟩
    have box4 := box3.keep hb4
    have hb04 := hb03.trans (hb4.mono hB3)
    have hA4 := box4.1
    unfold wiC Wi.seeded at hA4
    dsimp only at hA4
    have cA4 := rowCells hA4
    have fA4 := fun j => frozenHeap hA4 j
    have box5 : BoxW (W4.setCell ⟨p, 0, none⟩ (.int .i64 s3)) B p (x.seeded s3) v3 := box4.set (y := x.seeded s3) 0 (.int .i64 s3) rfl rfl
    have hb05 := hb04.setCell (p := ⟨p, 0, none⟩) hbp (.int .i64 s3)
    have hB5 : B ≤ (W4.setCell ⟨p, 0, none⟩ (.int .i64 s3)).heap.size := by have := hb4.size; simp; omega
    clear cA3 hA3 box3 hb03
    go_upto_region 4 with (fail)
    generalize W4.setCell ⟨p, 0, none⟩ (.int .i64 s3) = W5 at *
    clear hA4 cA4 fA4 box4 hb04
    have hA6 := box5.1
    unfold wiC Wi.seeded at hA6
    dsimp only at hA6
    have hG6 : GrowFl W5 B v3 x.fls := box5.2.1
    have hne := box5.ne
    obtain ⟨a3, c3, rfl, -⟩ := id hG6.own
    have cA6 := rowCells hA6
    have fA6 := fun j => frozenHeap hA6 j
    have hp6 : p < W5.heap.size := (Array.getElem?_eq_some_iff.1 hA6).1
    by_cases hlen : x.fls.length = 200
    · have z2 : ((x.fls.length : Int) == 200) = true := by simp; omega
      have HL : Hid (launchX x d = loseX (x.seeded s3)) := Lib.hid (by unfold launchX; rw [if_pos hlen, HD.out])
      have hLo := lose_any box5 (by show 0 ≤ x.lost ∧ x.lost ≤ 1000000; exact hx4)
      clear hlen
      go_wp2_with (fail)
      refine hLo.mono ?_
      rintro e w9 ⟨v9, r9, rfl, box9, hb9⟩
      go_wp2_with (fail)
      refine bodyPost_ret (v := .tuple #[]) (by simp [results, Try.results67]) rfl ⟨v9, _, rfl, ?_, (hb05).trans hb9⟩
      rw [HL.out]; exact box9
    · have z2 : ((x.fls.length : Int) == 200) = false := by simp; omega
      have HL : Hid (launchX x d = { x with seed := s3, fls := x.fls ++ [⟨x.now + x.delay + late, d3⟩] }) := Lib.hid (by unfold launchX; rw [if_neg hlen, HD.out, HNN.out])
      have hx6 : x.fls.length ≤ 200 := hx5
      have u1 : IntKind.i64.wrap (x.now + x.delay) = x.now + x.delay := IntWalk.i64_in _ (by omega)
      have u2 : IntKind.i64.wrap (x.now + x.delay + late) = x.now + x.delay + late := IntWalk.i64_in _ (by omega)
      obtain ⟨f, hf⟩ : ∃ f : Fl, f = ⟨x.now + x.delay + late, d3⟩ := ⟨_, rfl⟩
      have HF := Lib.hid hf
      have HO := Lib.hid hG6
      have HN := Lib.hid hne
      have HB := Lib.hid hB5
      have hrange : ∀ W : World, (W.alloc (.cells #[.int .i64 (x.now + x.delay + late), .string ⟨(d3).toArray⟩] 101)).rangeAt W.heap.size 0 (flL f) := fun W j u hj => by
        rw [hf] at hj
        rw [World.cell?_alloc_mark, Nat.zero_add]
        simpa [flL] using hj
      have HR := Lib.hid hrange
      have HA := Lib.hid hA6
      clear hf hrange hG6 hne
      go_wp2_with (fail)
      go_region_law (refine step_Fl rfl (.tmp 53) (.tmp 67) rfl B _ x.fls rfl (World.ownsRow.alloc (World.ownsRow.drew HO.out) _) W5.heap.size f rfl (HR.out W5.drew) (by omega) (by have := HB.out; simp; omega) ?_; intro v7 w7 hown7 hb7 hg7; obtain ⟨F7, hF7⟩ : ∃ F7, F7 = x.fls ++ [f] := ⟨_, rfl⟩; rw [← hF7] at hown7; have HF7 := Lib.hid hF7; clear hF7; obtain ⟨a7, c7, rfl, -⟩ := id hown7.own; have hA7 := (hg7.block p (by simp; omega) (fun e => HN.out e.symm)).trans (keepHeap (below1 W5.drew _) HA.out); have cA7 := rowCells hA7; have fA7 := fun j => frozenHeap hA7 j)
      all_goals
        have hne7 := hown7.notBox hA7 wire_ne_flight
        have hP := setHf (k := 7) hA7 (v := .slice a7 F7.length c7)
        have hO := hown7.aside (p := ⟨p, 7, none⟩) hne7 (.slice a7 F7.length c7)
        have hbE := ((((hb05).drew).trans ((below1 W5.drew _).mono hB5)).trans hb7).setCell (p := ⟨p, 7, none⟩) hbp (.slice a7 F7.length c7)
        go_wp2_with (fail)
        refine bodyPost_ret (v := .tuple #[]) (by simp [results, Try.results67]) rfl ⟨.slice a7 F7.length c7, _, rfl, ?_, hbE⟩
        rw [HL.out, ← HF.out, ← HF7.out]
        exact ⟨hP, hO, hbp⟩
  | false =>
    have HD : Hid (lchD x d = (cc, d)) := Lib.hid (by unfold lchD; rw [HC.out]; rfl)
    have hB5 := hB3
    go_upto_region 4 with (fail)
    have hA6 := box3.1
    unfold wiC Wi.seeded at hA6
    dsimp only at hA6
    have hG6 : GrowFl W3 B v3 x.fls := box3.2.1
    have hne := box3.ne
    obtain ⟨a3, c3, rfl, -⟩ := id hG6.own
    have cA6 := rowCells hA6
    have fA6 := fun j => frozenHeap hA6 j
    have hp6 : p < W3.heap.size := (Array.getElem?_eq_some_iff.1 hA6).1
    by_cases hlen : x.fls.length = 200
    · have z2 : ((x.fls.length : Int) == 200) = true := by simp; omega
      have HL : Hid (launchX x d = loseX (x.seeded cc)) := Lib.hid (by unfold launchX; rw [if_pos hlen, HD.out])
      have hLo := lose_any box3 (by show 0 ≤ x.lost ∧ x.lost ≤ 1000000; exact hx4)
      clear hlen
      go_wp2_with (fail)
      refine hLo.mono ?_
      rintro e w9 ⟨v9, r9, rfl, box9, hb9⟩
      go_wp2_with (fail)
      refine bodyPost_ret (v := .tuple #[]) (by simp [results, Try.results67]) rfl ⟨v9, _, rfl, ?_, (hb03).trans hb9⟩
      rw [HL.out]; exact box9
    · have z2 : ((x.fls.length : Int) == 200) = false := by simp; omega
      have HL : Hid (launchX x d = { x with seed := cc, fls := x.fls ++ [⟨x.now + x.delay + late, d⟩] }) := Lib.hid (by unfold launchX; rw [if_neg hlen, HD.out, HNN.out])
      have hx6 : x.fls.length ≤ 200 := hx5
      have u1 : IntKind.i64.wrap (x.now + x.delay) = x.now + x.delay := IntWalk.i64_in _ (by omega)
      have u2 : IntKind.i64.wrap (x.now + x.delay + late) = x.now + x.delay + late := IntWalk.i64_in _ (by omega)
      obtain ⟨f, hf⟩ : ∃ f : Fl, f = ⟨x.now + x.delay + late, d⟩ := ⟨_, rfl⟩
      have HF := Lib.hid hf
      have HO := Lib.hid hG6
      have HN := Lib.hid hne
      have HB := Lib.hid hB5
      have hrange : ∀ W : World, (W.alloc (.cells #[.int .i64 (x.now + x.delay + late), .string ⟨(d).toArray⟩] 101)).rangeAt W.heap.size 0 (flL f) := fun W j u hj => by
        rw [hf] at hj
        rw [World.cell?_alloc_mark, Nat.zero_add]
        simpa [flL] using hj
      have HR := Lib.hid hrange
      have HA := Lib.hid hA6
      clear hf hrange hG6 hne
      go_wp2_with (fail)
      go_region_law (refine step_Fl rfl (.tmp 53) (.tmp 67) rfl B _ x.fls rfl (World.ownsRow.alloc (World.ownsRow.drew HO.out) _) W3.heap.size f rfl (HR.out W3.drew) (by omega) (by have := HB.out; simp; omega) ?_; intro v7 w7 hown7 hb7 hg7; obtain ⟨F7, hF7⟩ : ∃ F7, F7 = x.fls ++ [f] := ⟨_, rfl⟩; rw [← hF7] at hown7; have HF7 := Lib.hid hF7; clear hF7; obtain ⟨a7, c7, rfl, -⟩ := id hown7.own; have hA7 := (hg7.block p (by simp; omega) (fun e => HN.out e.symm)).trans (keepHeap (below1 W3.drew _) HA.out); have cA7 := rowCells hA7; have fA7 := fun j => frozenHeap hA7 j)
      all_goals
        have hne7 := hown7.notBox hA7 wire_ne_flight
        have hP := setHf (k := 7) hA7 (v := .slice a7 F7.length c7)
        have hO := hown7.aside (p := ⟨p, 7, none⟩) hne7 (.slice a7 F7.length c7)
        have hbE := ((((hb03).drew).trans ((below1 W3.drew _).mono hB5)).trans hb7).setCell (p := ⟨p, 7, none⟩) hbp (.slice a7 F7.length c7)
        go_wp2_with (fail)
        refine bodyPost_ret (v := .tuple #[]) (by simp [results, Try.results67]) rfl ⟨.slice a7 F7.length c7, _, rfl, ?_, hbE⟩
        rw [HL.out, ← HF.out, ← HF7.out]
        exact ⟨hP, hO, hbp⟩
end Go.Proofs.Yteafgghpkohfpab
