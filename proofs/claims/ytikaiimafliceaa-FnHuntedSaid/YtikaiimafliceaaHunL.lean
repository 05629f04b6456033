/-
  FnHunted: the hunt finds the first difference of lists that agree up to some index and never again, with few looks. No condition.
-/
import Derived.Test.YtikaiimafliceaaHunP
import Derived.Test.YtikaiimafliceaaCodF
import Derived.Test.YtikaiimafliceaaAppG
namespace Go.Proofs.Ytikaiimafliceaa
open Go.RowKit Go.Joins Go.ChangeShapes Go.WideShapes Go.Deep
set_option linter.all false
theorem rem_200 (y : Nat) : ∃ m : Nat, (y : Int) % 200 = (m : Int) ∧ (y : Int).tmod 200 = (m : Int) ∧ m ≤ 199 := by
  have e : (y : Int) % 200 = ((y % 200 : Nat) : Int) := (Int.natCast_emod y 200).symm
  exact ⟨y % 200, e, by rw [Int.tmod_eq_emod_of_nonneg (by omega)]; exact e, by omega⟩
theorem rem_let (y : Nat) {n : Nat} (hn : 1 ≤ n) {d : Int} (hd : (n : Int) = d) : ∃ m : Nat, (y : Int) % d = (m : Int) ∧ (y : Int).tmod d = (m : Int) ∧ m < n := by
  have e : (y : Int) % d = ((y % n : Nat) : Int) := by rw [← hd]; exact (Int.natCast_emod y n).symm
  exact ⟨y % n, e, by rw [Int.tmod_eq_emod_of_nonneg (by omega)]; exact e, Nat.mod_lt _ (by omega)⟩
/-- What stands at the loop's head. -/
def HlR (w : World) (g : Nat → Nat) (K j : Nat) (v5 v6 : Value) (wr : World) : Prop :=
  OwnR wr w.heap.size v5 (huA g j) ∧ OwnR wr w.heap.size v6 (huB g K j) ∧ v6.ownBlock ≠ v5.ownBlock ∧ v5.ownBlock ≠ none ∧ v6.ownBlock ≠ none ∧ Below w.heap.size w wr
theorem hlR_start (w : World) (g : Nat → Nat) (K : Nat) : ∃ W, (w.alloc (.cells #[] 3)).alloc (.cells #[] 3) = W ∧ HlR w g K 0 (.slice (some ⟨w.heap.size, 0, none⟩) 0 0) (.slice (some ⟨w.heap.size + 1, 0, none⟩) 0 0) W := by
  refine ⟨_, rfl, ?_, ?_, ?_, ?_, ?_, below2 _ _ _⟩
  · exact (OwnR.made w #[] w.heap.size (Nat.le_refl _) (by unfold maxLen; decide)).keep (below1 _ _) (Nat.le_refl _)
  · have := OwnR.made (w.alloc (.cells #[] 3)) #[] w.heap.size (by simp) (by unfold maxLen; decide)
    exact (by simpa using this : OwnR ((w.alloc (.cells #[] 3)).alloc (.cells #[] 3)) w.heap.size (.slice (some ⟨w.heap.size + 1, 0, none⟩) 0 0) [])
  · intro e; have := Option.some.inj e; have : w.heap.size + 1 = w.heap.size := this; omega
  · intro e; cases e
  · intro e; cases e
set_option maxRecDepth 100000 in
set_option maxHeartbeats 8000000 in
theorem lawHunted (a : Option Addr) (len cap : Nat) (zs : List Int) (w : World) (hr : IsRow .u8 w a len cap zs) :
    Calls Try.prog 3 #[.slice a len cap] w fun e w' => e = .returned (.bool true) ∧ Below w.heap.size w w' := by
  obtain ⟨hrd, hl⟩ := RdC.of_row hr
  clear hr
  by_cases h : 1048576 < (len : Int)
  · have b1 : decide (1048576 < (len : Int)) = true := by simpa using h
    go_enter Try.func3, Try.ntmps3
    go_wp2_with (go_at_call 11; refine (big_any hrd hl).mono ?_; rintro e w' ⟨rfl, rfl⟩)
    go_ret
    exact ⟨rfl, Below.refl _ _⟩
  have b1 : decide (1048576 < (len : Int)) = false := by simpa using h
  obtain ⟨f, hrf⟩ := hrd.some_f
  have hat := fun {W : World} (hW : Below w.heap.size w W) (i : Nat) (hi : i ≤ 1000000) => at_det (hrf.keep hW) hl i hi
  have hle := fun i => atF_le hrf i
  obtain ⟨g, hg⟩ : ∃ g : Nat → Nat, g = atF len f := ⟨_, rfl⟩
  rw [← hg] at hat hle
  clear hg hrf
  go_enter Try.func3, Try.ntmps3
  go_wp2_with (go_at_call 11; refine (big_any hrd hl).mono ?_; rintro e w' ⟨rfl, rfl⟩)
  have hat0 := hat (Below.refl _ _) 0 (by omega)
  have hat1 := hat (Below.refl _ _) 1 (by omega)
  have hl0 := hle 0
  have hl1 := hle 1
  obtain ⟨y0, hy0⟩ : ∃ y, y = g 0 := ⟨_, rfl⟩
  obtain ⟨y1, hy1⟩ : ∃ y, y = g 1 := ⟨_, rfl⟩
  rw [← hy0] at hat0 hl0
  rw [← hy1] at hat1 hl1
  clear hy0 hy1
  refine hat0.mono ?_
  rintro e w1 ⟨rfl, rfl⟩
  obtain ⟨m0, e0, e0', hm0⟩ := rem_200 y0
  have u0 : IntKind.i64.wrap (m0 : Int) = m0 := IntWalk.i64_in _ (by omega)
  have u0' : IntKind.i64.wrap (2 + (m0 : Int)) = 2 + m0 := IntWalk.i64_in _ (by omega)
  go_wp2_with (fail)
  refine hat1.mono ?_
  rintro e w1 ⟨rfl, rfl⟩
  obtain ⟨m1, e1, e1', hm1⟩ := rem_let y1 (n := 1 + m0) (by omega) (d := 2 + (m0 : Int) - 1) (by omega)
  have u1 : IntKind.i64.wrap (m1 : Int) = m1 := IntWalk.i64_in _ (by omega)
  have u1' : IntKind.i64.wrap (1 + (m1 : Int)) = 1 + m1 := IntWalk.i64_in _ (by omega)
  have u2 : IntKind.i64.wrap (2 + (m0 : Int) - 1) = 2 + (m0 : Int) - 1 := IntWalk.i64_in _ (by omega)
  have hnz : ¬ (2 + (m0 : Int) - 1 = 0) := by omega
  have hyp : 0 ≤ (y1 : Int) := by omega
  go_upto_region 5 with (fail)
  obtain ⟨N, hN⟩ : ∃ N : Nat, N = 2 + m0 := ⟨_, rfl⟩
  obtain ⟨K, hK⟩ : ∃ K : Nat, K = 1 + m1 := ⟨_, rfl⟩
  rw [show (2 : Int) + (m0 : Int) = (N : Int) by omega, show (1 : Int) + (m1 : Int) = (K : Int) by omega]
  have hN2 : 2 ≤ N := by omega
  have hN3 : N ≤ 201 := by omega
  have hK1 : 1 ≤ K := by omega
  have hKN : K ≤ N - 1 := by omega
  clear u0 u0' u1 u1' u2 hnz hyp e0 e0' e1 e1' hm0 hm1 hN hK hat0 hat1 hl0 hl1 b1 h
  obtain ⟨W, hW, hrel0⟩ := hlR_start w g K
  go_wp2_with (fail)
  try rw [hW]
  clear hW
  go_loopw [5, 6, 7] (fun v5 v6 i wr => ∃ j : Nat, j ≤ N ∧ i = .int .i64 (j : Int) ∧ HlR w g K j v5 v6 wr) (fun _ _ i _ => N - (intOf i).toNat)
  case atStart => exact ⟨0, by omega, rfl, hrel0⟩
  case round =>
    clear hrel0
    obtain ⟨j, hj, rfl, h5, h6, hne, hn5, hn6, hbel⟩ := hrel
    have hsz := hbel.size
    by_cases hjN : j < N
    · have hjj : (j : Int) < (N : Int) := by omega
      have hA := hat hbel j (by omega)
      have hgj := hle j
      have HA := Lib.hid (huA_snoc g j)
      have HB := Lib.hid (huB_snoc g K j)
      have hlA : (huA g j).length + 1 ≤ 1048576 := by rw [huA_len]; omega
      have hlB : (huB g K j).length + 1 ≤ 1048576 := by rw [huB_len]; omega
      have hA2 := fun {W : World} (hW : Below w.heap.size w W) => hat hW j (by omega)
      obtain ⟨y, hy⟩ : ∃ y, y = g j := ⟨_, rfl⟩
      rw [← hy] at hA hgj HA HB
      simp only [← hy] at hA2
      clear hy
      generalize huA g j = X at *
      generalize huB g K j = Y at *
      by_cases hKj : K ≤ j
      · have z1 : decide ((K : Int) ≤ (j : Int)) = true := by simp; omega
        have hBt := fun W => btoi_any true W
        rw [if_pos hKj] at HB
        simp only [if_true] at hBt
        go_wp2_with (fail)
        refine hA.mono ?_
        rintro e w1 ⟨rfl, rfl⟩
        go_wp2_with (at_builtin; refine app_intG rfl _ _ rfl w.heap.size u5 X rfl h5 _ rfl u6 Y h6 hne hn6 (by omega) hsz ?_; intro v5' w2 h5' h6' hne' hnn' hb2)
        have hb02 := hbel.trans hb2
        refine (hA2 hb02).mono ?_
        rintro e w3 ⟨rfl, rfl⟩
        go_wp2_with (fail)
        refine (hBt _).mono ?_
        rintro e w3 ⟨rfl, rfl⟩
        go_wp2_with (at_builtin; refine app_intG rfl _ _ rfl w.heap.size u6 Y rfl h6' _ rfl v5' _ h5' (fun e => hne' e.symm) (hnn' hn5) (by omega) hb02.size ?_; intro v6' w4 h6'' h5'' hne'' hnn'' hb4)
        go_roundw
        case rel => exact ⟨j + 1, by omega, by go_num, by rw [HA.out]; exact h5'', by rw [HB.out]; exact h6'', fun e => hne'' e.symm, hnn' hn5, hnn'' hn6, hb02.trans hb4⟩
        case measure => simp [intOf]; omega
      · have z1 : decide ((K : Int) ≤ (j : Int)) = false := by simp; omega
        have hBt := fun W => btoi_any false W
        rw [if_neg hKj] at HB
        simp only [Bool.false_eq_true, if_false] at hBt
        go_wp2_with (fail)
        refine hA.mono ?_
        rintro e w1 ⟨rfl, rfl⟩
        go_wp2_with (at_builtin; refine app_intG rfl _ _ rfl w.heap.size u5 X rfl h5 _ rfl u6 Y h6 hne hn6 (by omega) hsz ?_; intro v5' w2 h5' h6' hne' hnn' hb2)
        have hb02 := hbel.trans hb2
        refine (hA2 hb02).mono ?_
        rintro e w3 ⟨rfl, rfl⟩
        go_wp2_with (fail)
        refine (hBt _).mono ?_
        rintro e w3 ⟨rfl, rfl⟩
        go_wp2_with (at_builtin; refine app_intG rfl _ _ rfl w.heap.size u6 Y rfl h6' _ rfl v5' _ h5' (fun e => hne' e.symm) (hnn' hn5) (by omega) hb02.size ?_; intro v6' w4 h6'' h5'' hne'' hnn'' hb4)
        go_roundw
        case rel => exact ⟨j + 1, by omega, by go_num, by rw [HA.out]; exact h5'', by rw [HB.out, Int.add_zero]; simpa using h6'', fun e => hne'' e.symm, hnn' hn5, hnn'' hn6, hb02.trans hb4⟩
        case measure => simp [intOf]; omega
    · obtain rfl : j = N := by omega
      have hsp := hu_split g K j
      have hlA : (huA g j).length = j := huA_len g j
      have hlB : (huB g K j).length = j := huB_len g K j
      have r5 := h5.own.rd
      have r6 := h6.own.rd
      generalize huA g j = X at *
      generalize huB g K j = Y at *
      obtain ⟨s, hrun, hs2, hs10⟩ := hsp.run hN2 hN3 hK1 hKN
      have hst := hsp.start hN2 hK1 hKN
      have hsr := startR_yes hst
      rw [hsp.last] at hsr
      have hno := start_same X
      have hnr := startR_no hno
      have hfd := hsp.first (by omega)
      have hpr := hsp.probe hN2 hN3
      have hnl := narrow_low j
      have hRun := fun {W : World} {v v' : Value} (r : RdI W v X) (r' : RdI W v' Y) => runHunt_impl r r' (by omega) (by omega)
      have hSta := fun {W : World} {v v' : Value} (r : RdI W v X) (r' : RdI W v' Y) => start_impl r r' (by omega) (by omega)
      have hSame := fun {W : World} {v v' : Value} (r : RdI W v X) (r' : RdI W v' X) => start_impl r r' (by omega) (by omega)
      have hFir := fun {W : World} {v v' : Value} (r : RdI W v X) (r' : RdI W v' Y) => first_implB r r' (by omega) (by omega)
      have hAgr := fun {W : World} {v v' : Value} (r : RdI W v X) (r' : RdI W v' Y) (t : Int) => agree_implB r r' (by omega) (by omega) t
      obtain ⟨q, hq⟩ : ∃ q : Hu, q = ⟨0, (j : Int) - 1, 2⟩ := ⟨_, rfl⟩
      rw [← hq] at hsr hpr hnl
      have hql : q.high = (j : Int) - 1 := by rw [hq]
      have fq : q.fits := by rw [hq]; exact ⟨rfl, fits_mk (by dsimp only; omega) (by dsimp only; omega), rfl⟩
      have hPro := fun W => probe_impl q W
      have hNar := fun W => narrow_impl q fq false W
      simp only [hrun] at hRun
      simp only [hst, hsr] at hSta
      simp only [hno, hnr] at hSame
      simp only [hfd] at hFir
      obtain ⟨z, hz⟩ : ∃ z, z = narR q false := ⟨_, rfl⟩
      simp only [← hz] at hNar hnl
      unfold huV at hSta hSame hPro hNar
      obtain ⟨t, ht⟩ : ∃ t, t = probeI q := ⟨_, rfl⟩
      simp only [← ht] at hPro hpr
      have HQL := Lib.hid hql
      have HNL := Lib.hid hnl
      clear hrun hst hsr hno hnr hfd hq hz ht hsp hlA hlB hql hnl
      obtain ⟨a5, c5, rfl, -⟩ := id r5
      obtain ⟨a6, c6, rfl, -⟩ := id r6
      go_wp2_with (fail)
      refine (hRun r5 r6).mono ?_
      rintro e w1 ⟨rfl, b1⟩
      have q1 := hbel.trans (b1.mono hsz)
      have r5 := r5.keep b1
      have r6 := r6.keep b1
      go_wp2_with (fail)
      refine (hSta r5 r6).mono ?_
      rintro e w2 ⟨rfl, b2⟩
      have q2 := q1.trans (b2.mono q1.size)
      have r5 := r5.keep b2
      have r6 := r6.keep b2
      obtain ⟨W3, hW3, hA3, b3⟩ : ∃ W, w2.alloc (.cells #[.int .i64 q.low, .int .i64 q.high, .int .i64 q.steps] 30) = W ∧ W.heap[w2.heap.size]? = some (.cells #[.int .i64 q.low, .int .i64 q.high, .int .i64 q.steps] 30 (0, 0)) ∧ Below w2.heap.size w2 W := ⟨_, rfl, heap_alloc_new _ _, below1 _ _⟩
      have q3 := q2.trans (b3.mono q2.size)
      have r5 := r5.keep b3
      have r6 := r6.keep b3
      go_wp2_with (fail)
      try rw [hW3]
      clear hW3
      refine (hSame r5 r5).mono ?_
      rintro e w4 ⟨rfl, b4⟩
      have q4 := q3.trans (b4.mono q3.size)
      have hA4 := keepHeap b4 hA3
      have b5 := below1 w4 (.cells #[.int .i64 0, .int .i64 0, .int .i64 0] 30)
      obtain ⟨W5, hW5⟩ : ∃ W, W = w4.alloc (.cells #[.int .i64 0, .int .i64 0, .int .i64 0] 30) := ⟨_, rfl⟩
      rw [← hW5] at b5
      have q5 := q4.trans (b5.mono q4.size)
      have hA5 := keepHeap b5 hA4
      have cA5 := rowCells hA5
      have r5 := (r5.keep b4).keep b5
      have r6 := (r6.keep b4).keep b5
      go_upto_region 15 with (fail)
      try rw [← hW5]
      clear hW5
      go_wp2_with (fail)
      refine (hPro _).mono ?_
      rintro e w6 ⟨rfl, b6⟩
      have q6 := q5.trans (b6.mono q5.size)
      have hA6 := keepHeap b6 hA5
      have r5 := r5.keep b6
      have r6 := r6.keep b6
      have zs2 : decide (2 ≤ s) = true := by simpa using hs2
      have zs10 : decide (s ≤ 10) = true := by simpa using hs10
      have zh : (q.high == (j : Int) - 1) = true := by rw [HQL.out]; simp
      clear cA5 hA5 hA4 hA3
      go_wp2_with (fail)
      refine (hFir r5 r6).mono ?_
      rintro e w7 ⟨rfl, b7⟩
      have q7 := q6.trans (b7.mono q6.size)
      have hA7 := keepHeap b7 hA6
      have cA7 := rowCells hA7
      have r5 := r5.keep b7
      have r6 := r6.keep b7
      rcases hpr with ht1 | ⟨ht0, htj, htk⟩
      · have z1 : (t == -1) = true := by rw [ht1]; rfl
        clear ht1
        go_wp2_with (fail)
        refine (hNar _).mono ?_
        rintro e w8 ⟨rfl, b8⟩
        have zl : (z.low == 0) = true := by rw [HNL.out]; rfl
        have zf : ∀ W, (Instr.field 30 (.agg #[.int .i64 z.low, .int .i64 z.high, .int .i64 z.steps]) 0).run Try.prog W = .ok (.int .i64 z.low) W := fun W => by rfl
        go_wp2_with (fail)
        go_ret
        exact ⟨rfl, q7.trans (b8.mono q7.size)⟩
      · have z1 : (t == -1) = false := by simp; omega
        have hAg := hAgr r5 r6 t
        rw [htk] at hAg
        clear htk
        obtain ⟨bb, hbb⟩ : ∃ bb, bb = decide (t < (K : Int)) := ⟨_, rfl⟩
        rw [← hbb] at hAg
        have zb : decide (t < (K : Int)) = bb := hbb.symm
        clear hbb
        go_wp2_with (fail)
        refine hAg.mono ?_
        rintro e w8 ⟨rfl, b8⟩
        have q8 := q7.trans (b8.mono q7.size)
        have hA8 := keepHeap b8 hA7
        have cA8 := rowCells hA8
        clear cA7
        go_wp2_with (fail)
        refine (hNar _).mono ?_
        rintro e w9 ⟨rfl, b9⟩
        have zl : (z.low == 0) = true := by rw [HNL.out]; rfl
        have zf : ∀ W, (Instr.field 30 (.agg #[.int .i64 z.low, .int .i64 z.high, .int .i64 z.steps]) 0).run Try.prog W = .ok (.int .i64 z.low) W := fun W => by rfl
        go_wp2_with (fail)
        go_ret
        exact ⟨rfl, q8.trans (b9.mono q8.size)⟩
end Go.Proofs.Ytikaiimafliceaa
