/-
  RunHunt of the program (a closure over both lists, a goto) and of the model; the law. Lists of at most 2^20.
-/
import Derived.Test.YtikaiimafliceaaStartH
import Derived.Deep.RegionHeld3
import Derived.WalkMore
import Derived.Deep.RegionWith
import Derived.ScopeJumps
namespace Go.Proofs.Ytikaiimafliceaa
open Go.RowKit Go.Joins Go.ChangeShapes Go.WideShapes Go.Deep
set_option linter.all false
/-- What the closure knows: the boxes of the two lists. -/
def ClR (w : World) (b2 b3 : Nat) (xs ys : List Int) : Prop := ∃ v v', w.heap[b2]? = some (.cells #[v] 25 (0, 0)) ∧ w.heap[b3]? = some (.cells #[v'] 25 (0, 0)) ∧ RdI w v xs ∧ RdI w v' ys
theorem ClR.keep {w w' : World} {b2 b3 : Nat} {xs ys : List Int} (h : ClR w b2 b3 xs ys) (hb : Below w.heap.size w w') : ClR w' b2 b3 xs ys := by
  obtain ⟨v, v', h1, h2, h3, h4⟩ := h
  exact ⟨v, v', keepHeap hb h1, keepHeap hb h2, h3.keep hb, h4.keep hb⟩
set_option maxHeartbeats 1000000 in
theorem closure_any {w : World} {b2 b3 : Nat} {xs ys : List Int} (h : ClR w b2 b3 xs ys) (hx : xs.length ≤ 1048576) (hy : ys.length ≤ 1048576) (k : Int) :
    Calls Try.prog 36 #[.int .i64 k, .pointer (some ⟨b2, 0, none⟩), .pointer (some ⟨b3, 0, none⟩)] w fun e w' => e = .returned (.bool (agreeB xs ys k)) ∧ ∃ n, w' = w.drewN n := by
  obtain ⟨v, v', h1, h2, r1, r2⟩ := h
  have hS := agree_impl r1 r2 hx hy k
  obtain ⟨a, cap, rfl, -⟩ := id r1
  obtain ⟨a', cap', rfl, -⟩ := id r2
  have c1 := rowCells h1 0
  have c2 := rowCells h2 0
  go_enter Try.func36, Try.ntmps36
  go_wp2_with (fail)
  refine hS.mono ?_
  rintro e w1 ⟨rfl, n, rfl⟩
  go_wp2_with (fail)
  go_ret
  exact ⟨rfl, _, rfl⟩
theorem scope_from_label {P : Program} {a : Act} {w : World} {Q : Exit → Act → World → Prop} {l : Nat} {rest r' : Code} (J : Act → World → Prop) (μ : Act → World → Nat) (hf : findLabel ((Code.label l).seq rest) l = some r') (hr : r' = Code.skip.seq rest) (h0 : J a w)
    (pass : ∀ a w, J a w → rest.wp P (Exit.jump l (fun a' w' => J a' w' ∧ μ a' w' < μ a w) Q) a w) : (Code.scope ((Code.label l).seq rest)).wp P Q a w := by
  subst hr
  refine wp_scope_jumps l J μ hf (wp_seq (wp_label (wp_mono (pass a w h0) ?_))) (fun a w hJ => wp_seq (wp_skip (pass a w hJ)))
  intro e a' w' h
  cases e with
  | goto l' => exact ⟨h.1, h.2.1⟩
  | _ => exact h
/-- How far the two ends of the hunt in box b lie from one another. -/
def gapOf (w : World) (b : Nat) : Nat := match w.cell? ⟨b, 0, none⟩, w.cell? ⟨b, 1, none⟩ with | some (.int _ lo), some (.int _ hi) => (hi - lo).toNat | _, _ => 0
theorem gapOf_box {w : World} {b : Nat} {q : Hu} {T : TypeId} (h : w.heap[b]? = some (.cells #[.int .i64 q.low, .int .i64 q.high, .int .i64 q.steps] T (0, 0))) : gapOf w b = (q.high - q.low).toNat := by
  unfold gapOf
  rw [rowCells h 0, rowCells h 1]
  rfl
theorem fits_mk {x : Int} (h0 : -9223372036854775808 ≤ x) (h1 : x ≤ 9223372036854775807) : (Lit.int .i64 x).wf = true := by
  simp only [Lit.wf, Bool.and_eq_true, decide_eq_true_eq]; exact ⟨h0, h1⟩
theorem narR_fits {q : Hu} (fq : q.fits) (g : Bool) : (narR q g).fits := by
  cases hB : huntB q with
  | false => unfold narR; rw [hB]; exact fq
  | true =>
    have h1 := huntB_facts hB
    have h2 := probeI_facts hB
    have h3 := fq.2.2
    simp only [Lit.wf, Bool.and_eq_true, decide_eq_true_eq] at h3
    have h4 : -9223372036854775808 ≤ q.steps := h3.1
    have h5 : q.steps ≤ 9223372036854775807 := h3.2
    unfold narR; rw [if_pos hB]
    refine ⟨?_, ?_, ?_⟩
    · cases g <;> exact fits_mk (by simp; omega) (by simp; omega)
    · cases g <;> exact fits_mk (by simp; omega) (by simp; omega)
    · dsimp only; split <;> exact fits_mk (by omega) (by omega)
set_option maxRecDepth 100000 in
set_option maxHeartbeats 8000000 in
theorem hunt_any {w : World} {b2 b3 : Nat} {xs ys : List Int} (h : ClR w b2 b3 xs ys) (hx : xs.length ≤ 1048576) (hy : ys.length ≤ 1048576) (q : Hu) (fq : q.fits) (n : Nat) (hn : (q.high - q.low).toNat ≤ n) :
    Calls Try.prog 35 #[huV q, .func (.func 36) #[] #[.pointer (some ⟨b2, 0, none⟩), .pointer (some ⟨b3, 0, none⟩)]] w fun e w' => e = .returned (huV (runs (agreeB xs ys) n q)) ∧ Below w.heap.size w w' := by
  obtain ⟨R, hR⟩ : ∃ R, R = runs (agreeB xs ys) n q := ⟨_, rfl⟩
  rw [← hR]
  have HR := Lib.hid hR.symm
  clear hR
  unfold huV
  obtain ⟨W0, hW, hA, hP, hB0, hS0⟩ := rows2 w #[.int .i64 q.low, .int .i64 q.high, .int .i64 q.steps] #[.int .i64 0, .int .i64 0, .int .i64 0] 30 30
  go_enter Try.func35, Try.ntmps35
  go_wp2_with (fail)
  try rw [hW]
  clear hW
  refine scope_from_label (fun a' w' => ∃ (m : Nat) (p : Hu) (u5 u6 u7 u8 u9 u10 u11 u12 u13 u14 u15 : Value), a' = { tmps := #[.agg #[.int .i64 q.low, .int .i64 q.high, .int .i64 q.steps], .func (.func 36) #[] #[.pointer (some ⟨b2, 0, none⟩), .pointer (some ⟨b3, 0, none⟩)], .pointer (some ⟨w.heap.size, 0, none⟩), undef, .pointer (some ⟨w.heap.size + 1, 0, none⟩), u5, u6, u7, u8, u9, u10, u11, u12, u13, u14, u15], defers := [] } ∧ w'.heap[w.heap.size]? = some (.cells #[.int .i64 p.low, .int .i64 p.high, .int .i64 p.steps] 30 (0, 0)) ∧ w'.heap[w.heap.size + 1]? = some (.cells #[.int .i64 0, .int .i64 0, .int .i64 0] 30 (0, 0)) ∧ Below w.heap.size w w' ∧ p.fits ∧ (p.high - p.low).toNat ≤ m ∧ Hid (runs (agreeB xs ys) m p = R)) (fun _ w' => gapOf w' w.heap.size) rfl rfl ?_ ?_
  · exact ⟨n, q, _, _, _, _, _, _, _, _, _, _, _, rfl, hA, hP, hB0, fq, hn, HR⟩
  clear hA hP hB0 hS0 HR hn fq
  rintro a' wr ⟨m, p, u5, u6, u7, u8, u9, u10, u11, u12, u13, u14, u15, rfl, hA, hP, hbel, fp, hm, HR⟩
  have hsz := hbel.size
  have hgap := gapOf_box hA
  have cA := rowCells hA
  have hPr := fun W => probe_impl p W
  have hNa := fun g W => narrow_impl p fp g W
  unfold huV at hPr hNa
  rw [hgap]
  have HG := Lib.hid hgap
  clear hgap
  cases hB : huntB p with
  | false =>
    have hR : runs (agreeB xs ys) m p = p := runs_stop _ hB m
    have HE : Hid (R = p) := Lib.hid (by rw [← HR.out, hR])
    have e1 := probeI_no hB
    simp only [e1] at hPr
    clear hB hR e1 hNa
    go_wp2_with (fail)
    refine (hPr _).mono ?_
    rintro e w1 ⟨rfl, hb1⟩
    have hA1 := keepHeap hb1 hA
    have hP1 := keepHeap hb1 hP
    have hb01 := hbel.trans (hb1.mono hsz)
    have cA1 := rowCells hA1
    have cP1 := rowCells hP1
    have fP1 := fun j => frozenHeap hP1 j
    clear cA hA hP hb1
    go_wp2_with (fail)
    simp only [Exit.jump]
    refine bodyPost_ret (results_cell_row rfl _ _ (w.heap.size + 1) 30 #[.int .i64 p.low, .int .i64 p.high, .int .i64 p.steps] (0, 0) ?d ?hp ?hg ?hu ?hd ?hi) rfl ?_
    case hp => rfl
    case hg => exact boxHu_heap hP1 rfl ⟨p.low, p.high, p.steps⟩
    case hu => exact Try.underlying30
    case hd => rfl
    case hi => kernel_rfl
    exact ⟨by rw [HE.out], boxHu_below hb01 (by omega) ⟨p.low, p.high, p.steps⟩⟩
  | true =>
    obtain ⟨m, rfl⟩ : ∃ m', m = m' + 1 := ⟨m - 1, by have := huntB_room hB; omega⟩
    have hst := runs_step (agreeB xs ys) hB m
    have hfa := probeI_facts hB
    have hfb := huntB_facts hB
    have hle := narR_less hB (agreeB xs ys (probeI p))
    have hfi := narR_fits fp (agreeB xs ys (probeI p))
    obtain ⟨t, ht⟩ : ∃ t, t = probeI p := ⟨_, rfl⟩
    rw [← ht] at hPr hst hfa hle hfi
    obtain ⟨g, hg⟩ : ∃ g, g = agreeB xs ys t := ⟨_, rfl⟩
    have hCl := fun {W : World} (h : ClR W b2 b3 xs ys) => closure_any h hx hy t
    rw [← hg] at hst hle hfi hCl
    have hNb := fun W => hNa g W
    obtain ⟨r, hr⟩ : ∃ r, r = narR p g := ⟨_, rfl⟩
    rw [← hr] at hst hle hfi hNb
    have HS : Hid (runs (agreeB xs ys) m r = R) := Lib.hid (by rw [← hst, HR.out])
    have ht0 : 0 ≤ t := by omega
    have ht1 : t ≤ 1000000 := by omega
    have z1 : (t == -1) = false := by simp; omega
    have hm2 : (r.high - r.low).toNat ≤ m := by omega
    have hm3 : (r.high - r.low).toNat < (p.high - p.low).toNat := by omega
    have HM := Lib.hid hm2
    have HM3 := Lib.hid hm3
    have hcl := h.keep hbel
    clear hB hst hfa hfb hle ht hg hr hNa HR hm hm2 hm3
    go_wp2_with (fail)
    refine (hPr _).mono ?_
    rintro e w1 ⟨rfl, hb1⟩
    have hA1 := keepHeap hb1 hA
    have hP1 := keepHeap hb1 hP
    have hb01 := hbel.trans (hb1.mono hsz)
    have hcl1 := hcl.keep hb1
    have cA1 := rowCells hA1
    have hs1 := hb01.size
    clear cA hA hP hb1 hcl hPr
    go_wp2_with (fail)
    go_region_with
      (first
        | (go_at_call 36; refine (hCl (hcl1.keep (belowDrew _ 1))).mono ?_; rintro e w2 ⟨rfl, n2, rfl⟩; have hb2 := belowDrew w1 (1 + n2); have cA2 : ∀ j, (w1.drewN (1 + n2)).cell? ⟨w.heap.size, j, none⟩ = #[Value.int .i64 p.low, Value.int .i64 p.high, Value.int .i64 p.steps][j]? := cA1)
        | (go_at_call 19; refine (hNb _).mono ?_; rintro e w3 ⟨rfl, hb3⟩; have hA3 := keepHeap hb3 (keepHeap hb2 hA1); have hP3 := keepHeap hb3 (keepHeap hb2 hP1); have hb03 := (hb01.trans (hb2.mono hs1)).trans (hb3.mono (by simpa using hs1)); have cA3 := rowCells hA3; have fA3 := fun j => frozenHeap hA3 j))
    all_goals
      go_wp2_with (fail)
      go_step3
      have hbx := boxHu_heap hA3 rfl r
      have hgp := gapOf_box hbx
      refine ⟨rfl, ⟨m, r, _, _, _, _, _, _, _, _, _, _, _, rfl, hbx, boxHu_far hP3 (by omega) r, boxHu_below hb03 (Nat.le_refl _) r, hfi, HM.out, HS⟩, ?_⟩
      show gapOf (boxHu w3 w.heap.size r) w.heap.size < _
      rw [hgp]; exact HM3.out
set_option maxRecDepth 100000 in
set_option maxHeartbeats 4000000 in
theorem runHunt_impl {w : World} {v v' : Value} {xs ys : List Int} (h : RdI w v xs) (h' : RdI w v' ys) (hx : xs.length ≤ 1048576) (hy : ys.length ≤ 1048576) :
    Calls Try.prog 14 #[v, v'] w fun e w' => e = .returned (.tuple #[.int .i64 (runR xs ys).1, .int .i64 (runR xs ys).2]) ∧ Below w.heap.size w w' := by
  obtain ⟨W0, hW, hA, hP, hB0, hS0⟩ := rows2 w #[v] #[v'] 25 25
  have hr := h.keep hB0
  have hr' := h'.keep hB0
  have hS := start_impl hr hr' hx hy
  have hCl : ClR W0 w.heap.size (w.heap.size + 1) xs ys := ⟨v, v', hA, hP, hr, hr'⟩
  have hle := lastI_le xs ys
  have hlr := lastI_range hx hy
  obtain ⟨a, cap, rfl, -⟩ := id h
  obtain ⟨a', cap', rfl, -⟩ := id h'
  have cA := rowCells hA
  have cP := rowCells hP
  obtain ⟨q, hq⟩ : ∃ q, q = startR xs ys := ⟨_, rfl⟩
  rw [← hq] at hS
  unfold huV at hS
  go_enter Try.func14, Try.ntmps14
  go_wp2_with (fail)
  try rw [hW]
  clear hW
  refine hS.mono ?_
  rintro e w1 ⟨rfl, hb1⟩
  have hb01 := hB0.trans (hb1.mono hB0.size)
  have hcl1 := hCl.keep hb1
  clear cA cP hA hP hCl hS hr hr'
  cases hs : startB xs ys with
  | false =>
    have HF : Hid (runR xs ys = (-1, 0)) := Lib.hid (by unfold runR; rw [hs]; rfl)
    clear hs
    go_wp2_with (fail)
    go_ret2
    exact ⟨by rw [HF.out]; rfl, hb01.alloc hb01.size _⟩
  | true =>
    have hqe : q = ⟨0, lastI xs ys, 2⟩ := by rw [hq, startR_yes hs]
    have fq : q.fits := by rw [hqe]; exact ⟨rfl, fits_mk (by dsimp only; omega) (by dsimp only; omega), rfl⟩
    have hn : (q.high - q.low).toNat ≤ xs.length := by rw [hqe]; dsimp only; omega
    obtain ⟨r, hr⟩ : ∃ r, r = runs (agreeB xs ys) xs.length q := ⟨_, rfl⟩
    have HF : Hid (runR xs ys = (r.high, r.steps)) := Lib.hid (by unfold runR; rw [if_pos hs, ← hq, ← hr])
    have hH := fun {W : World} (hc : ClR W w.heap.size (w.heap.size + 1) xs ys) => hunt_any hc hx hy q fq xs.length hn
    rw [← hr] at hH
    unfold huV at hH
    clear hs hq hqe hr hn
    obtain ⟨W2, hW2, hG, hb2⟩ : ∃ W, w1.alloc (.cells #[.int .i64 q.low, .int .i64 q.high, .int .i64 q.steps] 30) = W ∧ W.heap[w1.heap.size]? = some (.cells #[.int .i64 q.low, .int .i64 q.high, .int .i64 q.steps] 30 (0, 0)) ∧ Below w1.heap.size w1 W := ⟨_, rfl, heap_alloc_new _ _, below1 _ _⟩
    have cG := rowCells hG
    have hb02 := hb01.trans (hb2.mono hb01.size)
    have hcl2 := hcl1.keep hb2
    go_wp2_with (fail)
    try rw [hW2]
    clear hW2
    refine (hH hcl2).mono ?_
    rintro e w3 ⟨rfl, hb3⟩
    have hG3 := keepHeap hb3 hG
    have cG3 := rowCells hG3
    have fG3 := fun j => frozenHeap hG3 j
    have hb03 := hb02.trans (hb3.mono hb02.size)
    clear cG hG
    go_upto_region 5 with (fail)
    have hG4 := boxHu_heap hG3 rfl r
    have hb04 := boxHu_below hb03 hb01.size r
    obtain ⟨W4, hW4⟩ : ∃ W4, W4 = boxHu w3 w1.heap.size r := ⟨_, rfl⟩
    rw [← hW4] at hG4 hb04
    unfold boxHu at hW4
    rw [← hW4]
    clear hW4 cG3 fG3 hG3
    have cG4 := rowCells hG4
    go_quiet (fail)
    go_wp2_with (fail)
    go_ret2
    exact ⟨by rw [HF.out]; rfl, below_drewN hb04 _⟩
set_option maxRecDepth 100000 in
set_option maxHeartbeats 8000000 in
theorem runHunt_spec {w : World} {v v' : Value} {xs ys : List Int} (h : RdI w v xs) (h' : RdI w v' ys) (hx : xs.length ≤ 1048576) (hy : ys.length ≤ 1048576) :
    Calls Try.prog 29 #[v, v'] w fun e w' => e = .returned (.tuple #[.int .i64 (runR xs ys).1, .int .i64 (runR xs ys).2]) ∧ Below w.heap.size w w' := by
  have hS := start_spec h h' hx hy
  have hle := lastI_le xs ys
  have hlr := lastI_range hx hy
  obtain ⟨a, cap, rfl, -⟩ := id h
  obtain ⟨a', cap', rfl, -⟩ := id h'
  obtain ⟨q, hq⟩ : ∃ q, q = startR xs ys := ⟨_, rfl⟩
  rw [← hq] at hS
  unfold huV at hS
  go_enter Try.func29, Try.ntmps29
  go_wp2_with (fail)
  refine hS.mono ?_
  rintro e w1 ⟨rfl, hb1⟩
  clear hS
  cases hs : startB xs ys with
  | false =>
    have HF : Hid (runR xs ys = (-1, 0)) := Lib.hid (by unfold runR; rw [hs]; rfl)
    clear hs
    go_wp2_with (fail)
    go_ret2
    exact ⟨by rw [HF.out]; rfl, hb1.alloc hb1.size _⟩
  | true =>
    have hqe : q = ⟨0, lastI xs ys, 2⟩ := by rw [hq, startR_yes hs]
    have fq : q.fits := by rw [hqe]; exact ⟨rfl, fits_mk (by dsimp only; omega) (by dsimp only; omega), rfl⟩
    have hn : (q.high - q.low).toNat ≤ xs.length := by rw [hqe]; dsimp only; omega
    obtain ⟨R, hr⟩ : ∃ r, r = runs (agreeB xs ys) xs.length q := ⟨_, rfl⟩
    have HF : Hid (runR xs ys = (R.high, R.steps)) := Lib.hid (by unfold runR; rw [if_pos hs, ← hq, ← hr])
    have HR0 := Lib.hid hr.symm
    clear hs hq hqe hr
    obtain ⟨W2, hW2, hG, hb2⟩ : ∃ W, w1.alloc (.cells #[.int .i64 q.low, .int .i64 q.high, .int .i64 q.steps] 30) = W ∧ W.heap[w1.heap.size]? = some (.cells #[.int .i64 q.low, .int .i64 q.high, .int .i64 q.steps] 30 (0, 0)) ∧ Below w1.heap.size w1 W := ⟨_, rfl, heap_alloc_new _ _, below1 _ _⟩
    have hb02 := hb1.trans (hb2.mono hb1.size)
    have hs1 := hb1.size
    go_wp2_with (fail)
    try rw [hW2]
    clear hW2
    go_loopw [] (fun wr => ∃ (m : Nat) (p : Hu), wr.heap[w1.heap.size]? = some (.cells #[.int .i64 p.low, .int .i64 p.high, .int .i64 p.steps] 30 (0, 0)) ∧ Below w.heap.size w wr ∧ p.fits ∧ (p.high - p.low).toNat ≤ m ∧ Hid (runs (agreeB xs ys) m p = R)) (fun wr => gapOf wr w1.heap.size)
    case atStart => exact ⟨xs.length, q, hG, hb02, fq, hn, HR0⟩
    case round =>
      clear fq hn HR0 hG hb02
      obtain ⟨m, p, hA, hbel, fp, hm, HR⟩ := hrel
      have hsz := hbel.size
      have hB1 : w1.heap.size < wr.heap.size := (Array.getElem?_eq_some_iff.1 hA).1
      have hgap := gapOf_box hA
      have cA := rowCells hA
      have hPr := fun W => probe_spec p fp W
      have hNa := fun g W => narrow_spec p fp g W
      unfold huV at hPr hNa
      have HG := Lib.hid hgap
      clear hgap
      cases hB : huntB p with
      | false =>
        have hR : runs (agreeB xs ys) m p = p := runs_stop _ hB m
        have HE : Hid (R = p) := Lib.hid (by rw [← HR.out, hR])
        have e1 := probeI_no hB
        simp only [e1] at hPr
        clear hB hR e1 hNa
        go_wp2_with (fail)
        refine (hPr _).mono ?_
        rintro e w2 ⟨rfl, hb2⟩
        have hA2 := keepHeap hb2 hA
        have hb02 := hbel.trans (hb2.mono hsz)
        have cA2 := rowCells hA2
        clear cA hA hb2
        go_upto_region 6 with (fail)
        go_quiet (fail)
        go_wp2_with (fail)
        go_ret2
        exact ⟨by rw [HF.out, HE.out]; rfl, below_drewN hb02 _⟩
      | true =>
        obtain ⟨m, rfl⟩ : ∃ m', m = m' + 1 := ⟨m - 1, by have := huntB_room hB; omega⟩
        have hst := runs_step (agreeB xs ys) hB m
        have hfa := probeI_facts hB
        have hfb := huntB_facts hB
        have hle2 := narR_less hB (agreeB xs ys (probeI p))
        have hfi := narR_fits fp (agreeB xs ys (probeI p))
        obtain ⟨t, ht⟩ : ∃ t, t = probeI p := ⟨_, rfl⟩
        rw [← ht] at hPr hst hfa hle2 hfi
        obtain ⟨g, hg⟩ : ∃ g, g = agreeB xs ys t := ⟨_, rfl⟩
        have hAg := fun {W : World} (r : RdI W (.slice a xs.length cap) xs) (r' : RdI W (.slice a' ys.length cap') ys) => agree_spec r r' hx hy t
        rw [← hg] at hst hle2 hfi hAg
        have hNb := fun W => hNa g W
        obtain ⟨r, hr⟩ : ∃ r, r = narR p g := ⟨_, rfl⟩
        rw [← hr] at hst hle2 hfi hNb
        have HS : Hid (runs (agreeB xs ys) m r = R) := Lib.hid (by rw [← hst, HR.out])
        have ht0 : 0 ≤ t := by omega
        have ht1 : t ≤ 1000000 := by omega
        have z1 : decide (0 ≤ t) = true := by simp; omega
        have HM : Hid ((r.high - r.low).toNat ≤ m) := Lib.hid (by omega)
        have HM3 : Hid ((r.high - r.low).toNat < (p.high - p.low).toNat) := Lib.hid (by omega)
        clear hB hst hfa hfb hle2 ht hg hr hNa HR
        go_wp2_with (fail)
        refine (hPr _).mono ?_
        rintro e w2 ⟨rfl, hb2⟩
        have hA2 := keepHeap hb2 hA
        have hb02 := hbel.trans (hb2.mono hsz)
        have cA2 := rowCells hA2
        have hs2 := hb02.size
        have hd2 := belowDrew w2 1
        have cD2 : ∀ j, (w2.drewN 1).cell? ⟨w1.heap.size, j, none⟩ = #[Value.int .i64 p.low, Value.int .i64 p.high, Value.int .i64 p.steps][j]? := cA2
        clear cA hA hb2
        go_wp2_with (fail)
        go_region_with
          (first
            | (go_at_call 26; refine (hPr _).mono ?_; rintro e w3 ⟨rfl, hb3⟩; have hA3 := keepHeap hb3 (keepHeap hd2 hA2); have hb03 := (hb02.trans (hd2.mono hs2)).trans (hb3.mono (by simpa using hs2)); have cA3 := rowCells hA3; have hr3 := h.keep hb03; have hr3' := h'.keep hb03)
            | (go_at_call 20; refine (hAg hr3 hr3').mono ?_; rintro e w4 ⟨rfl, n4, rfl⟩; have hb4 := belowDrew w3 n4; have hA4 := keepHeap hb4 hA3; have hb04 := hb03.trans (hb4.mono hb03.size); have cA4 := rowCells hA4)
            | (go_at_call 28; refine (hNb _).mono ?_; rintro e w5 ⟨rfl, hb5⟩; have hA5 := keepHeap hb5 hA4; have hb05 := hb04.trans (hb5.mono hb04.size); have cA5 := rowCells hA5; have fA5 := fun j => frozenHeap hA5 j))
        all_goals
          have hbx := boxHu_heap hA5 rfl r
          have hgp := gapOf_box hbx
          have hbz := boxHu_below hb05 hs1 r
          unfold boxHu at hbx hgp hbz
          go_wp2_with (fail)
          go_roundw
          case rel => exact ⟨m, r, hbx, hbz, hfi, HM.out, HS⟩
          case measure => rw [hgp, HG.out]; exact HM3.out
set_option maxHeartbeats 2000000 in
theorem lawRunHunt {w : World} (a : Option Addr) (len cap : Nat) (zs : List Int) (hr : IsRow .i64 w a len cap zs) (a' : Option Addr) (len' cap' : Nat) (zs' : List Int) (hr' : IsRow .i64 w a' len' cap' zs') :
    Calls Try.prog 9 #[.slice a len cap, .slice a' len' cap'] w fun e w' => e = .returned (.bool true) ∧ Below w.heap.size w w' := by
  obtain ⟨hrd, hl, _⟩ := RdI.of_row hr
  obtain ⟨hrd', hl', _⟩ := RdI.of_row hr'
  have hm : len ≤ maxLen := by
    rcases hr with ⟨_, rfl, _⟩ | ⟨x, _, h1, h2, _⟩
    · exact Nat.zero_le _
    · exact Nat.le_trans h1 h2
  have hm' : len' ≤ maxLen := by
    rcases hr' with ⟨_, rfl, _⟩ | ⟨x, _, h1, h2, _⟩
    · exact Nat.zero_le _
    · exact Nat.le_trans h1 h2
  unfold maxLen at hm hm'
  clear hr hr'
  by_cases h : 1048576 < len
  · go_enter Try.func9, Try.ntmps9
    go_wp2_with (fail)
    go_ret
    exact ⟨rfl, Below.refl _ _⟩
  have hle : (len : Int) ≤ 1048576 := by omega
  by_cases h' : 1048576 < len'
  · go_enter Try.func9, Try.ntmps9
    go_wp2_with (fail)
    go_ret
    exact ⟨rfl, Below.refl _ _⟩
  have hle' : (len' : Int) ≤ 1048576 := by omega
  generalize zs.take len = xs at hrd hl
  generalize zs'.take len' = ys at hrd' hl'
  have hx : xs.length ≤ 1048576 := by omega
  have hy : ys.length ≤ 1048576 := by omega
  have hn : xs.length ≤ 1099511627776 := by omega
  have hn' : ys.length ≤ 1099511627776 := by omega
  have HL := Lib.hid hl
  have HL' := Lib.hid hl'
  clear hl hl' h h' hm hm'
  have hSP := fun {W : World} {v v' : Value} (r : RdI W v xs) (r' : RdI W v' ys) => runHunt_spec r r' hx hy
  have hIM := fun {W : World} {v v' : Value} (r : RdI W v xs) (r' : RdI W v' ys) => runHunt_impl r r' hx hy
  generalize runR xs ys = rr at hSP hIM
  obtain ⟨k1, k2⟩ := rr
  dsimp only at hSP hIM
  go_enter Try.func9, Try.ntmps9
  go_wp2_with (fail)
  refine (toIntS_any hrd hn).mono ?_
  rintro e w1 ⟨v1, rfl, r1, b1⟩
  go_wp2_with (fail)
  have q1 := b1
  refine (toIntS_any (hrd'.keep q1) hn').mono ?_
  rintro e w2 ⟨v2, rfl, r2, b2⟩
  have q2 := q1.trans (b2.mono q1.size)
  have r1' := r1.keep b2
  go_wp2_with (fail)
  refine (hSP r1' r2).mono ?_
  rintro e w3 ⟨rfl, b3⟩
  have q3 := q2.trans (b3.mono q2.size)
  clear r1 r1' r2 b1 b2 b3 q1 q2
  go_wp2_with (fail)
  refine (toIntS_any (hrd.keep q3) hn).mono ?_
  rintro e w4 ⟨v4, rfl, r4, b4⟩
  have q4 := q3.trans (b4.mono q3.size)
  go_wp2_with (fail)
  refine (toIntS_any (hrd'.keep q4) hn').mono ?_
  rintro e w5 ⟨v5, rfl, r5, b5⟩
  have q5 := q4.trans (b5.mono q4.size)
  have r4 := r4.keep b5
  go_wp2_with (fail)
  refine (hIM r4 r5).mono ?_
  rintro e w6 ⟨rfl, b6⟩
  have q6 := q5.trans (b6.mono q5.size)
  have r4 := r4.keep b6
  have r5 := r5.keep b6
  go_wp2_with (fail)
  refine (toIntS_any (hrd.keep q6) hn).mono ?_
  rintro e w7 ⟨v7, rfl, r7, b7⟩
  have q7 := q6.trans (b7.mono q6.size)
  go_wp2_with (fail)
  refine (eqIntS_same (r4.keep b7) r7 hn).mono ?_
  rintro e w8 ⟨rfl, n8, rfl⟩
  have q8 := below_drewN q7 n8
  have r5 : RdI (w7.drewN n8) v5 ys := (r5.keep b7).keep (belowDrew _ _)
  go_wp2_with (fail)
  refine (toIntS_any (hrd'.keep q8) hn').mono ?_
  rintro e w9 ⟨v9, rfl, r9, b9⟩
  have q9 := q8.trans (b9.mono q8.size)
  go_wp2_with (fail)
  refine (eqIntS_same (r5.keep b9) r9 hn').mono ?_
  rintro e w10 ⟨rfl, n10, rfl⟩
  go_wp2_with (fail)
  go_ret
  exact ⟨rfl, below_drewN q9 _⟩
end Go.Proofs.Ytikaiimafliceaa
