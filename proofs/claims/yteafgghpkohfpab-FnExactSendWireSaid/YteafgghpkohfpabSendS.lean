/-
  SendWire of the model. Lists of at most 2^20.
-/
import Derived.Test.YteafgghpkohfpabSendW
namespace Go.Proofs.Yteafgghpkohfpab
open Go.RowKit
set_option linter.all false
theorem launchX_same (x : Wi) (d : List UInt8) : (launchX x d).jitter = x.jitter ∧ (launchX x d).delay = x.delay ∧ (launchX x d).now = x.now ∧ (launchX x d).damage = x.damage := by
  unfold launchX; split <;> exact ⟨rfl, rfl, rfl, rfl⟩
theorem iterL_same (x : Wi) (d : List UInt8) : ∀ k, (iterL x d k).jitter = x.jitter ∧ (iterL x d k).delay = x.delay ∧ (iterL x d k).now = x.now ∧ (iterL x d k).damage = x.damage
  | 0 => ⟨rfl, rfl, rfl, rfl⟩
  | k + 1 => by
    have h := launchX_same (iterL x d k) d
    have h2 := iterL_same x d k
    exact ⟨h.1.trans h2.1, h.2.1.trans h2.2.1, h.2.2.1.trans h2.2.2.1, h.2.2.2.trans h2.2.2.2⟩
theorem iterL_next (x : Wi) (d : List UInt8) {n m : Nat} (h : m + 1 ≤ n) : iterL x d (n - m) = launchX (iterL x d (n - (m + 1))) d := by
  rw [show n - m = (n - (m + 1)) + 1 by omega]; rfl
/-- 'append(v, q)' of one, as the walk meets it; what else there is stays. -/
theorem app_FlG {ops : Array Oper} {rest : List Oper} {o : Oper} {a : Act} {Q : Exit → Act → World → Prop} {W : World} (hgd : o.guard = none) (s x : Operand)
    (ho : o.op = .call { callee := .builtin .append, args := #[s, x], argTypes := #[50, 50] })
    (B : Nat) (v : Value) (X : List Fl) (hs : a.eval s = v) (hown : GrowFl W B v X) (q : Fl) (hx : a.eval x = .slice (some ⟨W.heap.size, 0, none⟩) 1 1)
    (hlen : X.length + 1 ≤ 4194304) (hbase : B ≤ W.heap.size)
    (h : ∀ v' w', GrowFl w' B v' (X ++ [q]) → Below B W w' → (W.alloc (.cells #[.int .i64 q.at0, .string ⟨q.data.toArray⟩] 101)).grownBy w' v.ownBlock → wpList Try.prog ops Q rest (a.put o.dst v') w') : wpList Try.prog ops Q (o :: rest) a (W.alloc (.cells #[.int .i64 q.at0, .string ⟨q.data.toArray⟩] 101)) := by
  obtain ⟨i0, hi, hz0, hz1, hz2⟩ := info_parts info_FlightS
  have hcell : ∀ j u, (flL q)[j]? = some u → (W.alloc (.cells #[.int .i64 q.at0, .string ⟨q.data.toArray⟩] 101)).cell? ((⟨W.heap.size, 0, none⟩ : Addr).add j) = some u := by
    intro j u hj
    rw [Addr.add_lit, Nat.zero_add, World.cell?_alloc_mark]
    simpa [flL] using hj
  have hown2 : GrowFl (W.alloc (.cells #[.int .i64 q.at0, .string ⟨q.data.toArray⟩] 101)) B v X := hown.keep ((Below.refl _ _).alloc (Nat.le_refl _) _) (Nat.le_refl _)
  have hbase2 : B ≤ (W.alloc (.cells #[.int .i64 q.at0, .string ⟨q.data.toArray⟩] 101)).heap.size := by simp; omega
  refine wpList_append_own _ hgd s x 50 ho B 101 i0 (.agg zFl) 2 24 Try.underlying50 hi hz0 hz1 hz2 (by rfl) (by decide) v X.length (X.map flL).flatten hs hown2 ⟨W.heap.size, 0, none⟩ 1 1 (flL q) hx (by rfl) hcell (flL_one q) (by unfold maxLen; omega) (by omega) hbase2 ?_
  intro v' w' hown' hgrow _
  refine h v' w' ?_ (((Below.refl B W).alloc hbase _).trans ((Below.refl B _).grown hgrow hbase2 fun k hk => (World.ownsRow.lt hown2 k hk).1)) hgrow
  unfold GrowFl; rw [List.length_append, List.map_append, List.flatten_append]; simpa using hown'
set_option maxRecDepth 100000 in
set_option maxHeartbeats 16000000 in
theorem send_spec {w : World} {x : Wi} {vf : Value} (h : RdFl w vf x.fls) (hs : x.sane) (hn : x.fls.length ≤ 1048576) (d : List UInt8) (hd : d.length ≤ 1048576) :
    Calls Try.prog 25 #[.agg (wiC x vf), .string ⟨d.toArray⟩] w (RetWi w (sendX x d)) := by
  have h0 := h
  obtain ⟨al, cl, rfl, -⟩ := id h
  have P1 := fun {W : World} {v : Value} (h : RdFl W v x.fls) => copyWire_spec h hn
  have P2 := fun {W : World} {v : Value} (h : RdFl W v x.fls) => wireOk_spec h hs
  unfold RetWiG at P1
  unfold wiC at P1 P2 ⊢
  obtain ⟨W0, hW, hA, hR, hB0, hS0⟩ := rows2 w #[.int .i64 x.seed, .int .i64 x.delay, .int .i64 x.jitter, .int .i64 x.loss, .int .i64 x.copies, .int .i64 x.damage, .int .i64 x.now, .slice al x.fls.length cl, .int .i64 x.sent, .int .i64 x.lost] #[.int .i64 0, .int .i64 0, .int .i64 0, .int .i64 0, .int .i64 0, .int .i64 0, .int .i64 0, .slice none 0 0, .int .i64 0, .int .i64 0] 52 52
  have cA := rowCells hA
  go_enter Try.func25, Try.ntmps25
  go_wp2_with (fail)
  try rw [hW]
  clear hW
  refine (P1 (h0.keep hB0)).mono ?_
  rintro e w1 ⟨v1, rfl, ho1, hb1⟩
  have hb01 := hB0.trans (hb1.mono (by omega))
  obtain ⟨a1, c1, rfl, -⟩ := id ho1.own
  have hs1 := hb1.size
  obtain ⟨W2, hW2, hX2, hb2⟩ : ∃ W, w1.alloc (.cells #[.int .i64 x.seed, .int .i64 x.delay, .int .i64 x.jitter, .int .i64 x.loss, .int .i64 x.copies, .int .i64 x.damage, .int .i64 x.now, .slice a1 x.fls.length c1, .int .i64 x.sent, .int .i64 x.lost] 52) = W ∧ W.heap[w1.heap.size]? = some (.cells (wiC x (.slice a1 x.fls.length c1)) 52 (0, 0)) ∧ Below w1.heap.size w1 W := ⟨_, rfl, heap_alloc_new _ _, below1 _ _⟩
  obtain ⟨p, hp⟩ : ∃ p, p = w1.heap.size := ⟨_, rfl⟩
  rw [← hp] at hX2
  have box2 : BoxW W2 W0.heap.size p x (.slice a1 x.fls.length c1) := ⟨hX2, ho1.keep hb2 (Nat.le_refl _), by omega⟩
  have hB2 := hb1.trans (hb2.mono hs1)
  have hA2 := keepHeap hB2 hA
  have hb02 := hB0.trans (hB2.mono hB0.size)
  have cA2 := rowCells hA2
  have r2 := h0.keep hb02
  clear cA ho1 hb01 hX2
  go_wp2_with (fail)
  try rw [hW2]
  rw [← hp]
  clear hW2
  refine (P2 r2).mono ?_
  rintro e w3 ⟨rfl, hb3⟩
  have box3 := box2.keep hb3
  have hB3 := hB2.trans (hb3.mono hB2.size)
  have hb03 := hB0.trans (hB3.mono hB0.size)
  clear cA2 hA2 hb02 r2 box2 hb2 hb1 hb3 hB2 hp hs1
  cases q : wireB x with
  | false =>
    have HQ : Hid (sendX x d = x) := Lib.hid (send_no1 q)
    clear q
    have hAe := box3.1
    have hGe := box3.2.1
    have hcap := hGe.capd
    unfold wiC at hAe
    have cAe := rowCells hAe
    have hRe : (w3).heap[w.heap.size + 1]? = some (.cells #[.int .i64 0, .int .i64 0, .int .i64 0, .int .i64 0, .int .i64 0, .int .i64 0, .int .i64 0, .slice none 0 0, .int .i64 0, .int .i64 0] 52 (0, 0)) := (hB3.block _ (by omega)).trans hR
    have cRe := rowCells hRe
    have fRe := fun j => frozenHeap hRe j
    go_wp2_with (fail)
    have hP := putWi_heap hRe rfl (x) (.slice a1 (x).fls.length c1)
    have hbP := putWi_below hb03 (c := w.heap.size + 1) (by omega) (x) (.slice a1 (x).fls.length c1)
    have hoP := hGe.put (c := w.heap.size + 1) (by omega) (x) (.slice a1 (x).fls.length c1)
    unfold putWi at hP hbP hoP
    refine bodyPost_ret (results_cell_row rfl _ _ (w.heap.size + 1) 52 (wiC (x) (.slice a1 (x).fls.length c1)) (0, 0) ?qd1 ?qp1 ?qg1 ?qu1 ?qe1 ?qi1) rfl ?_
    case qp1 => rfl
    case qg1 => exact hP
    case qu1 => exact Try.underlying52
    case qe1 => rfl
    case qi1 => kernel_rfl
    refine ⟨.slice a1 (x).fls.length c1, by rw [HQ.out], ?_, hcap, hbP⟩
    rw [HQ.out]
    exact hoP.own.up (by omega)
  | true =>
  have Q := Lib.hid q
  have hsd := Wi.sound_of q
  have hst := (wireB_facts q).2.2.2.2.2.2.2.2.2.1
  clear q
  go_wp2_with (fail)
  refine (in_spec _ _ _ _).mono ?_
  rintro e w4 ⟨rfl, rfl⟩
  cases q2 : inR (d.length : Int) 1 4096 with
  | false =>
    have HQ : Hid (sendX x d = x) := Lib.hid (send_no2 q2)
    clear q2
    have hAe := box3.1
    have hGe := box3.2.1
    have hcap := hGe.capd
    unfold wiC at hAe
    have cAe := rowCells hAe
    have hRe : (w3).heap[w.heap.size + 1]? = some (.cells #[.int .i64 0, .int .i64 0, .int .i64 0, .int .i64 0, .int .i64 0, .int .i64 0, .int .i64 0, .slice none 0 0, .int .i64 0, .int .i64 0] 52 (0, 0)) := (hB3.block _ (by omega)).trans hR
    have cRe := rowCells hRe
    have fRe := fun j => frozenHeap hRe j
    go_wp2_with (fail)
    have hP := putWi_heap hRe rfl (x) (.slice a1 (x).fls.length c1)
    have hbP := putWi_below hb03 (c := w.heap.size + 1) (by omega) (x) (.slice a1 (x).fls.length c1)
    have hoP := hGe.put (c := w.heap.size + 1) (by omega) (x) (.slice a1 (x).fls.length c1)
    unfold putWi at hP hbP hoP
    refine bodyPost_ret (results_cell_row rfl _ _ (w.heap.size + 1) 52 (wiC (x) (.slice a1 (x).fls.length c1)) (0, 0) ?qd1 ?qp1 ?qg1 ?qu1 ?qe1 ?qi1) rfl ?_
    case qp1 => rfl
    case qg1 => exact hP
    case qu1 => exact Try.underlying52
    case qe1 => rfl
    case qi1 => kernel_rfl
    refine ⟨.slice a1 (x).fls.length c1, by rw [HQ.out], ?_, hcap, hbP⟩
    rw [HQ.out]
    exact hoP.own.up (by omega)
  | true =>
  have hd4 := (inR_iff _ _ _).1 q2
  have HK : Hid (sendOk x d = true) := Lib.hid (by unfold sendOk; rw [Q.out, q2]; rfl)
  clear q2
  by_cases hm : x.sent < 1000000
  · have e6 : min (x.sent + 1) 1000000 = x.sent + 1 := Int.min_eq_left (by omega)
    have HSX : Hid (sentX x = { x with sent := (x.sent + 1) }) := Lib.hid (by unfold sentX; rw [e6])
    have box4 := box3.set (y := { x with sent := (x.sent + 1) }) 8 (.int .i64 (x.sent + 1)) rfl rfl
    have hB4 := hB3.setCell (p := ⟨p, 8, none⟩) box3.2.2 (.int .i64 (x.sent + 1))
    have hbp := box3.2.2
    have hA3 := box3.1
    unfold wiC at hA3
    have cA3 := rowCells hA3
    have fA3 := fun j => frozenHeap hA3 j
    clear box3 hb03
    go_upto_region 5 with (fail)
    generalize w3.setCell ⟨p, 8, none⟩ (.int .i64 (x.sent + 1)) = W4 at *
    clear hA3 cA3 fA3 hB3
    have hPA4 := keepHeap hB4 hA
    have cP4 := rowCells hPA4
    have hCh := fun W => chance_spec x.seed x.loss W
    generalize hr : chanceR x.seed x.loss = r at hCh
    obtain ⟨s1, b1⟩ := r
    have HR1 := Lib.hid hr
    clear hr
    dsimp only at hCh
    go_wp2_with (fail)
    refine (hCh _).mono ?_
    rintro e w9 ⟨rfl, k9, rfl⟩
    have box5 := box4.drewN k9
    have hB5 := below_drewN hB4 k9
    clear cP4 hPA4 box4 hB4 hCh
    generalize W4.drewN k9 = W5 at *
    have box6 : BoxW (W5.setCell ⟨p, 0, none⟩ (.int .i64 s1)) W0.heap.size p { x with sent := (x.sent + 1), seed := s1 } _ := box5.set (y := { x with sent := (x.sent + 1), seed := s1 }) 0 (.int .i64 s1) rfl rfl
    have hB6 := hB5.setCell (p := ⟨p, 0, none⟩) hbp (.int .i64 s1)
    have hA5 := box5.1
    unfold wiC at hA5
    dsimp only at hA5
    have cA5 := rowCells hA5
    have fA5 := fun j => frozenHeap hA5 j
    clear box5
    go_upto_region 7 with (fail)
    generalize W5.setCell ⟨p, 0, none⟩ (.int .i64 s1) = W6 at *
    clear hA5 cA5 fA5 hB5
    have hA6 := box6.1
    unfold wiC at hA6
    dsimp only at hA6
    have cA6 := rowCells hA6
    have fA6 := fun j => frozenHeap hA6 j
    cases b1 with
    | true =>
      have hx9 := hsd.2.2.2.1
      by_cases hl : x.lost < 1000000
      · have eL : min (x.lost + 1) 1000000 = x.lost + 1 := Int.min_eq_left (by omega)
        have HQ : Hid (sendX x d = { x with sent := (x.sent + 1), seed := s1, lost := (x.lost + 1) }) := Lib.hid (by rw [send_lost HK.out (by rw [HR1.out])]; unfold loseX s1X; rw [HSX.out, HR1.out]; unfold Wi.seeded; dsimp only; rw [eL])
        have box7 : BoxW (W6.setCell ⟨p, 9, none⟩ (.int .i64 (x.lost + 1))) W0.heap.size p { x with sent := (x.sent + 1), seed := s1, lost := (x.lost + 1) } _ := box6.set (y := { x with sent := (x.sent + 1), seed := s1, lost := (x.lost + 1) }) 9 (.int .i64 (x.lost + 1)) rfl rfl
        have hB7 := hB6.setCell (p := ⟨p, 9, none⟩) hbp (.int .i64 (x.lost + 1))
        go_upto_region 9 with (fail)
        generalize W6.setCell ⟨p, 9, none⟩ (.int .i64 (x.lost + 1)) = W7 at *
        clear hA6 cA6 fA6 box6 hB6 eL
        have hb07 := hB0.trans (hB7.mono hB0.size)
        generalize ({ x with sent := (x.sent + 1), seed := s1, lost := (x.lost + 1) } : Wi) = y at *
        generalize Value.slice a1 x.fls.length c1 = v7 at box7
        have hAe := box7.1
        have hGe := box7.2.1
        have hcap := hGe.capd
        obtain ⟨ae, ce, rfl, -⟩ := id hGe.own
        unfold wiC at hAe
        have cAe := rowCells hAe
        have hRe : (W7).heap[w.heap.size + 1]? = some (.cells #[.int .i64 0, .int .i64 0, .int .i64 0, .int .i64 0, .int .i64 0, .int .i64 0, .int .i64 0, .slice none 0 0, .int .i64 0, .int .i64 0] 52 (0, 0)) := (hB7.block _ (by omega)).trans hR
        have cRe := rowCells hRe
        have fRe := fun j => frozenHeap hRe j
        go_wp2_with (fail)
        have hP := putWi_heap hRe rfl (y) (.slice ae (y).fls.length ce)
        have hbP := putWi_below hb07 (c := w.heap.size + 1) (by omega) (y) (.slice ae (y).fls.length ce)
        have hoP := hGe.put (c := w.heap.size + 1) (by omega) (y) (.slice ae (y).fls.length ce)
        unfold putWi at hP hbP hoP
        refine bodyPost_ret (results_cell_row rfl _ _ (w.heap.size + 1) 52 (wiC (y) (.slice ae (y).fls.length ce)) (0, 0) ?qd2 ?qp2 ?qg2 ?qu2 ?qe2 ?qi2) rfl ?_
        case qp2 => rfl
        case qg2 => exact hP
        case qu2 => exact Try.underlying52
        case qe2 => rfl
        case qi2 => kernel_rfl
        refine ⟨.slice ae (y).fls.length ce, by rw [HQ.out], ?_, hcap, hbP⟩
        rw [HQ.out]
        exact hoP.own.up (by omega)
      · have eL : min (x.lost + 1) 1000000 = 1000000 := Int.min_eq_right (by omega)
        have HQ : Hid (sendX x d = { x with sent := (x.sent + 1), seed := s1, lost := 1000000 }) := Lib.hid (by rw [send_lost HK.out (by rw [HR1.out])]; unfold loseX s1X; rw [HSX.out, HR1.out]; unfold Wi.seeded; dsimp only; rw [eL])
        have box7 : BoxW (W6.setCell ⟨p, 9, none⟩ (.int .i64 1000000)) W0.heap.size p { x with sent := (x.sent + 1), seed := s1, lost := 1000000 } _ := box6.set (y := { x with sent := (x.sent + 1), seed := s1, lost := 1000000 }) 9 (.int .i64 1000000) rfl rfl
        have hB7 := hB6.setCell (p := ⟨p, 9, none⟩) hbp (.int .i64 1000000)
        go_upto_region 9 with (fail)
        generalize W6.setCell ⟨p, 9, none⟩ (.int .i64 1000000) = W7 at *
        clear hA6 cA6 fA6 box6 hB6 eL
        have hb07 := hB0.trans (hB7.mono hB0.size)
        generalize ({ x with sent := (x.sent + 1), seed := s1, lost := 1000000 } : Wi) = y at *
        generalize Value.slice a1 x.fls.length c1 = v7 at box7
        have hAe := box7.1
        have hGe := box7.2.1
        have hcap := hGe.capd
        obtain ⟨ae, ce, rfl, -⟩ := id hGe.own
        unfold wiC at hAe
        have cAe := rowCells hAe
        have hRe : (W7).heap[w.heap.size + 1]? = some (.cells #[.int .i64 0, .int .i64 0, .int .i64 0, .int .i64 0, .int .i64 0, .int .i64 0, .int .i64 0, .slice none 0 0, .int .i64 0, .int .i64 0] 52 (0, 0)) := (hB7.block _ (by omega)).trans hR
        have cRe := rowCells hRe
        have fRe := fun j => frozenHeap hRe j
        go_wp2_with (fail)
        have hP := putWi_heap hRe rfl (y) (.slice ae (y).fls.length ce)
        have hbP := putWi_below hb07 (c := w.heap.size + 1) (by omega) (y) (.slice ae (y).fls.length ce)
        have hoP := hGe.put (c := w.heap.size + 1) (by omega) (y) (.slice ae (y).fls.length ce)
        unfold putWi at hP hbP hoP
        refine bodyPost_ret (results_cell_row rfl _ _ (w.heap.size + 1) 52 (wiC (y) (.slice ae (y).fls.length ce)) (0, 0) ?qd3 ?qp3 ?qg3 ?qu3 ?qe3 ?qi3) rfl ?_
        case qp3 => rfl
        case qg3 => exact hP
        case qu3 => exact Try.underlying52
        case qe3 => rfl
        case qi3 => kernel_rfl
        refine ⟨.slice ae (y).fls.length ce, by rw [HQ.out], ?_, hcap, hbP⟩
        rw [HQ.out]
        exact hoP.own.up (by omega)
    | false =>
      have hPA6 := keepHeap hB6 hA
      have cP6 := rowCells hPA6
      have HL : Hid ((chanceR x.seed x.loss).2 = false) := Lib.hid (by rw [HR1.out])
      have hCh := fun W => chance_spec s1 x.copies W
      generalize hr : chanceR s1 x.copies = r at hCh
      obtain ⟨s2, b2⟩ := r
      have HR2 := Lib.hid hr
      clear hr
      dsimp only at hCh
      go_wp2_with (fail)
      refine (hCh _).mono ?_
      rintro e w9 ⟨rfl, k9, rfl⟩
      have box7 := box6.drewN k9
      have hB7 := below_drewN hB6 k9
      clear cP6 hPA6 box6 hB6 hCh hA6 cA6 fA6
      generalize W6.drewN k9 = W7 at *
      have HS2 : Hid (s2X x = { x with sent := (x.sent + 1), seed := s2 }) := Lib.hid (by unfold s2X s1X; rw [HSX.out, HR1.out, HR2.out]; rfl)
      have box8 : BoxW (W7.setCell ⟨p, 0, none⟩ (.int .i64 s2)) W0.heap.size p (s2X x) (.slice a1 x.fls.length c1) := by rw [HS2.out]; exact box7.set (y := { x with sent := (x.sent + 1), seed := s2 }) 0 (.int .i64 s2) rfl rfl
      have hB8 := hB7.setCell (p := ⟨p, 0, none⟩) hbp (.int .i64 s2)
      have hA7 := box7.1
      unfold wiC at hA7
      dsimp only at hA7
      have cA7 := rowCells hA7
      have fA7 := fun j => frozenHeap hA7 j
      clear box7
      go_upto_region 12 with (fail)
      generalize W7.setCell ⟨p, 0, none⟩ (.int .i64 s2) = W8 at *
      clear hA7 cA7 fA7 hB7
      cases b2 with
      | true =>
        have HC : Hid ((chanceR (chanceR x.seed x.loss).1 x.copies).2 = true) := Lib.hid (by rw [HR1.out, HR2.out])
        clear HR1 HR2 HS2
        have HQ : Hid (sendX x d = iterL (s2X x) d 2) := Lib.hid (send_two HK.out HL.out HC.out)
        have hs2 : (s2X x).sound := hsd
        have HSd := Lib.hid (fun k => iterL_sound hs2 d k)
        have HFx := Lib.hid (fun k => iterL_same (s2X x) d k)
        clear HL HC HSX
        go_wp2_with (fail)
        go_loopw [9] (fun i wr => ∃ (m : Nat) (i0 : Int), m ≤ 2 ∧ Hid (i0 = (m : Int)) ∧ i = .int .i64 i0 ∧ ∃ v, BoxW wr W0.heap.size p (iterL (s2X x) d (2 - m)) v ∧ Below W0.heap.size W0 wr) (fun i _ => (intOf i).toNat)
        case atStart => exact ⟨2, _, by omega, Lib.hid rfl, rfl, _, box8, hB8⟩
        case round =>
          obtain ⟨m, i0, hm, HI, rfl, v, box, hbl⟩ := hrel
          have hsy := HSd.out (2 - m)
          have hfy := HFx.out (2 - m)
          cases m with
          | zero =>
            have hb0e := hB0.trans (hbl.mono hB0.size)
            rw [show 2 - 0 = 2 from rfl] at box
            clear hsy hfy
            generalize iterL (s2X x) d 2 = y at *
            have zm : decide (i0 > 0) = false := by have := HI.out; simp; omega
            have hi0 : ¬ i0 > 0 := by have := HI.out; omega
            go_upto_region 26 with (fail)
            have hAe := box.1
            have hGe := box.2.1
            have hcap := hGe.capd
            obtain ⟨ae, ce, rfl, -⟩ := id hGe.own
            unfold wiC at hAe
            have cAe := rowCells hAe
            have hRe : (wr).heap[w.heap.size + 1]? = some (.cells #[.int .i64 0, .int .i64 0, .int .i64 0, .int .i64 0, .int .i64 0, .int .i64 0, .int .i64 0, .slice none 0 0, .int .i64 0, .int .i64 0] 52 (0, 0)) := (hbl.block _ (by omega)).trans hR
            have cRe := rowCells hRe
            have fRe := fun j => frozenHeap hRe j
            go_wp2_with (fail)
            have hP := putWi_heap hRe rfl (y) (.slice ae (y).fls.length ce)
            have hbP := putWi_below hb0e (c := w.heap.size + 1) (by omega) (y) (.slice ae (y).fls.length ce)
            have hoP := hGe.put (c := w.heap.size + 1) (by omega) (y) (.slice ae (y).fls.length ce)
            unfold putWi at hP hbP hoP
            refine bodyPost_ret (results_cell_row rfl _ _ (w.heap.size + 1) 52 (wiC (y) (.slice ae (y).fls.length ce)) (0, 0) ?qd4 ?qp4 ?qg4 ?qu4 ?qe4 ?qi4) rfl ?_
            case qp4 => rfl
            case qg4 => exact hP
            case qu4 => exact Try.underlying52
            case qe4 => rfl
            case qi4 => kernel_rfl
            refine ⟨.slice ae (y).fls.length ce, by rw [HQ.out], ?_, hcap, hbP⟩
            rw [HQ.out]
            exact hoP.own.up (by omega)
          | succ m =>
            have HNX : Hid (iterL (s2X x) d (2 - m) = launchX (iterL (s2X x) d (2 - (m + 1))) d) := Lib.hid (iterL_next _ _ hm)
            generalize iterL (s2X x) d (2 - (m + 1)) = y at *
            have FJ := Lib.hid (show y.jitter = x.jitter ∧ y.delay = x.delay ∧ y.now = x.now ∧ y.damage = x.damage from hfy)
            clear hfy
            obtain ⟨fj, fd, fn, fg⟩ := FJ.out
            have hPA : wr.heap[w.heap.size]? = some (.cells #[.int .i64 x.seed, .int .i64 y.delay, .int .i64 y.jitter, .int .i64 x.loss, .int .i64 x.copies, .int .i64 y.damage, .int .i64 y.now, .slice al x.fls.length cl, .int .i64 x.sent, .int .i64 x.lost] 52 (0, 0)) := by rw [fj, fd, fn, fg]; exact keepHeap hbl hA
            clear fj fd fn fg
            obtain ⟨hx1, hx2, hx3, hx4, hx5⟩ := hsy
            have hbp := box.2.2
            have hLow := fun W => below_spec y.seed (y.jitter + 1) W
            have hn0 := (belowR_any y.seed (y.jitter + 1)).2.2
            rw [show belowR y.seed (y.jitter + 1) = (lchS y, lchN y) from rfl] at hLow hn0
            dsimp only at hLow hn0
            obtain ⟨s1, hS⟩ : ∃ s, s = lchS y := ⟨_, rfl⟩
            obtain ⟨late, hN⟩ : ∃ n, n = lchN y := ⟨_, rfl⟩
            rw [← hN] at hn0
            simp only [← hS, ← hN] at hLow
            have HC : Hid (lchC y = chanceR s1 y.damage) := Lib.hid (by unfold lchC; rw [← hS])
            have HNN : Hid (lchN y = late) := Lib.hid hN.symm
            clear hS hN
            have hB := box.1
            unfold wiC at hB
            have cB := rowCells hB
            have cP := rowCells hPA
            have w1 : IntKind.i64.wrap (y.jitter + 1) = y.jitter + 1 := IntWalk.i64_in _ (by omega)
            have zm : decide (i0 > 0) = true := by have := HI.out; simp; omega
            have hi0 : i0 > 0 := by have := HI.out; omega
            have em : IntKind.i64.wrap (i0 - 1) = i0 - 1 := IntWalk.i64_in _ (by have := HI.out; omega)
            go_wp2_with (fail)
            refine (hLow _).mono ?_
            rintro e w9 ⟨rfl, k9, rfl⟩
            have box1 := box.drewN k9
            have hb1 := below_drewN hbl k9
            have hPA1 : (wr.drewN k9).heap[w.heap.size]? = some (.cells #[.int .i64 x.seed, .int .i64 y.delay, .int .i64 y.jitter, .int .i64 x.loss, .int .i64 x.copies, .int .i64 y.damage, .int .i64 y.now, .slice al x.fls.length cl, .int .i64 x.sent, .int .i64 x.lost] 52 (0, 0)) := hPA
            clear cB cP hB hPA box hbl hLow w1
            generalize wr.drewN k9 = V1 at *
            have cP1 := rowCells hPA1
            have hCh := fun W => chance_spec s1 y.damage W
            generalize chanceR s1 y.damage = r at hCh HC
            obtain ⟨cc, cb⟩ := r
            dsimp only at hCh
            go_wp2_with (fail)
            refine (hCh _).mono ?_
            rintro e w9 ⟨rfl, k9, rfl⟩
            have box2 := box1.drewN k9
            have hb2 := below_drewN hb1 k9
            clear cP1 hPA1 box1 hb1 hCh
            generalize V1.drewN k9 = V2 at *
            cases cb with
            | true =>
              have hSp := fun W => spoilByte_spec cc d W (by omega)
              have HD : Hid (lchD y d = spoilR cc d) := Lib.hid (by unfold lchD; rw [HC.out]; rfl)
              generalize spoilR cc d = r at hSp HD
              obtain ⟨s3, d3⟩ := r
              dsimp only at hSp
              go_wp2_with (fail)
              refine (hSp _).mono ?_
              rintro e V4 ⟨rfl, hb4⟩
              have box4 := box2.keep hb4
              have hb04 := hb2.trans (hb4.mono hb2.size)
              clear box2 hb2 hb4
              have hA4 := box4.1
              unfold wiC at hA4
              have cA4 := rowCells hA4
              have fA4 := fun j => frozenHeap hA4 j
              have box5 : BoxW (V4.setCell ⟨p, 0, none⟩ (.int .i64 s3)) W0.heap.size p (y.seeded s3) v := box4.set (y := y.seeded s3) 0 (.int .i64 s3) rfl rfl
              have hb05 := hb04.setCell (p := ⟨p, 0, none⟩) hbp (.int .i64 s3)
              go_upto_region 23 with (fail)
              generalize V4.setCell ⟨p, 0, none⟩ (.int .i64 s3) = V5 at *
              clear hA4 cA4 fA4 box4 hb04
              obtain ⟨fj, fd, fn, fg⟩ := FJ.out
              have hA6 := box5.1
              unfold wiC Wi.seeded at hA6
              dsimp only at hA6
              have hG6 : GrowFl V5 W0.heap.size v y.fls := box5.2.1
              have hne := box5.ne
              obtain ⟨a3, c3, rfl, -⟩ := id hG6.own
              have cA6 := rowCells hA6
              have fA6 := fun j => frozenHeap hA6 j
              have hPA6 : (V5).heap[w.heap.size]? = some (.cells #[.int .i64 x.seed, .int .i64 y.delay, .int .i64 y.jitter, .int .i64 x.loss, .int .i64 x.copies, .int .i64 y.damage, .int .i64 y.now, .slice al x.fls.length cl, .int .i64 x.sent, .int .i64 x.lost] 52 (0, 0)) := by rw [fj, fd, fn, fg]; exact keepHeap hb05 hA
              clear fj fd fn fg
              have cP6 := rowCells hPA6
              have hp6 : p < (V5).heap.size := (Array.getElem?_eq_some_iff.1 hA6).1
              by_cases hlen : y.fls.length = 200
              · have z2 : ((y.fls.length : Int) == 200) = true := by simp; omega
                have HL : Hid (launchX y d = loseX (y.seeded s3)) := Lib.hid (by unfold launchX; rw [if_pos hlen, HD.out])
                clear hlen
                by_cases hl : y.lost < 1000000
                · have HLL := Lib.hid (show min (y.lost + 1) 1000000 = y.lost + 1 from Int.min_eq_left (by omega))
                  have eL : min (y.lost + 1) 1000000 = y.lost + 1 := HLL.out
                  have nl : ¬ (1000000 < y.lost + 1) := by omega
                  have box7 := box5.set (y := { y.seeded s3 with lost := (y.lost + 1) }) 9 (.int .i64 (y.lost + 1)) rfl rfl
                  have hb7 := (hb05).setCell (p := ⟨p, 9, none⟩) hbp (.int .i64 (y.lost + 1))
                  go_wp2_with (fail)
                  go_roundw
                  case measure => simp [intOf]; omega
                  case rel =>
                      refine ⟨m, i0 - 1, by omega, Lib.hid (by have := HI.out; omega), rfl, .slice a3 y.fls.length c3, ?_, hb7⟩
                      rw [HNX.out, HL.out]
                      unfold loseX
                      rw [show (y.seeded s3).lost = y.lost from rfl, HLL.out]
                      exact box7
                · have HLL := Lib.hid (show min (y.lost + 1) 1000000 = 1000000 from Int.min_eq_right (by omega))
                  have eL : min (y.lost + 1) 1000000 = 1000000 := HLL.out
                  have nl : 1000000 < y.lost + 1 := by omega
                  have nl2 : ¬ (y.lost + 1 < 1000000) := by omega
                  have nl3 : ¬ (y.lost + 1 ≤ 1000000) := by omega
                  have box7 := box5.set (y := { y.seeded s3 with lost := 1000000 }) 9 (.int .i64 1000000) rfl rfl
                  have hb7 := (hb05).setCell (p := ⟨p, 9, none⟩) hbp (.int .i64 1000000)
                  go_wp2_with (fail)
                  go_roundw
                  case measure => simp [intOf]; omega
                  case rel =>
                      refine ⟨m, i0 - 1, by omega, Lib.hid (by have := HI.out; omega), rfl, .slice a3 y.fls.length c3, ?_, hb7⟩
                      rw [HNX.out, HL.out]
                      unfold loseX
                      rw [show (y.seeded s3).lost = y.lost from rfl, HLL.out]
                      exact box7
              · have z2 : ((y.fls.length : Int) == 200) = false := by simp; omega
                have HL : Hid (launchX y d = { y with seed := s3, fls := y.fls ++ [⟨y.now + y.delay + late, d3⟩] }) := Lib.hid (by unfold launchX; rw [if_neg hlen, HD.out, HNN.out])
                have hx6 : y.fls.length ≤ 200 := hx5
                have u1 : IntKind.i64.wrap (y.now + y.delay) = y.now + y.delay := IntWalk.i64_in _ (by omega)
                have u2 : IntKind.i64.wrap (y.now + y.delay + late) = y.now + y.delay + late := IntWalk.i64_in _ (by omega)
                have HO := Lib.hid hG6
                have HN := Lib.hid hne
                have HA := Lib.hid hA6
                have HS := Lib.hid (hb05).size
                clear hG6 hne hlen
                go_wp2_with (at_builtin; refine app_FlG rfl _ _ rfl W0.heap.size _ y.fls rfl HO.out ⟨y.now + y.delay + late, d3⟩ rfl (by omega) (by have := HS.out; omega) ?_; intro v7 w7 hown7 hb7 hg7; obtain ⟨F7, hF7⟩ : ∃ F7, F7 = y.fls ++ [⟨y.now + y.delay + late, d3⟩] := ⟨_, rfl⟩; rw [← hF7] at hown7; have HF7 := Lib.hid hF7; clear hF7; obtain ⟨a7, c7, rfl, -⟩ := id hown7.own; have hA7 := (hg7.block p (by simp; omega) (fun e => HN.out e.symm)).trans (keepHeap (below1 V5 _) HA.out); have cA7 := rowCells hA7; have fA7 := fun j => frozenHeap hA7 j)
                all_goals
                  have hne7 := hown7.notBox hA7 wire_ne_flight
                  have hP := setHf (k := 7) hA7 (v := .slice a7 F7.length c7)
                  have hO := hown7.aside (p := ⟨p, 7, none⟩) hne7 (.slice a7 F7.length c7)
                  have hbE := ((hb05).trans hb7).setCell (p := ⟨p, 7, none⟩) hbp (.slice a7 F7.length c7)
                  go_wp2_with (fail)
                  go_roundw
                  case measure => simp [intOf]; omega
                  case rel =>
                    refine ⟨m, i0 - 1, by omega, Lib.hid (by have := HI.out; omega), rfl, .slice a7 F7.length c7, ?_, hbE⟩
                    rw [HNX.out, HL.out, ← HF7.out]
                    exact ⟨hP, hO, hbp⟩
            | false =>
              have HD : Hid (lchD y d = (cc, d)) := Lib.hid (by unfold lchD; rw [HC.out]; rfl)
              have box4 := box2
              have hb04 := hb2
              clear box2 hb2
              have hA4 := box4.1
              unfold wiC at hA4
              have cA4 := rowCells hA4
              have fA4 := fun j => frozenHeap hA4 j
              have box5 : BoxW (V2.setCell ⟨p, 0, none⟩ (.int .i64 cc)) W0.heap.size p (y.seeded cc) v := box4.set (y := y.seeded cc) 0 (.int .i64 cc) rfl rfl
              have hb05 := hb04.setCell (p := ⟨p, 0, none⟩) hbp (.int .i64 cc)
              go_upto_region 23 with (fail)
              generalize V2.setCell ⟨p, 0, none⟩ (.int .i64 cc) = V5 at *
              clear hA4 cA4 fA4 box4 hb04
              obtain ⟨fj, fd, fn, fg⟩ := FJ.out
              have hA6 := box5.1
              unfold wiC Wi.seeded at hA6
              dsimp only at hA6
              have hG6 : GrowFl V5 W0.heap.size v y.fls := box5.2.1
              have hne := box5.ne
              obtain ⟨a3, c3, rfl, -⟩ := id hG6.own
              have cA6 := rowCells hA6
              have fA6 := fun j => frozenHeap hA6 j
              have hPA6 : (V5).heap[w.heap.size]? = some (.cells #[.int .i64 x.seed, .int .i64 y.delay, .int .i64 y.jitter, .int .i64 x.loss, .int .i64 x.copies, .int .i64 y.damage, .int .i64 y.now, .slice al x.fls.length cl, .int .i64 x.sent, .int .i64 x.lost] 52 (0, 0)) := by rw [fj, fd, fn, fg]; exact keepHeap hb05 hA
              clear fj fd fn fg
              have cP6 := rowCells hPA6
              have hp6 : p < (V5).heap.size := (Array.getElem?_eq_some_iff.1 hA6).1
              by_cases hlen : y.fls.length = 200
              · have z2 : ((y.fls.length : Int) == 200) = true := by simp; omega
                have HL : Hid (launchX y d = loseX (y.seeded cc)) := Lib.hid (by unfold launchX; rw [if_pos hlen, HD.out])
                clear hlen
                by_cases hl : y.lost < 1000000
                · have HLL := Lib.hid (show min (y.lost + 1) 1000000 = y.lost + 1 from Int.min_eq_left (by omega))
                  have eL : min (y.lost + 1) 1000000 = y.lost + 1 := HLL.out
                  have nl : ¬ (1000000 < y.lost + 1) := by omega
                  have box7 := box5.set (y := { y.seeded cc with lost := (y.lost + 1) }) 9 (.int .i64 (y.lost + 1)) rfl rfl
                  have hb7 := (hb05).setCell (p := ⟨p, 9, none⟩) hbp (.int .i64 (y.lost + 1))
                  go_wp2_with (fail)
                  go_roundw
                  case measure => simp [intOf]; omega
                  case rel =>
                      refine ⟨m, i0 - 1, by omega, Lib.hid (by have := HI.out; omega), rfl, .slice a3 y.fls.length c3, ?_, hb7⟩
                      rw [HNX.out, HL.out]
                      unfold loseX
                      rw [show (y.seeded cc).lost = y.lost from rfl, HLL.out]
                      exact box7
                · have HLL := Lib.hid (show min (y.lost + 1) 1000000 = 1000000 from Int.min_eq_right (by omega))
                  have eL : min (y.lost + 1) 1000000 = 1000000 := HLL.out
                  have nl : 1000000 < y.lost + 1 := by omega
                  have nl2 : ¬ (y.lost + 1 < 1000000) := by omega
                  have nl3 : ¬ (y.lost + 1 ≤ 1000000) := by omega
                  have box7 := box5.set (y := { y.seeded cc with lost := 1000000 }) 9 (.int .i64 1000000) rfl rfl
                  have hb7 := (hb05).setCell (p := ⟨p, 9, none⟩) hbp (.int .i64 1000000)
                  go_wp2_with (fail)
                  go_roundw
                  case measure => simp [intOf]; omega
                  case rel =>
                      refine ⟨m, i0 - 1, by omega, Lib.hid (by have := HI.out; omega), rfl, .slice a3 y.fls.length c3, ?_, hb7⟩
                      rw [HNX.out, HL.out]
                      unfold loseX
                      rw [show (y.seeded cc).lost = y.lost from rfl, HLL.out]
                      exact box7
              · have z2 : ((y.fls.length : Int) == 200) = false := by simp; omega
                have HL : Hid (launchX y d = { y with seed := cc, fls := y.fls ++ [⟨y.now + y.delay + late, d⟩] }) := Lib.hid (by unfold launchX; rw [if_neg hlen, HD.out, HNN.out])
                have hx6 : y.fls.length ≤ 200 := hx5
                have u1 : IntKind.i64.wrap (y.now + y.delay) = y.now + y.delay := IntWalk.i64_in _ (by omega)
                have u2 : IntKind.i64.wrap (y.now + y.delay + late) = y.now + y.delay + late := IntWalk.i64_in _ (by omega)
                have HO := Lib.hid hG6
                have HN := Lib.hid hne
                have HA := Lib.hid hA6
                have HS := Lib.hid (hb05).size
                clear hG6 hne hlen
                go_wp2_with (at_builtin; refine app_FlG rfl _ _ rfl W0.heap.size _ y.fls rfl HO.out ⟨y.now + y.delay + late, d⟩ rfl (by omega) (by have := HS.out; omega) ?_; intro v7 w7 hown7 hb7 hg7; obtain ⟨F7, hF7⟩ : ∃ F7, F7 = y.fls ++ [⟨y.now + y.delay + late, d⟩] := ⟨_, rfl⟩; rw [← hF7] at hown7; have HF7 := Lib.hid hF7; clear hF7; obtain ⟨a7, c7, rfl, -⟩ := id hown7.own; have hA7 := (hg7.block p (by simp; omega) (fun e => HN.out e.symm)).trans (keepHeap (below1 V5 _) HA.out); have cA7 := rowCells hA7; have fA7 := fun j => frozenHeap hA7 j)
                all_goals
                  have hne7 := hown7.notBox hA7 wire_ne_flight
                  have hP := setHf (k := 7) hA7 (v := .slice a7 F7.length c7)
                  have hO := hown7.aside (p := ⟨p, 7, none⟩) hne7 (.slice a7 F7.length c7)
                  have hbE := ((hb05).trans hb7).setCell (p := ⟨p, 7, none⟩) hbp (.slice a7 F7.length c7)
                  go_wp2_with (fail)
                  go_roundw
                  case measure => simp [intOf]; omega
                  case rel =>
                    refine ⟨m, i0 - 1, by omega, Lib.hid (by have := HI.out; omega), rfl, .slice a7 F7.length c7, ?_, hbE⟩
                    rw [HNX.out, HL.out, ← HF7.out]
                    exact ⟨hP, hO, hbp⟩
      | false =>
        have HC : Hid ((chanceR (chanceR x.seed x.loss).1 x.copies).2 = false) := Lib.hid (by rw [HR1.out, HR2.out])
        clear HR1 HR2 HS2
        have HQ : Hid (sendX x d = iterL (s2X x) d 1) := Lib.hid (send_one HK.out HL.out HC.out)
        have hs2 : (s2X x).sound := hsd
        have HSd := Lib.hid (fun k => iterL_sound hs2 d k)
        have HFx := Lib.hid (fun k => iterL_same (s2X x) d k)
        clear HL HC HSX
        go_wp2_with (fail)
        go_loopw [9] (fun i wr => ∃ (m : Nat) (i0 : Int), m ≤ 1 ∧ Hid (i0 = (m : Int)) ∧ i = .int .i64 i0 ∧ ∃ v, BoxW wr W0.heap.size p (iterL (s2X x) d (1 - m)) v ∧ Below W0.heap.size W0 wr) (fun i _ => (intOf i).toNat)
        case atStart => exact ⟨1, _, by omega, Lib.hid rfl, rfl, _, box8, hB8⟩
        case round =>
          obtain ⟨m, i0, hm, HI, rfl, v, box, hbl⟩ := hrel
          have hsy := HSd.out (1 - m)
          have hfy := HFx.out (1 - m)
          cases m with
          | zero =>
            have hb0e := hB0.trans (hbl.mono hB0.size)
            rw [show 1 - 0 = 1 from rfl] at box
            clear hsy hfy
            generalize iterL (s2X x) d 1 = y at *
            have zm : decide (i0 > 0) = false := by have := HI.out; simp; omega
            have hi0 : ¬ i0 > 0 := by have := HI.out; omega
            go_upto_region 26 with (fail)
            have hAe := box.1
            have hGe := box.2.1
            have hcap := hGe.capd
            obtain ⟨ae, ce, rfl, -⟩ := id hGe.own
            unfold wiC at hAe
            have cAe := rowCells hAe
            have hRe : (wr).heap[w.heap.size + 1]? = some (.cells #[.int .i64 0, .int .i64 0, .int .i64 0, .int .i64 0, .int .i64 0, .int .i64 0, .int .i64 0, .slice none 0 0, .int .i64 0, .int .i64 0] 52 (0, 0)) := (hbl.block _ (by omega)).trans hR
            have cRe := rowCells hRe
            have fRe := fun j => frozenHeap hRe j
            go_wp2_with (fail)
            have hP := putWi_heap hRe rfl (y) (.slice ae (y).fls.length ce)
            have hbP := putWi_below hb0e (c := w.heap.size + 1) (by omega) (y) (.slice ae (y).fls.length ce)
            have hoP := hGe.put (c := w.heap.size + 1) (by omega) (y) (.slice ae (y).fls.length ce)
            unfold putWi at hP hbP hoP
            refine bodyPost_ret (results_cell_row rfl _ _ (w.heap.size + 1) 52 (wiC (y) (.slice ae (y).fls.length ce)) (0, 0) ?qd5 ?qp5 ?qg5 ?qu5 ?qe5 ?qi5) rfl ?_
            case qp5 => rfl
            case qg5 => exact hP
            case qu5 => exact Try.underlying52
            case qe5 => rfl
            case qi5 => kernel_rfl
            refine ⟨.slice ae (y).fls.length ce, by rw [HQ.out], ?_, hcap, hbP⟩
            rw [HQ.out]
            exact hoP.own.up (by omega)
          | succ m =>
            have HNX : Hid (iterL (s2X x) d (1 - m) = launchX (iterL (s2X x) d (1 - (m + 1))) d) := Lib.hid (iterL_next _ _ hm)
            generalize iterL (s2X x) d (1 - (m + 1)) = y at *
            have FJ := Lib.hid (show y.jitter = x.jitter ∧ y.delay = x.delay ∧ y.now = x.now ∧ y.damage = x.damage from hfy)
            clear hfy
            obtain ⟨fj, fd, fn, fg⟩ := FJ.out
            have hPA : wr.heap[w.heap.size]? = some (.cells #[.int .i64 x.seed, .int .i64 y.delay, .int .i64 y.jitter, .int .i64 x.loss, .int .i64 x.copies, .int .i64 y.damage, .int .i64 y.now, .slice al x.fls.length cl, .int .i64 x.sent, .int .i64 x.lost] 52 (0, 0)) := by rw [fj, fd, fn, fg]; exact keepHeap hbl hA
            clear fj fd fn fg
            obtain ⟨hx1, hx2, hx3, hx4, hx5⟩ := hsy
            have hbp := box.2.2
            have hLow := fun W => below_spec y.seed (y.jitter + 1) W
            have hn0 := (belowR_any y.seed (y.jitter + 1)).2.2
            rw [show belowR y.seed (y.jitter + 1) = (lchS y, lchN y) from rfl] at hLow hn0
            dsimp only at hLow hn0
            obtain ⟨s1, hS⟩ : ∃ s, s = lchS y := ⟨_, rfl⟩
            obtain ⟨late, hN⟩ : ∃ n, n = lchN y := ⟨_, rfl⟩
            rw [← hN] at hn0
            simp only [← hS, ← hN] at hLow
            have HC : Hid (lchC y = chanceR s1 y.damage) := Lib.hid (by unfold lchC; rw [← hS])
            have HNN : Hid (lchN y = late) := Lib.hid hN.symm
            clear hS hN
            have hB := box.1
            unfold wiC at hB
            have cB := rowCells hB
            have cP := rowCells hPA
            have w1 : IntKind.i64.wrap (y.jitter + 1) = y.jitter + 1 := IntWalk.i64_in _ (by omega)
            have zm : decide (i0 > 0) = true := by have := HI.out; simp; omega
            have hi0 : i0 > 0 := by have := HI.out; omega
            have em : IntKind.i64.wrap (i0 - 1) = i0 - 1 := IntWalk.i64_in _ (by have := HI.out; omega)
            go_wp2_with (fail)
            refine (hLow _).mono ?_
            rintro e w9 ⟨rfl, k9, rfl⟩
            have box1 := box.drewN k9
            have hb1 := below_drewN hbl k9
            have hPA1 : (wr.drewN k9).heap[w.heap.size]? = some (.cells #[.int .i64 x.seed, .int .i64 y.delay, .int .i64 y.jitter, .int .i64 x.loss, .int .i64 x.copies, .int .i64 y.damage, .int .i64 y.now, .slice al x.fls.length cl, .int .i64 x.sent, .int .i64 x.lost] 52 (0, 0)) := hPA
            clear cB cP hB hPA box hbl hLow w1
            generalize wr.drewN k9 = V1 at *
            have cP1 := rowCells hPA1
            have hCh := fun W => chance_spec s1 y.damage W
            generalize chanceR s1 y.damage = r at hCh HC
            obtain ⟨cc, cb⟩ := r
            dsimp only at hCh
            go_wp2_with (fail)
            refine (hCh _).mono ?_
            rintro e w9 ⟨rfl, k9, rfl⟩
            have box2 := box1.drewN k9
            have hb2 := below_drewN hb1 k9
            clear cP1 hPA1 box1 hb1 hCh
            generalize V1.drewN k9 = V2 at *
            cases cb with
            | true =>
              have hSp := fun W => spoilByte_spec cc d W (by omega)
              have HD : Hid (lchD y d = spoilR cc d) := Lib.hid (by unfold lchD; rw [HC.out]; rfl)
              generalize spoilR cc d = r at hSp HD
              obtain ⟨s3, d3⟩ := r
              dsimp only at hSp
              go_wp2_with (fail)
              refine (hSp _).mono ?_
              rintro e V4 ⟨rfl, hb4⟩
              have box4 := box2.keep hb4
              have hb04 := hb2.trans (hb4.mono hb2.size)
              clear box2 hb2 hb4
              have hA4 := box4.1
              unfold wiC at hA4
              have cA4 := rowCells hA4
              have fA4 := fun j => frozenHeap hA4 j
              have box5 : BoxW (V4.setCell ⟨p, 0, none⟩ (.int .i64 s3)) W0.heap.size p (y.seeded s3) v := box4.set (y := y.seeded s3) 0 (.int .i64 s3) rfl rfl
              have hb05 := hb04.setCell (p := ⟨p, 0, none⟩) hbp (.int .i64 s3)
              go_upto_region 23 with (fail)
              generalize V4.setCell ⟨p, 0, none⟩ (.int .i64 s3) = V5 at *
              clear hA4 cA4 fA4 box4 hb04
              obtain ⟨fj, fd, fn, fg⟩ := FJ.out
              have hA6 := box5.1
              unfold wiC Wi.seeded at hA6
              dsimp only at hA6
              have hG6 : GrowFl V5 W0.heap.size v y.fls := box5.2.1
              have hne := box5.ne
              obtain ⟨a3, c3, rfl, -⟩ := id hG6.own
              have cA6 := rowCells hA6
              have fA6 := fun j => frozenHeap hA6 j
              have hPA6 : (V5).heap[w.heap.size]? = some (.cells #[.int .i64 x.seed, .int .i64 y.delay, .int .i64 y.jitter, .int .i64 x.loss, .int .i64 x.copies, .int .i64 y.damage, .int .i64 y.now, .slice al x.fls.length cl, .int .i64 x.sent, .int .i64 x.lost] 52 (0, 0)) := by rw [fj, fd, fn, fg]; exact keepHeap hb05 hA
              clear fj fd fn fg
              have cP6 := rowCells hPA6
              have hp6 : p < (V5).heap.size := (Array.getElem?_eq_some_iff.1 hA6).1
              by_cases hlen : y.fls.length = 200
              · have z2 : ((y.fls.length : Int) == 200) = true := by simp; omega
                have HL : Hid (launchX y d = loseX (y.seeded s3)) := Lib.hid (by unfold launchX; rw [if_pos hlen, HD.out])
                clear hlen
                by_cases hl : y.lost < 1000000
                · have HLL := Lib.hid (show min (y.lost + 1) 1000000 = y.lost + 1 from Int.min_eq_left (by omega))
                  have eL : min (y.lost + 1) 1000000 = y.lost + 1 := HLL.out
                  have nl : ¬ (1000000 < y.lost + 1) := by omega
                  have box7 := box5.set (y := { y.seeded s3 with lost := (y.lost + 1) }) 9 (.int .i64 (y.lost + 1)) rfl rfl
                  have hb7 := (hb05).setCell (p := ⟨p, 9, none⟩) hbp (.int .i64 (y.lost + 1))
                  go_wp2_with (fail)
                  go_roundw
                  case measure => simp [intOf]; omega
                  case rel =>
                      refine ⟨m, i0 - 1, by omega, Lib.hid (by have := HI.out; omega), rfl, .slice a3 y.fls.length c3, ?_, hb7⟩
                      rw [HNX.out, HL.out]
                      unfold loseX
                      rw [show (y.seeded s3).lost = y.lost from rfl, HLL.out]
                      exact box7
                · have HLL := Lib.hid (show min (y.lost + 1) 1000000 = 1000000 from Int.min_eq_right (by omega))
                  have eL : min (y.lost + 1) 1000000 = 1000000 := HLL.out
                  have nl : 1000000 < y.lost + 1 := by omega
                  have nl2 : ¬ (y.lost + 1 < 1000000) := by omega
                  have nl3 : ¬ (y.lost + 1 ≤ 1000000) := by omega
                  have box7 := box5.set (y := { y.seeded s3 with lost := 1000000 }) 9 (.int .i64 1000000) rfl rfl
                  have hb7 := (hb05).setCell (p := ⟨p, 9, none⟩) hbp (.int .i64 1000000)
                  go_wp2_with (fail)
                  go_roundw
                  case measure => simp [intOf]; omega
                  case rel =>
                      refine ⟨m, i0 - 1, by omega, Lib.hid (by have := HI.out; omega), rfl, .slice a3 y.fls.length c3, ?_, hb7⟩
                      rw [HNX.out, HL.out]
                      unfold loseX
                      rw [show (y.seeded s3).lost = y.lost from rfl, HLL.out]
                      exact box7
              · have z2 : ((y.fls.length : Int) == 200) = false := by simp; omega
                have HL : Hid (launchX y d = { y with seed := s3, fls := y.fls ++ [⟨y.now + y.delay + late, d3⟩] }) := Lib.hid (by unfold launchX; rw [if_neg hlen, HD.out, HNN.out])
                have hx6 : y.fls.length ≤ 200 := hx5
                have u1 : IntKind.i64.wrap (y.now + y.delay) = y.now + y.delay := IntWalk.i64_in _ (by omega)
                have u2 : IntKind.i64.wrap (y.now + y.delay + late) = y.now + y.delay + late := IntWalk.i64_in _ (by omega)
                have HO := Lib.hid hG6
                have HN := Lib.hid hne
                have HA := Lib.hid hA6
                have HS := Lib.hid (hb05).size
                clear hG6 hne hlen
                go_wp2_with (at_builtin; refine app_FlG rfl _ _ rfl W0.heap.size _ y.fls rfl HO.out ⟨y.now + y.delay + late, d3⟩ rfl (by omega) (by have := HS.out; omega) ?_; intro v7 w7 hown7 hb7 hg7; obtain ⟨F7, hF7⟩ : ∃ F7, F7 = y.fls ++ [⟨y.now + y.delay + late, d3⟩] := ⟨_, rfl⟩; rw [← hF7] at hown7; have HF7 := Lib.hid hF7; clear hF7; obtain ⟨a7, c7, rfl, -⟩ := id hown7.own; have hA7 := (hg7.block p (by simp; omega) (fun e => HN.out e.symm)).trans (keepHeap (below1 V5 _) HA.out); have cA7 := rowCells hA7; have fA7 := fun j => frozenHeap hA7 j)
                all_goals
                  have hne7 := hown7.notBox hA7 wire_ne_flight
                  have hP := setHf (k := 7) hA7 (v := .slice a7 F7.length c7)
                  have hO := hown7.aside (p := ⟨p, 7, none⟩) hne7 (.slice a7 F7.length c7)
                  have hbE := ((hb05).trans hb7).setCell (p := ⟨p, 7, none⟩) hbp (.slice a7 F7.length c7)
                  go_wp2_with (fail)
                  go_roundw
                  case measure => simp [intOf]; omega
                  case rel =>
                    refine ⟨m, i0 - 1, by omega, Lib.hid (by have := HI.out; omega), rfl, .slice a7 F7.length c7, ?_, hbE⟩
                    rw [HNX.out, HL.out, ← HF7.out]
                    exact ⟨hP, hO, hbp⟩
            | false =>
              have HD : Hid (lchD y d = (cc, d)) := Lib.hid (by unfold lchD; rw [HC.out]; rfl)
              have box4 := box2
              have hb04 := hb2
              clear box2 hb2
              have hA4 := box4.1
              unfold wiC at hA4
              have cA4 := rowCells hA4
              have fA4 := fun j => frozenHeap hA4 j
              have box5 : BoxW (V2.setCell ⟨p, 0, none⟩ (.int .i64 cc)) W0.heap.size p (y.seeded cc) v := box4.set (y := y.seeded cc) 0 (.int .i64 cc) rfl rfl
              have hb05 := hb04.setCell (p := ⟨p, 0, none⟩) hbp (.int .i64 cc)
              go_upto_region 23 with (fail)
              generalize V2.setCell ⟨p, 0, none⟩ (.int .i64 cc) = V5 at *
              clear hA4 cA4 fA4 box4 hb04
              obtain ⟨fj, fd, fn, fg⟩ := FJ.out
              have hA6 := box5.1
              unfold wiC Wi.seeded at hA6
              dsimp only at hA6
              have hG6 : GrowFl V5 W0.heap.size v y.fls := box5.2.1
              have hne := box5.ne
              obtain ⟨a3, c3, rfl, -⟩ := id hG6.own
              have cA6 := rowCells hA6
              have fA6 := fun j => frozenHeap hA6 j
              have hPA6 : (V5).heap[w.heap.size]? = some (.cells #[.int .i64 x.seed, .int .i64 y.delay, .int .i64 y.jitter, .int .i64 x.loss, .int .i64 x.copies, .int .i64 y.damage, .int .i64 y.now, .slice al x.fls.length cl, .int .i64 x.sent, .int .i64 x.lost] 52 (0, 0)) := by rw [fj, fd, fn, fg]; exact keepHeap hb05 hA
              clear fj fd fn fg
              have cP6 := rowCells hPA6
              have hp6 : p < (V5).heap.size := (Array.getElem?_eq_some_iff.1 hA6).1
              by_cases hlen : y.fls.length = 200
              · have z2 : ((y.fls.length : Int) == 200) = true := by simp; omega
                have HL : Hid (launchX y d = loseX (y.seeded cc)) := Lib.hid (by unfold launchX; rw [if_pos hlen, HD.out])
                clear hlen
                by_cases hl : y.lost < 1000000
                · have HLL := Lib.hid (show min (y.lost + 1) 1000000 = y.lost + 1 from Int.min_eq_left (by omega))
                  have eL : min (y.lost + 1) 1000000 = y.lost + 1 := HLL.out
                  have nl : ¬ (1000000 < y.lost + 1) := by omega
                  have box7 := box5.set (y := { y.seeded cc with lost := (y.lost + 1) }) 9 (.int .i64 (y.lost + 1)) rfl rfl
                  have hb7 := (hb05).setCell (p := ⟨p, 9, none⟩) hbp (.int .i64 (y.lost + 1))
                  go_wp2_with (fail)
                  go_roundw
                  case measure => simp [intOf]; omega
                  case rel =>
                      refine ⟨m, i0 - 1, by omega, Lib.hid (by have := HI.out; omega), rfl, .slice a3 y.fls.length c3, ?_, hb7⟩
                      rw [HNX.out, HL.out]
                      unfold loseX
                      rw [show (y.seeded cc).lost = y.lost from rfl, HLL.out]
                      exact box7
                · have HLL := Lib.hid (show min (y.lost + 1) 1000000 = 1000000 from Int.min_eq_right (by omega))
                  have eL : min (y.lost + 1) 1000000 = 1000000 := HLL.out
                  have nl : 1000000 < y.lost + 1 := by omega
                  have nl2 : ¬ (y.lost + 1 < 1000000) := by omega
                  have nl3 : ¬ (y.lost + 1 ≤ 1000000) := by omega
                  have box7 := box5.set (y := { y.seeded cc with lost := 1000000 }) 9 (.int .i64 1000000) rfl rfl
                  have hb7 := (hb05).setCell (p := ⟨p, 9, none⟩) hbp (.int .i64 1000000)
                  go_wp2_with (fail)
                  go_roundw
                  case measure => simp [intOf]; omega
                  case rel =>
                      refine ⟨m, i0 - 1, by omega, Lib.hid (by have := HI.out; omega), rfl, .slice a3 y.fls.length c3, ?_, hb7⟩
                      rw [HNX.out, HL.out]
                      unfold loseX
                      rw [show (y.seeded cc).lost = y.lost from rfl, HLL.out]
                      exact box7
              · have z2 : ((y.fls.length : Int) == 200) = false := by simp; omega
                have HL : Hid (launchX y d = { y with seed := cc, fls := y.fls ++ [⟨y.now + y.delay + late, d⟩] }) := Lib.hid (by unfold launchX; rw [if_neg hlen, HD.out, HNN.out])
                have hx6 : y.fls.length ≤ 200 := hx5
                have u1 : IntKind.i64.wrap (y.now + y.delay) = y.now + y.delay := IntWalk.i64_in _ (by omega)
                have u2 : IntKind.i64.wrap (y.now + y.delay + late) = y.now + y.delay + late := IntWalk.i64_in _ (by omega)
                have HO := Lib.hid hG6
                have HN := Lib.hid hne
                have HA := Lib.hid hA6
                have HS := Lib.hid (hb05).size
                clear hG6 hne hlen
                go_wp2_with (at_builtin; refine app_FlG rfl _ _ rfl W0.heap.size _ y.fls rfl HO.out ⟨y.now + y.delay + late, d⟩ rfl (by omega) (by have := HS.out; omega) ?_; intro v7 w7 hown7 hb7 hg7; obtain ⟨F7, hF7⟩ : ∃ F7, F7 = y.fls ++ [⟨y.now + y.delay + late, d⟩] := ⟨_, rfl⟩; rw [← hF7] at hown7; have HF7 := Lib.hid hF7; clear hF7; obtain ⟨a7, c7, rfl, -⟩ := id hown7.own; have hA7 := (hg7.block p (by simp; omega) (fun e => HN.out e.symm)).trans (keepHeap (below1 V5 _) HA.out); have cA7 := rowCells hA7; have fA7 := fun j => frozenHeap hA7 j)
                all_goals
                  have hne7 := hown7.notBox hA7 wire_ne_flight
                  have hP := setHf (k := 7) hA7 (v := .slice a7 F7.length c7)
                  have hO := hown7.aside (p := ⟨p, 7, none⟩) hne7 (.slice a7 F7.length c7)
                  have hbE := ((hb05).trans hb7).setCell (p := ⟨p, 7, none⟩) hbp (.slice a7 F7.length c7)
                  go_wp2_with (fail)
                  go_roundw
                  case measure => simp [intOf]; omega
                  case rel =>
                    refine ⟨m, i0 - 1, by omega, Lib.hid (by have := HI.out; omega), rfl, .slice a7 F7.length c7, ?_, hbE⟩
                    rw [HNX.out, HL.out, ← HF7.out]
                    exact ⟨hP, hO, hbp⟩
  · have e6 : min (x.sent + 1) 1000000 = 1000000 := Int.min_eq_right (by omega)
    have HSX : Hid (sentX x = { x with sent := 1000000 }) := Lib.hid (by unfold sentX; rw [e6])
    have box4 := box3.set (y := { x with sent := 1000000 }) 8 (.int .i64 1000000) rfl rfl
    have hB4 := hB3.setCell (p := ⟨p, 8, none⟩) box3.2.2 (.int .i64 1000000)
    have hbp := box3.2.2
    have hA3 := box3.1
    unfold wiC at hA3
    have cA3 := rowCells hA3
    have fA3 := fun j => frozenHeap hA3 j
    clear box3 hb03
    go_upto_region 5 with (fail)
    generalize w3.setCell ⟨p, 8, none⟩ (.int .i64 1000000) = W4 at *
    clear hA3 cA3 fA3 hB3
    have hPA4 := keepHeap hB4 hA
    have cP4 := rowCells hPA4
    have hCh := fun W => chance_spec x.seed x.loss W
    generalize hr : chanceR x.seed x.loss = r at hCh
    obtain ⟨s1, b1⟩ := r
    have HR1 := Lib.hid hr
    clear hr
    dsimp only at hCh
    go_wp2_with (fail)
    refine (hCh _).mono ?_
    rintro e w9 ⟨rfl, k9, rfl⟩
    have box5 := box4.drewN k9
    have hB5 := below_drewN hB4 k9
    clear cP4 hPA4 box4 hB4 hCh
    generalize W4.drewN k9 = W5 at *
    have box6 : BoxW (W5.setCell ⟨p, 0, none⟩ (.int .i64 s1)) W0.heap.size p { x with sent := 1000000, seed := s1 } _ := box5.set (y := { x with sent := 1000000, seed := s1 }) 0 (.int .i64 s1) rfl rfl
    have hB6 := hB5.setCell (p := ⟨p, 0, none⟩) hbp (.int .i64 s1)
    have hA5 := box5.1
    unfold wiC at hA5
    dsimp only at hA5
    have cA5 := rowCells hA5
    have fA5 := fun j => frozenHeap hA5 j
    clear box5
    go_upto_region 7 with (fail)
    generalize W5.setCell ⟨p, 0, none⟩ (.int .i64 s1) = W6 at *
    clear hA5 cA5 fA5 hB5
    have hA6 := box6.1
    unfold wiC at hA6
    dsimp only at hA6
    have cA6 := rowCells hA6
    have fA6 := fun j => frozenHeap hA6 j
    cases b1 with
    | true =>
      have hx9 := hsd.2.2.2.1
      by_cases hl : x.lost < 1000000
      · have eL : min (x.lost + 1) 1000000 = x.lost + 1 := Int.min_eq_left (by omega)
        have HQ : Hid (sendX x d = { x with sent := 1000000, seed := s1, lost := (x.lost + 1) }) := Lib.hid (by rw [send_lost HK.out (by rw [HR1.out])]; unfold loseX s1X; rw [HSX.out, HR1.out]; unfold Wi.seeded; dsimp only; rw [eL])
        have box7 : BoxW (W6.setCell ⟨p, 9, none⟩ (.int .i64 (x.lost + 1))) W0.heap.size p { x with sent := 1000000, seed := s1, lost := (x.lost + 1) } _ := box6.set (y := { x with sent := 1000000, seed := s1, lost := (x.lost + 1) }) 9 (.int .i64 (x.lost + 1)) rfl rfl
        have hB7 := hB6.setCell (p := ⟨p, 9, none⟩) hbp (.int .i64 (x.lost + 1))
        go_upto_region 9 with (fail)
        generalize W6.setCell ⟨p, 9, none⟩ (.int .i64 (x.lost + 1)) = W7 at *
        clear hA6 cA6 fA6 box6 hB6 eL
        have hb07 := hB0.trans (hB7.mono hB0.size)
        generalize ({ x with sent := 1000000, seed := s1, lost := (x.lost + 1) } : Wi) = y at *
        generalize Value.slice a1 x.fls.length c1 = v7 at box7
        have hAe := box7.1
        have hGe := box7.2.1
        have hcap := hGe.capd
        obtain ⟨ae, ce, rfl, -⟩ := id hGe.own
        unfold wiC at hAe
        have cAe := rowCells hAe
        have hRe : (W7).heap[w.heap.size + 1]? = some (.cells #[.int .i64 0, .int .i64 0, .int .i64 0, .int .i64 0, .int .i64 0, .int .i64 0, .int .i64 0, .slice none 0 0, .int .i64 0, .int .i64 0] 52 (0, 0)) := (hB7.block _ (by omega)).trans hR
        have cRe := rowCells hRe
        have fRe := fun j => frozenHeap hRe j
        go_wp2_with (fail)
        have hP := putWi_heap hRe rfl (y) (.slice ae (y).fls.length ce)
        have hbP := putWi_below hb07 (c := w.heap.size + 1) (by omega) (y) (.slice ae (y).fls.length ce)
        have hoP := hGe.put (c := w.heap.size + 1) (by omega) (y) (.slice ae (y).fls.length ce)
        unfold putWi at hP hbP hoP
        refine bodyPost_ret (results_cell_row rfl _ _ (w.heap.size + 1) 52 (wiC (y) (.slice ae (y).fls.length ce)) (0, 0) ?qd2 ?qp2 ?qg2 ?qu2 ?qe2 ?qi2) rfl ?_
        case qp2 => rfl
        case qg2 => exact hP
        case qu2 => exact Try.underlying52
        case qe2 => rfl
        case qi2 => kernel_rfl
        refine ⟨.slice ae (y).fls.length ce, by rw [HQ.out], ?_, hcap, hbP⟩
        rw [HQ.out]
        exact hoP.own.up (by omega)
      · have eL : min (x.lost + 1) 1000000 = 1000000 := Int.min_eq_right (by omega)
        have HQ : Hid (sendX x d = { x with sent := 1000000, seed := s1, lost := 1000000 }) := Lib.hid (by rw [send_lost HK.out (by rw [HR1.out])]; unfold loseX s1X; rw [HSX.out, HR1.out]; unfold Wi.seeded; dsimp only; rw [eL])
        have box7 : BoxW (W6.setCell ⟨p, 9, none⟩ (.int .i64 1000000)) W0.heap.size p { x with sent := 1000000, seed := s1, lost := 1000000 } _ := box6.set (y := { x with sent := 1000000, seed := s1, lost := 1000000 }) 9 (.int .i64 1000000) rfl rfl
        have hB7 := hB6.setCell (p := ⟨p, 9, none⟩) hbp (.int .i64 1000000)
        go_upto_region 9 with (fail)
        generalize W6.setCell ⟨p, 9, none⟩ (.int .i64 1000000) = W7 at *
        clear hA6 cA6 fA6 box6 hB6 eL
        have hb07 := hB0.trans (hB7.mono hB0.size)
        generalize ({ x with sent := 1000000, seed := s1, lost := 1000000 } : Wi) = y at *
        generalize Value.slice a1 x.fls.length c1 = v7 at box7
        have hAe := box7.1
        have hGe := box7.2.1
        have hcap := hGe.capd
        obtain ⟨ae, ce, rfl, -⟩ := id hGe.own
        unfold wiC at hAe
        have cAe := rowCells hAe
        have hRe : (W7).heap[w.heap.size + 1]? = some (.cells #[.int .i64 0, .int .i64 0, .int .i64 0, .int .i64 0, .int .i64 0, .int .i64 0, .int .i64 0, .slice none 0 0, .int .i64 0, .int .i64 0] 52 (0, 0)) := (hB7.block _ (by omega)).trans hR
        have cRe := rowCells hRe
        have fRe := fun j => frozenHeap hRe j
        go_wp2_with (fail)
        have hP := putWi_heap hRe rfl (y) (.slice ae (y).fls.length ce)
        have hbP := putWi_below hb07 (c := w.heap.size + 1) (by omega) (y) (.slice ae (y).fls.length ce)
        have hoP := hGe.put (c := w.heap.size + 1) (by omega) (y) (.slice ae (y).fls.length ce)
        unfold putWi at hP hbP hoP
        refine bodyPost_ret (results_cell_row rfl _ _ (w.heap.size + 1) 52 (wiC (y) (.slice ae (y).fls.length ce)) (0, 0) ?qd3 ?qp3 ?qg3 ?qu3 ?qe3 ?qi3) rfl ?_
        case qp3 => rfl
        case qg3 => exact hP
        case qu3 => exact Try.underlying52
        case qe3 => rfl
        case qi3 => kernel_rfl
        refine ⟨.slice ae (y).fls.length ce, by rw [HQ.out], ?_, hcap, hbP⟩
        rw [HQ.out]
        exact hoP.own.up (by omega)
    | false =>
      have hPA6 := keepHeap hB6 hA
      have cP6 := rowCells hPA6
      have HL : Hid ((chanceR x.seed x.loss).2 = false) := Lib.hid (by rw [HR1.out])
      have hCh := fun W => chance_spec s1 x.copies W
      generalize hr : chanceR s1 x.copies = r at hCh
      obtain ⟨s2, b2⟩ := r
      have HR2 := Lib.hid hr
      clear hr
      dsimp only at hCh
      go_wp2_with (fail)
      refine (hCh _).mono ?_
      rintro e w9 ⟨rfl, k9, rfl⟩
      have box7 := box6.drewN k9
      have hB7 := below_drewN hB6 k9
      clear cP6 hPA6 box6 hB6 hCh hA6 cA6 fA6
      generalize W6.drewN k9 = W7 at *
      have HS2 : Hid (s2X x = { x with sent := 1000000, seed := s2 }) := Lib.hid (by unfold s2X s1X; rw [HSX.out, HR1.out, HR2.out]; rfl)
      have box8 : BoxW (W7.setCell ⟨p, 0, none⟩ (.int .i64 s2)) W0.heap.size p (s2X x) (.slice a1 x.fls.length c1) := by rw [HS2.out]; exact box7.set (y := { x with sent := 1000000, seed := s2 }) 0 (.int .i64 s2) rfl rfl
      have hB8 := hB7.setCell (p := ⟨p, 0, none⟩) hbp (.int .i64 s2)
      have hA7 := box7.1
      unfold wiC at hA7
      dsimp only at hA7
      have cA7 := rowCells hA7
      have fA7 := fun j => frozenHeap hA7 j
      clear box7
      go_upto_region 12 with (fail)
      generalize W7.setCell ⟨p, 0, none⟩ (.int .i64 s2) = W8 at *
      clear hA7 cA7 fA7 hB7
      cases b2 with
      | true =>
        have HC : Hid ((chanceR (chanceR x.seed x.loss).1 x.copies).2 = true) := Lib.hid (by rw [HR1.out, HR2.out])
        clear HR1 HR2 HS2
        have HQ : Hid (sendX x d = iterL (s2X x) d 2) := Lib.hid (send_two HK.out HL.out HC.out)
        have hs2 : (s2X x).sound := hsd
        have HSd := Lib.hid (fun k => iterL_sound hs2 d k)
        have HFx := Lib.hid (fun k => iterL_same (s2X x) d k)
        clear HL HC HSX
        go_wp2_with (fail)
        go_loopw [9] (fun i wr => ∃ (m : Nat) (i0 : Int), m ≤ 2 ∧ Hid (i0 = (m : Int)) ∧ i = .int .i64 i0 ∧ ∃ v, BoxW wr W0.heap.size p (iterL (s2X x) d (2 - m)) v ∧ Below W0.heap.size W0 wr) (fun i _ => (intOf i).toNat)
        case atStart => exact ⟨2, _, by omega, Lib.hid rfl, rfl, _, box8, hB8⟩
        case round =>
          obtain ⟨m, i0, hm, HI, rfl, v, box, hbl⟩ := hrel
          have hsy := HSd.out (2 - m)
          have hfy := HFx.out (2 - m)
          cases m with
          | zero =>
            have hb0e := hB0.trans (hbl.mono hB0.size)
            rw [show 2 - 0 = 2 from rfl] at box
            clear hsy hfy
            generalize iterL (s2X x) d 2 = y at *
            have zm : decide (i0 > 0) = false := by have := HI.out; simp; omega
            have hi0 : ¬ i0 > 0 := by have := HI.out; omega
            go_upto_region 26 with (fail)
            have hAe := box.1
            have hGe := box.2.1
            have hcap := hGe.capd
            obtain ⟨ae, ce, rfl, -⟩ := id hGe.own
            unfold wiC at hAe
            have cAe := rowCells hAe
            have hRe : (wr).heap[w.heap.size + 1]? = some (.cells #[.int .i64 0, .int .i64 0, .int .i64 0, .int .i64 0, .int .i64 0, .int .i64 0, .int .i64 0, .slice none 0 0, .int .i64 0, .int .i64 0] 52 (0, 0)) := (hbl.block _ (by omega)).trans hR
            have cRe := rowCells hRe
            have fRe := fun j => frozenHeap hRe j
            go_wp2_with (fail)
            have hP := putWi_heap hRe rfl (y) (.slice ae (y).fls.length ce)
            have hbP := putWi_below hb0e (c := w.heap.size + 1) (by omega) (y) (.slice ae (y).fls.length ce)
            have hoP := hGe.put (c := w.heap.size + 1) (by omega) (y) (.slice ae (y).fls.length ce)
            unfold putWi at hP hbP hoP
            refine bodyPost_ret (results_cell_row rfl _ _ (w.heap.size + 1) 52 (wiC (y) (.slice ae (y).fls.length ce)) (0, 0) ?qd4 ?qp4 ?qg4 ?qu4 ?qe4 ?qi4) rfl ?_
            case qp4 => rfl
            case qg4 => exact hP
            case qu4 => exact Try.underlying52
            case qe4 => rfl
            case qi4 => kernel_rfl
            refine ⟨.slice ae (y).fls.length ce, by rw [HQ.out], ?_, hcap, hbP⟩
            rw [HQ.out]
            exact hoP.own.up (by omega)
          | succ m =>
            have HNX : Hid (iterL (s2X x) d (2 - m) = launchX (iterL (s2X x) d (2 - (m + 1))) d) := Lib.hid (iterL_next _ _ hm)
            generalize iterL (s2X x) d (2 - (m + 1)) = y at *
            have FJ := Lib.hid (show y.jitter = x.jitter ∧ y.delay = x.delay ∧ y.now = x.now ∧ y.damage = x.damage from hfy)
            clear hfy
            obtain ⟨fj, fd, fn, fg⟩ := FJ.out
            have hPA : wr.heap[w.heap.size]? = some (.cells #[.int .i64 x.seed, .int .i64 y.delay, .int .i64 y.jitter, .int .i64 x.loss, .int .i64 x.copies, .int .i64 y.damage, .int .i64 y.now, .slice al x.fls.length cl, .int .i64 x.sent, .int .i64 x.lost] 52 (0, 0)) := by rw [fj, fd, fn, fg]; exact keepHeap hbl hA
            clear fj fd fn fg
            obtain ⟨hx1, hx2, hx3, hx4, hx5⟩ := hsy
            have hbp := box.2.2
            have hLow := fun W => below_spec y.seed (y.jitter + 1) W
            have hn0 := (belowR_any y.seed (y.jitter + 1)).2.2
            rw [show belowR y.seed (y.jitter + 1) = (lchS y, lchN y) from rfl] at hLow hn0
            dsimp only at hLow hn0
            obtain ⟨s1, hS⟩ : ∃ s, s = lchS y := ⟨_, rfl⟩
            obtain ⟨late, hN⟩ : ∃ n, n = lchN y := ⟨_, rfl⟩
            rw [← hN] at hn0
            simp only [← hS, ← hN] at hLow
            have HC : Hid (lchC y = chanceR s1 y.damage) := Lib.hid (by unfold lchC; rw [← hS])
            have HNN : Hid (lchN y = late) := Lib.hid hN.symm
            clear hS hN
            have hB := box.1
            unfold wiC at hB
            have cB := rowCells hB
            have cP := rowCells hPA
            have w1 : IntKind.i64.wrap (y.jitter + 1) = y.jitter + 1 := IntWalk.i64_in _ (by omega)
            have zm : decide (i0 > 0) = true := by have := HI.out; simp; omega
            have hi0 : i0 > 0 := by have := HI.out; omega
            have em : IntKind.i64.wrap (i0 - 1) = i0 - 1 := IntWalk.i64_in _ (by have := HI.out; omega)
            go_wp2_with (fail)
            refine (hLow _).mono ?_
            rintro e w9 ⟨rfl, k9, rfl⟩
            have box1 := box.drewN k9
            have hb1 := below_drewN hbl k9
            have hPA1 : (wr.drewN k9).heap[w.heap.size]? = some (.cells #[.int .i64 x.seed, .int .i64 y.delay, .int .i64 y.jitter, .int .i64 x.loss, .int .i64 x.copies, .int .i64 y.damage, .int .i64 y.now, .slice al x.fls.length cl, .int .i64 x.sent, .int .i64 x.lost] 52 (0, 0)) := hPA
            clear cB cP hB hPA box hbl hLow w1
            generalize wr.drewN k9 = V1 at *
            have cP1 := rowCells hPA1
            have hCh := fun W => chance_spec s1 y.damage W
            generalize chanceR s1 y.damage = r at hCh HC
            obtain ⟨cc, cb⟩ := r
            dsimp only at hCh
            go_wp2_with (fail)
            refine (hCh _).mono ?_
            rintro e w9 ⟨rfl, k9, rfl⟩
            have box2 := box1.drewN k9
            have hb2 := below_drewN hb1 k9
            clear cP1 hPA1 box1 hb1 hCh
            generalize V1.drewN k9 = V2 at *
            cases cb with
            | true =>
              have hSp := fun W => spoilByte_spec cc d W (by omega)
              have HD : Hid (lchD y d = spoilR cc d) := Lib.hid (by unfold lchD; rw [HC.out]; rfl)
              generalize spoilR cc d = r at hSp HD
              obtain ⟨s3, d3⟩ := r
              dsimp only at hSp
              go_wp2_with (fail)
              refine (hSp _).mono ?_
              rintro e V4 ⟨rfl, hb4⟩
              have box4 := box2.keep hb4
              have hb04 := hb2.trans (hb4.mono hb2.size)
              clear box2 hb2 hb4
              have hA4 := box4.1
              unfold wiC at hA4
              have cA4 := rowCells hA4
              have fA4 := fun j => frozenHeap hA4 j
              have box5 : BoxW (V4.setCell ⟨p, 0, none⟩ (.int .i64 s3)) W0.heap.size p (y.seeded s3) v := box4.set (y := y.seeded s3) 0 (.int .i64 s3) rfl rfl
              have hb05 := hb04.setCell (p := ⟨p, 0, none⟩) hbp (.int .i64 s3)
              go_upto_region 23 with (fail)
              generalize V4.setCell ⟨p, 0, none⟩ (.int .i64 s3) = V5 at *
              clear hA4 cA4 fA4 box4 hb04
              obtain ⟨fj, fd, fn, fg⟩ := FJ.out
              have hA6 := box5.1
              unfold wiC Wi.seeded at hA6
              dsimp only at hA6
              have hG6 : GrowFl V5 W0.heap.size v y.fls := box5.2.1
              have hne := box5.ne
              obtain ⟨a3, c3, rfl, -⟩ := id hG6.own
              have cA6 := rowCells hA6
              have fA6 := fun j => frozenHeap hA6 j
              have hPA6 : (V5).heap[w.heap.size]? = some (.cells #[.int .i64 x.seed, .int .i64 y.delay, .int .i64 y.jitter, .int .i64 x.loss, .int .i64 x.copies, .int .i64 y.damage, .int .i64 y.now, .slice al x.fls.length cl, .int .i64 x.sent, .int .i64 x.lost] 52 (0, 0)) := by rw [fj, fd, fn, fg]; exact keepHeap hb05 hA
              clear fj fd fn fg
              have cP6 := rowCells hPA6
              have hp6 : p < (V5).heap.size := (Array.getElem?_eq_some_iff.1 hA6).1
              by_cases hlen : y.fls.length = 200
              · have z2 : ((y.fls.length : Int) == 200) = true := by simp; omega
                have HL : Hid (launchX y d = loseX (y.seeded s3)) := Lib.hid (by unfold launchX; rw [if_pos hlen, HD.out])
                clear hlen
                by_cases hl : y.lost < 1000000
                · have HLL := Lib.hid (show min (y.lost + 1) 1000000 = y.lost + 1 from Int.min_eq_left (by omega))
                  have eL : min (y.lost + 1) 1000000 = y.lost + 1 := HLL.out
                  have nl : ¬ (1000000 < y.lost + 1) := by omega
                  have box7 := box5.set (y := { y.seeded s3 with lost := (y.lost + 1) }) 9 (.int .i64 (y.lost + 1)) rfl rfl
                  have hb7 := (hb05).setCell (p := ⟨p, 9, none⟩) hbp (.int .i64 (y.lost + 1))
                  go_wp2_with (fail)
                  go_roundw
                  case measure => simp [intOf]; omega
                  case rel =>
                      refine ⟨m, i0 - 1, by omega, Lib.hid (by have := HI.out; omega), rfl, .slice a3 y.fls.length c3, ?_, hb7⟩
                      rw [HNX.out, HL.out]
                      unfold loseX
                      rw [show (y.seeded s3).lost = y.lost from rfl, HLL.out]
                      exact box7
                · have HLL := Lib.hid (show min (y.lost + 1) 1000000 = 1000000 from Int.min_eq_right (by omega))
                  have eL : min (y.lost + 1) 1000000 = 1000000 := HLL.out
                  have nl : 1000000 < y.lost + 1 := by omega
                  have nl2 : ¬ (y.lost + 1 < 1000000) := by omega
                  have nl3 : ¬ (y.lost + 1 ≤ 1000000) := by omega
                  have box7 := box5.set (y := { y.seeded s3 with lost := 1000000 }) 9 (.int .i64 1000000) rfl rfl
                  have hb7 := (hb05).setCell (p := ⟨p, 9, none⟩) hbp (.int .i64 1000000)
                  go_wp2_with (fail)
                  go_roundw
                  case measure => simp [intOf]; omega
                  case rel =>
                      refine ⟨m, i0 - 1, by omega, Lib.hid (by have := HI.out; omega), rfl, .slice a3 y.fls.length c3, ?_, hb7⟩
                      rw [HNX.out, HL.out]
                      unfold loseX
                      rw [show (y.seeded s3).lost = y.lost from rfl, HLL.out]
                      exact box7
              · have z2 : ((y.fls.length : Int) == 200) = false := by simp; omega
                have HL : Hid (launchX y d = { y with seed := s3, fls := y.fls ++ [⟨y.now + y.delay + late, d3⟩] }) := Lib.hid (by unfold launchX; rw [if_neg hlen, HD.out, HNN.out])
                have hx6 : y.fls.length ≤ 200 := hx5
                have u1 : IntKind.i64.wrap (y.now + y.delay) = y.now + y.delay := IntWalk.i64_in _ (by omega)
                have u2 : IntKind.i64.wrap (y.now + y.delay + late) = y.now + y.delay + late := IntWalk.i64_in _ (by omega)
                have HO := Lib.hid hG6
                have HN := Lib.hid hne
                have HA := Lib.hid hA6
                have HS := Lib.hid (hb05).size
                clear hG6 hne hlen
                go_wp2_with (at_builtin; refine app_FlG rfl _ _ rfl W0.heap.size _ y.fls rfl HO.out ⟨y.now + y.delay + late, d3⟩ rfl (by omega) (by have := HS.out; omega) ?_; intro v7 w7 hown7 hb7 hg7; obtain ⟨F7, hF7⟩ : ∃ F7, F7 = y.fls ++ [⟨y.now + y.delay + late, d3⟩] := ⟨_, rfl⟩; rw [← hF7] at hown7; have HF7 := Lib.hid hF7; clear hF7; obtain ⟨a7, c7, rfl, -⟩ := id hown7.own; have hA7 := (hg7.block p (by simp; omega) (fun e => HN.out e.symm)).trans (keepHeap (below1 V5 _) HA.out); have cA7 := rowCells hA7; have fA7 := fun j => frozenHeap hA7 j)
                all_goals
                  have hne7 := hown7.notBox hA7 wire_ne_flight
                  have hP := setHf (k := 7) hA7 (v := .slice a7 F7.length c7)
                  have hO := hown7.aside (p := ⟨p, 7, none⟩) hne7 (.slice a7 F7.length c7)
                  have hbE := ((hb05).trans hb7).setCell (p := ⟨p, 7, none⟩) hbp (.slice a7 F7.length c7)
                  go_wp2_with (fail)
                  go_roundw
                  case measure => simp [intOf]; omega
                  case rel =>
                    refine ⟨m, i0 - 1, by omega, Lib.hid (by have := HI.out; omega), rfl, .slice a7 F7.length c7, ?_, hbE⟩
                    rw [HNX.out, HL.out, ← HF7.out]
                    exact ⟨hP, hO, hbp⟩
            | false =>
              have HD : Hid (lchD y d = (cc, d)) := Lib.hid (by unfold lchD; rw [HC.out]; rfl)
              have box4 := box2
              have hb04 := hb2
              clear box2 hb2
              have hA4 := box4.1
              unfold wiC at hA4
              have cA4 := rowCells hA4
              have fA4 := fun j => frozenHeap hA4 j
              have box5 : BoxW (V2.setCell ⟨p, 0, none⟩ (.int .i64 cc)) W0.heap.size p (y.seeded cc) v := box4.set (y := y.seeded cc) 0 (.int .i64 cc) rfl rfl
              have hb05 := hb04.setCell (p := ⟨p, 0, none⟩) hbp (.int .i64 cc)
              go_upto_region 23 with (fail)
              generalize V2.setCell ⟨p, 0, none⟩ (.int .i64 cc) = V5 at *
              clear hA4 cA4 fA4 box4 hb04
              obtain ⟨fj, fd, fn, fg⟩ := FJ.out
              have hA6 := box5.1
              unfold wiC Wi.seeded at hA6
              dsimp only at hA6
              have hG6 : GrowFl V5 W0.heap.size v y.fls := box5.2.1
              have hne := box5.ne
              obtain ⟨a3, c3, rfl, -⟩ := id hG6.own
              have cA6 := rowCells hA6
              have fA6 := fun j => frozenHeap hA6 j
              have hPA6 : (V5).heap[w.heap.size]? = some (.cells #[.int .i64 x.seed, .int .i64 y.delay, .int .i64 y.jitter, .int .i64 x.loss, .int .i64 x.copies, .int .i64 y.damage, .int .i64 y.now, .slice al x.fls.length cl, .int .i64 x.sent, .int .i64 x.lost] 52 (0, 0)) := by rw [fj, fd, fn, fg]; exact keepHeap hb05 hA
              clear fj fd fn fg
              have cP6 := rowCells hPA6
              have hp6 : p < (V5).heap.size := (Array.getElem?_eq_some_iff.1 hA6).1
              by_cases hlen : y.fls.length = 200
              · have z2 : ((y.fls.length : Int) == 200) = true := by simp; omega
                have HL : Hid (launchX y d = loseX (y.seeded cc)) := Lib.hid (by unfold launchX; rw [if_pos hlen, HD.out])
                clear hlen
                by_cases hl : y.lost < 1000000
                · have HLL := Lib.hid (show min (y.lost + 1) 1000000 = y.lost + 1 from Int.min_eq_left (by omega))
                  have eL : min (y.lost + 1) 1000000 = y.lost + 1 := HLL.out
                  have nl : ¬ (1000000 < y.lost + 1) := by omega
                  have box7 := box5.set (y := { y.seeded cc with lost := (y.lost + 1) }) 9 (.int .i64 (y.lost + 1)) rfl rfl
                  have hb7 := (hb05).setCell (p := ⟨p, 9, none⟩) hbp (.int .i64 (y.lost + 1))
                  go_wp2_with (fail)
                  go_roundw
                  case measure => simp [intOf]; omega
                  case rel =>
                      refine ⟨m, i0 - 1, by omega, Lib.hid (by have := HI.out; omega), rfl, .slice a3 y.fls.length c3, ?_, hb7⟩
                      rw [HNX.out, HL.out]
                      unfold loseX
                      rw [show (y.seeded cc).lost = y.lost from rfl, HLL.out]
                      exact box7
                · have HLL := Lib.hid (show min (y.lost + 1) 1000000 = 1000000 from Int.min_eq_right (by omega))
                  have eL : min (y.lost + 1) 1000000 = 1000000 := HLL.out
                  have nl : 1000000 < y.lost + 1 := by omega
                  have nl2 : ¬ (y.lost + 1 < 1000000) := by omega
                  have nl3 : ¬ (y.lost + 1 ≤ 1000000) := by omega
                  have box7 := box5.set (y := { y.seeded cc with lost := 1000000 }) 9 (.int .i64 1000000) rfl rfl
                  have hb7 := (hb05).setCell (p := ⟨p, 9, none⟩) hbp (.int .i64 1000000)
                  go_wp2_with (fail)
                  go_roundw
                  case measure => simp [intOf]; omega
                  case rel =>
                      refine ⟨m, i0 - 1, by omega, Lib.hid (by have := HI.out; omega), rfl, .slice a3 y.fls.length c3, ?_, hb7⟩
                      rw [HNX.out, HL.out]
                      unfold loseX
                      rw [show (y.seeded cc).lost = y.lost from rfl, HLL.out]
                      exact box7
              · have z2 : ((y.fls.length : Int) == 200) = false := by simp; omega
                have HL : Hid (launchX y d = { y with seed := cc, fls := y.fls ++ [⟨y.now + y.delay + late, d⟩] }) := Lib.hid (by unfold launchX; rw [if_neg hlen, HD.out, HNN.out])
                have hx6 : y.fls.length ≤ 200 := hx5
                have u1 : IntKind.i64.wrap (y.now + y.delay) = y.now + y.delay := IntWalk.i64_in _ (by omega)
                have u2 : IntKind.i64.wrap (y.now + y.delay + late) = y.now + y.delay + late := IntWalk.i64_in _ (by omega)
                have HO := Lib.hid hG6
                have HN := Lib.hid hne
                have HA := Lib.hid hA6
                have HS := Lib.hid (hb05).size
                clear hG6 hne hlen
                go_wp2_with (at_builtin; refine app_FlG rfl _ _ rfl W0.heap.size _ y.fls rfl HO.out ⟨y.now + y.delay + late, d⟩ rfl (by omega) (by have := HS.out; omega) ?_; intro v7 w7 hown7 hb7 hg7; obtain ⟨F7, hF7⟩ : ∃ F7, F7 = y.fls ++ [⟨y.now + y.delay + late, d⟩] := ⟨_, rfl⟩; rw [← hF7] at hown7; have HF7 := Lib.hid hF7; clear hF7; obtain ⟨a7, c7, rfl, -⟩ := id hown7.own; have hA7 := (hg7.block p (by simp; omega) (fun e => HN.out e.symm)).trans (keepHeap (below1 V5 _) HA.out); have cA7 := rowCells hA7; have fA7 := fun j => frozenHeap hA7 j)
                all_goals
                  have hne7 := hown7.notBox hA7 wire_ne_flight
                  have hP := setHf (k := 7) hA7 (v := .slice a7 F7.length c7)
                  have hO := hown7.aside (p := ⟨p, 7, none⟩) hne7 (.slice a7 F7.length c7)
                  have hbE := ((hb05).trans hb7).setCell (p := ⟨p, 7, none⟩) hbp (.slice a7 F7.length c7)
                  go_wp2_with (fail)
                  go_roundw
                  case measure => simp [intOf]; omega
                  case rel =>
                    refine ⟨m, i0 - 1, by omega, Lib.hid (by have := HI.out; omega), rfl, .slice a7 F7.length c7, ?_, hbE⟩
                    rw [HNX.out, HL.out, ← HF7.out]
                    exact ⟨hP, hO, hbp⟩
      | false =>
        have HC : Hid ((chanceR (chanceR x.seed x.loss).1 x.copies).2 = false) := Lib.hid (by rw [HR1.out, HR2.out])
        clear HR1 HR2 HS2
        have HQ : Hid (sendX x d = iterL (s2X x) d 1) := Lib.hid (send_one HK.out HL.out HC.out)
        have hs2 : (s2X x).sound := hsd
        have HSd := Lib.hid (fun k => iterL_sound hs2 d k)
        have HFx := Lib.hid (fun k => iterL_same (s2X x) d k)
        clear HL HC HSX
        go_wp2_with (fail)
        go_loopw [9] (fun i wr => ∃ (m : Nat) (i0 : Int), m ≤ 1 ∧ Hid (i0 = (m : Int)) ∧ i = .int .i64 i0 ∧ ∃ v, BoxW wr W0.heap.size p (iterL (s2X x) d (1 - m)) v ∧ Below W0.heap.size W0 wr) (fun i _ => (intOf i).toNat)
        case atStart => exact ⟨1, _, by omega, Lib.hid rfl, rfl, _, box8, hB8⟩
        case round =>
          obtain ⟨m, i0, hm, HI, rfl, v, box, hbl⟩ := hrel
          have hsy := HSd.out (1 - m)
          have hfy := HFx.out (1 - m)
          cases m with
          | zero =>
            have hb0e := hB0.trans (hbl.mono hB0.size)
            rw [show 1 - 0 = 1 from rfl] at box
            clear hsy hfy
            generalize iterL (s2X x) d 1 = y at *
            have zm : decide (i0 > 0) = false := by have := HI.out; simp; omega
            have hi0 : ¬ i0 > 0 := by have := HI.out; omega
            go_upto_region 26 with (fail)
            have hAe := box.1
            have hGe := box.2.1
            have hcap := hGe.capd
            obtain ⟨ae, ce, rfl, -⟩ := id hGe.own
            unfold wiC at hAe
            have cAe := rowCells hAe
            have hRe : (wr).heap[w.heap.size + 1]? = some (.cells #[.int .i64 0, .int .i64 0, .int .i64 0, .int .i64 0, .int .i64 0, .int .i64 0, .int .i64 0, .slice none 0 0, .int .i64 0, .int .i64 0] 52 (0, 0)) := (hbl.block _ (by omega)).trans hR
            have cRe := rowCells hRe
            have fRe := fun j => frozenHeap hRe j
            go_wp2_with (fail)
            have hP := putWi_heap hRe rfl (y) (.slice ae (y).fls.length ce)
            have hbP := putWi_below hb0e (c := w.heap.size + 1) (by omega) (y) (.slice ae (y).fls.length ce)
            have hoP := hGe.put (c := w.heap.size + 1) (by omega) (y) (.slice ae (y).fls.length ce)
            unfold putWi at hP hbP hoP
            refine bodyPost_ret (results_cell_row rfl _ _ (w.heap.size + 1) 52 (wiC (y) (.slice ae (y).fls.length ce)) (0, 0) ?qd5 ?qp5 ?qg5 ?qu5 ?qe5 ?qi5) rfl ?_
            case qp5 => rfl
            case qg5 => exact hP
            case qu5 => exact Try.underlying52
            case qe5 => rfl
            case qi5 => kernel_rfl
            refine ⟨.slice ae (y).fls.length ce, by rw [HQ.out], ?_, hcap, hbP⟩
            rw [HQ.out]
            exact hoP.own.up (by omega)
          | succ m =>
            have HNX : Hid (iterL (s2X x) d (1 - m) = launchX (iterL (s2X x) d (1 - (m + 1))) d) := Lib.hid (iterL_next _ _ hm)
            generalize iterL (s2X x) d (1 - (m + 1)) = y at *
            have FJ := Lib.hid (show y.jitter = x.jitter ∧ y.delay = x.delay ∧ y.now = x.now ∧ y.damage = x.damage from hfy)
            clear hfy
            obtain ⟨fj, fd, fn, fg⟩ := FJ.out
            have hPA : wr.heap[w.heap.size]? = some (.cells #[.int .i64 x.seed, .int .i64 y.delay, .int .i64 y.jitter, .int .i64 x.loss, .int .i64 x.copies, .int .i64 y.damage, .int .i64 y.now, .slice al x.fls.length cl, .int .i64 x.sent, .int .i64 x.lost] 52 (0, 0)) := by rw [fj, fd, fn, fg]; exact keepHeap hbl hA
            clear fj fd fn fg
            obtain ⟨hx1, hx2, hx3, hx4, hx5⟩ := hsy
            have hbp := box.2.2
            have hLow := fun W => below_spec y.seed (y.jitter + 1) W
            have hn0 := (belowR_any y.seed (y.jitter + 1)).2.2
            rw [show belowR y.seed (y.jitter + 1) = (lchS y, lchN y) from rfl] at hLow hn0
            dsimp only at hLow hn0
            obtain ⟨s1, hS⟩ : ∃ s, s = lchS y := ⟨_, rfl⟩
            obtain ⟨late, hN⟩ : ∃ n, n = lchN y := ⟨_, rfl⟩
            rw [← hN] at hn0
            simp only [← hS, ← hN] at hLow
            have HC : Hid (lchC y = chanceR s1 y.damage) := Lib.hid (by unfold lchC; rw [← hS])
            have HNN : Hid (lchN y = late) := Lib.hid hN.symm
            clear hS hN
            have hB := box.1
            unfold wiC at hB
            have cB := rowCells hB
            have cP := rowCells hPA
            have w1 : IntKind.i64.wrap (y.jitter + 1) = y.jitter + 1 := IntWalk.i64_in _ (by omega)
            have zm : decide (i0 > 0) = true := by have := HI.out; simp; omega
            have hi0 : i0 > 0 := by have := HI.out; omega
            have em : IntKind.i64.wrap (i0 - 1) = i0 - 1 := IntWalk.i64_in _ (by have := HI.out; omega)
            go_wp2_with (fail)
            refine (hLow _).mono ?_
            rintro e w9 ⟨rfl, k9, rfl⟩
            have box1 := box.drewN k9
            have hb1 := below_drewN hbl k9
            have hPA1 : (wr.drewN k9).heap[w.heap.size]? = some (.cells #[.int .i64 x.seed, .int .i64 y.delay, .int .i64 y.jitter, .int .i64 x.loss, .int .i64 x.copies, .int .i64 y.damage, .int .i64 y.now, .slice al x.fls.length cl, .int .i64 x.sent, .int .i64 x.lost] 52 (0, 0)) := hPA
            clear cB cP hB hPA box hbl hLow w1
            generalize wr.drewN k9 = V1 at *
            have cP1 := rowCells hPA1
            have hCh := fun W => chance_spec s1 y.damage W
            generalize chanceR s1 y.damage = r at hCh HC
            obtain ⟨cc, cb⟩ := r
            dsimp only at hCh
            go_wp2_with (fail)
            refine (hCh _).mono ?_
            rintro e w9 ⟨rfl, k9, rfl⟩
            have box2 := box1.drewN k9
            have hb2 := below_drewN hb1 k9
            clear cP1 hPA1 box1 hb1 hCh
            generalize V1.drewN k9 = V2 at *
            cases cb with
            | true =>
              have hSp := fun W => spoilByte_spec cc d W (by omega)
              have HD : Hid (lchD y d = spoilR cc d) := Lib.hid (by unfold lchD; rw [HC.out]; rfl)
              generalize spoilR cc d = r at hSp HD
              obtain ⟨s3, d3⟩ := r
              dsimp only at hSp
              go_wp2_with (fail)
              refine (hSp _).mono ?_
              rintro e V4 ⟨rfl, hb4⟩
              have box4 := box2.keep hb4
              have hb04 := hb2.trans (hb4.mono hb2.size)
              clear box2 hb2 hb4
              have hA4 := box4.1
              unfold wiC at hA4
              have cA4 := rowCells hA4
              have fA4 := fun j => frozenHeap hA4 j
              have box5 : BoxW (V4.setCell ⟨p, 0, none⟩ (.int .i64 s3)) W0.heap.size p (y.seeded s3) v := box4.set (y := y.seeded s3) 0 (.int .i64 s3) rfl rfl
              have hb05 := hb04.setCell (p := ⟨p, 0, none⟩) hbp (.int .i64 s3)
              go_upto_region 23 with (fail)
              generalize V4.setCell ⟨p, 0, none⟩ (.int .i64 s3) = V5 at *
              clear hA4 cA4 fA4 box4 hb04
              obtain ⟨fj, fd, fn, fg⟩ := FJ.out
              have hA6 := box5.1
              unfold wiC Wi.seeded at hA6
              dsimp only at hA6
              have hG6 : GrowFl V5 W0.heap.size v y.fls := box5.2.1
              have hne := box5.ne
              obtain ⟨a3, c3, rfl, -⟩ := id hG6.own
              have cA6 := rowCells hA6
              have fA6 := fun j => frozenHeap hA6 j
              have hPA6 : (V5).heap[w.heap.size]? = some (.cells #[.int .i64 x.seed, .int .i64 y.delay, .int .i64 y.jitter, .int .i64 x.loss, .int .i64 x.copies, .int .i64 y.damage, .int .i64 y.now, .slice al x.fls.length cl, .int .i64 x.sent, .int .i64 x.lost] 52 (0, 0)) := by rw [fj, fd, fn, fg]; exact keepHeap hb05 hA
              clear fj fd fn fg
              have cP6 := rowCells hPA6
              have hp6 : p < (V5).heap.size := (Array.getElem?_eq_some_iff.1 hA6).1
              by_cases hlen : y.fls.length = 200
              · have z2 : ((y.fls.length : Int) == 200) = true := by simp; omega
                have HL : Hid (launchX y d = loseX (y.seeded s3)) := Lib.hid (by unfold launchX; rw [if_pos hlen, HD.out])
                clear hlen
                by_cases hl : y.lost < 1000000
                · have HLL := Lib.hid (show min (y.lost + 1) 1000000 = y.lost + 1 from Int.min_eq_left (by omega))
                  have eL : min (y.lost + 1) 1000000 = y.lost + 1 := HLL.out
                  have nl : ¬ (1000000 < y.lost + 1) := by omega
                  have box7 := box5.set (y := { y.seeded s3 with lost := (y.lost + 1) }) 9 (.int .i64 (y.lost + 1)) rfl rfl
                  have hb7 := (hb05).setCell (p := ⟨p, 9, none⟩) hbp (.int .i64 (y.lost + 1))
                  go_wp2_with (fail)
                  go_roundw
                  case measure => simp [intOf]; omega
                  case rel =>
                      refine ⟨m, i0 - 1, by omega, Lib.hid (by have := HI.out; omega), rfl, .slice a3 y.fls.length c3, ?_, hb7⟩
                      rw [HNX.out, HL.out]
                      unfold loseX
                      rw [show (y.seeded s3).lost = y.lost from rfl, HLL.out]
                      exact box7
                · have HLL := Lib.hid (show min (y.lost + 1) 1000000 = 1000000 from Int.min_eq_right (by omega))
                  have eL : min (y.lost + 1) 1000000 = 1000000 := HLL.out
                  have nl : 1000000 < y.lost + 1 := by omega
                  have nl2 : ¬ (y.lost + 1 < 1000000) := by omega
                  have nl3 : ¬ (y.lost + 1 ≤ 1000000) := by omega
                  have box7 := box5.set (y := { y.seeded s3 with lost := 1000000 }) 9 (.int .i64 1000000) rfl rfl
                  have hb7 := (hb05).setCell (p := ⟨p, 9, none⟩) hbp (.int .i64 1000000)
                  go_wp2_with (fail)
                  go_roundw
                  case measure => simp [intOf]; omega
                  case rel =>
                      refine ⟨m, i0 - 1, by omega, Lib.hid (by have := HI.out; omega), rfl, .slice a3 y.fls.length c3, ?_, hb7⟩
                      rw [HNX.out, HL.out]
                      unfold loseX
                      rw [show (y.seeded s3).lost = y.lost from rfl, HLL.out]
                      exact box7
              · have z2 : ((y.fls.length : Int) == 200) = false := by simp; omega
                have HL : Hid (launchX y d = { y with seed := s3, fls := y.fls ++ [⟨y.now + y.delay + late, d3⟩] }) := Lib.hid (by unfold launchX; rw [if_neg hlen, HD.out, HNN.out])
                have hx6 : y.fls.length ≤ 200 := hx5
                have u1 : IntKind.i64.wrap (y.now + y.delay) = y.now + y.delay := IntWalk.i64_in _ (by omega)
                have u2 : IntKind.i64.wrap (y.now + y.delay + late) = y.now + y.delay + late := IntWalk.i64_in _ (by omega)
                have HO := Lib.hid hG6
                have HN := Lib.hid hne
                have HA := Lib.hid hA6
                have HS := Lib.hid (hb05).size
                clear hG6 hne hlen
                go_wp2_with (at_builtin; refine app_FlG rfl _ _ rfl W0.heap.size _ y.fls rfl HO.out ⟨y.now + y.delay + late, d3⟩ rfl (by omega) (by have := HS.out; omega) ?_; intro v7 w7 hown7 hb7 hg7; obtain ⟨F7, hF7⟩ : ∃ F7, F7 = y.fls ++ [⟨y.now + y.delay + late, d3⟩] := ⟨_, rfl⟩; rw [← hF7] at hown7; have HF7 := Lib.hid hF7; clear hF7; obtain ⟨a7, c7, rfl, -⟩ := id hown7.own; have hA7 := (hg7.block p (by simp; omega) (fun e => HN.out e.symm)).trans (keepHeap (below1 V5 _) HA.out); have cA7 := rowCells hA7; have fA7 := fun j => frozenHeap hA7 j)
                all_goals
                  have hne7 := hown7.notBox hA7 wire_ne_flight
                  have hP := setHf (k := 7) hA7 (v := .slice a7 F7.length c7)
                  have hO := hown7.aside (p := ⟨p, 7, none⟩) hne7 (.slice a7 F7.length c7)
                  have hbE := ((hb05).trans hb7).setCell (p := ⟨p, 7, none⟩) hbp (.slice a7 F7.length c7)
                  go_wp2_with (fail)
                  go_roundw
                  case measure => simp [intOf]; omega
                  case rel =>
                    refine ⟨m, i0 - 1, by omega, Lib.hid (by have := HI.out; omega), rfl, .slice a7 F7.length c7, ?_, hbE⟩
                    rw [HNX.out, HL.out, ← HF7.out]
                    exact ⟨hP, hO, hbp⟩
            | false =>
              have HD : Hid (lchD y d = (cc, d)) := Lib.hid (by unfold lchD; rw [HC.out]; rfl)
              have box4 := box2
              have hb04 := hb2
              clear box2 hb2
              have hA4 := box4.1
              unfold wiC at hA4
              have cA4 := rowCells hA4
              have fA4 := fun j => frozenHeap hA4 j
              have box5 : BoxW (V2.setCell ⟨p, 0, none⟩ (.int .i64 cc)) W0.heap.size p (y.seeded cc) v := box4.set (y := y.seeded cc) 0 (.int .i64 cc) rfl rfl
              have hb05 := hb04.setCell (p := ⟨p, 0, none⟩) hbp (.int .i64 cc)
              go_upto_region 23 with (fail)
              generalize V2.setCell ⟨p, 0, none⟩ (.int .i64 cc) = V5 at *
              clear hA4 cA4 fA4 box4 hb04
              obtain ⟨fj, fd, fn, fg⟩ := FJ.out
              have hA6 := box5.1
              unfold wiC Wi.seeded at hA6
              dsimp only at hA6
              have hG6 : GrowFl V5 W0.heap.size v y.fls := box5.2.1
              have hne := box5.ne
              obtain ⟨a3, c3, rfl, -⟩ := id hG6.own
              have cA6 := rowCells hA6
              have fA6 := fun j => frozenHeap hA6 j
              have hPA6 : (V5).heap[w.heap.size]? = some (.cells #[.int .i64 x.seed, .int .i64 y.delay, .int .i64 y.jitter, .int .i64 x.loss, .int .i64 x.copies, .int .i64 y.damage, .int .i64 y.now, .slice al x.fls.length cl, .int .i64 x.sent, .int .i64 x.lost] 52 (0, 0)) := by rw [fj, fd, fn, fg]; exact keepHeap hb05 hA
              clear fj fd fn fg
              have cP6 := rowCells hPA6
              have hp6 : p < (V5).heap.size := (Array.getElem?_eq_some_iff.1 hA6).1
              by_cases hlen : y.fls.length = 200
              · have z2 : ((y.fls.length : Int) == 200) = true := by simp; omega
                have HL : Hid (launchX y d = loseX (y.seeded cc)) := Lib.hid (by unfold launchX; rw [if_pos hlen, HD.out])
                clear hlen
                by_cases hl : y.lost < 1000000
                · have HLL := Lib.hid (show min (y.lost + 1) 1000000 = y.lost + 1 from Int.min_eq_left (by omega))
                  have eL : min (y.lost + 1) 1000000 = y.lost + 1 := HLL.out
                  have nl : ¬ (1000000 < y.lost + 1) := by omega
                  have box7 := box5.set (y := { y.seeded cc with lost := (y.lost + 1) }) 9 (.int .i64 (y.lost + 1)) rfl rfl
                  have hb7 := (hb05).setCell (p := ⟨p, 9, none⟩) hbp (.int .i64 (y.lost + 1))
                  go_wp2_with (fail)
                  go_roundw
                  case measure => simp [intOf]; omega
                  case rel =>
                      refine ⟨m, i0 - 1, by omega, Lib.hid (by have := HI.out; omega), rfl, .slice a3 y.fls.length c3, ?_, hb7⟩
                      rw [HNX.out, HL.out]
                      unfold loseX
                      rw [show (y.seeded cc).lost = y.lost from rfl, HLL.out]
                      exact box7
                · have HLL := Lib.hid (show min (y.lost + 1) 1000000 = 1000000 from Int.min_eq_right (by omega))
                  have eL : min (y.lost + 1) 1000000 = 1000000 := HLL.out
                  have nl : 1000000 < y.lost + 1 := by omega
                  have nl2 : ¬ (y.lost + 1 < 1000000) := by omega
                  have nl3 : ¬ (y.lost + 1 ≤ 1000000) := by omega
                  have box7 := box5.set (y := { y.seeded cc with lost := 1000000 }) 9 (.int .i64 1000000) rfl rfl
                  have hb7 := (hb05).setCell (p := ⟨p, 9, none⟩) hbp (.int .i64 1000000)
                  go_wp2_with (fail)
                  go_roundw
                  case measure => simp [intOf]; omega
                  case rel =>
                      refine ⟨m, i0 - 1, by omega, Lib.hid (by have := HI.out; omega), rfl, .slice a3 y.fls.length c3, ?_, hb7⟩
                      rw [HNX.out, HL.out]
                      unfold loseX
                      rw [show (y.seeded cc).lost = y.lost from rfl, HLL.out]
                      exact box7
              · have z2 : ((y.fls.length : Int) == 200) = false := by simp; omega
                have HL : Hid (launchX y d = { y with seed := cc, fls := y.fls ++ [⟨y.now + y.delay + late, d⟩] }) := Lib.hid (by unfold launchX; rw [if_neg hlen, HD.out, HNN.out])
                have hx6 : y.fls.length ≤ 200 := hx5
                have u1 : IntKind.i64.wrap (y.now + y.delay) = y.now + y.delay := IntWalk.i64_in _ (by omega)
                have u2 : IntKind.i64.wrap (y.now + y.delay + late) = y.now + y.delay + late := IntWalk.i64_in _ (by omega)
                have HO := Lib.hid hG6
                have HN := Lib.hid hne
                have HA := Lib.hid hA6
                have HS := Lib.hid (hb05).size
                clear hG6 hne hlen
                go_wp2_with (at_builtin; refine app_FlG rfl _ _ rfl W0.heap.size _ y.fls rfl HO.out ⟨y.now + y.delay + late, d⟩ rfl (by omega) (by have := HS.out; omega) ?_; intro v7 w7 hown7 hb7 hg7; obtain ⟨F7, hF7⟩ : ∃ F7, F7 = y.fls ++ [⟨y.now + y.delay + late, d⟩] := ⟨_, rfl⟩; rw [← hF7] at hown7; have HF7 := Lib.hid hF7; clear hF7; obtain ⟨a7, c7, rfl, -⟩ := id hown7.own; have hA7 := (hg7.block p (by simp; omega) (fun e => HN.out e.symm)).trans (keepHeap (below1 V5 _) HA.out); have cA7 := rowCells hA7; have fA7 := fun j => frozenHeap hA7 j)
                all_goals
                  have hne7 := hown7.notBox hA7 wire_ne_flight
                  have hP := setHf (k := 7) hA7 (v := .slice a7 F7.length c7)
                  have hO := hown7.aside (p := ⟨p, 7, none⟩) hne7 (.slice a7 F7.length c7)
                  have hbE := ((hb05).trans hb7).setCell (p := ⟨p, 7, none⟩) hbp (.slice a7 F7.length c7)
                  go_wp2_with (fail)
                  go_roundw
                  case measure => simp [intOf]; omega
                  case rel =>
                    refine ⟨m, i0 - 1, by omega, Lib.hid (by have := HI.out; omega), rfl, .slice a7 F7.length c7, ?_, hbE⟩
                    rw [HNX.out, HL.out, ← HF7.out]
                    exact ⟨hP, hO, hbp⟩
end Go.Proofs.Yteafgghpkohfpab
