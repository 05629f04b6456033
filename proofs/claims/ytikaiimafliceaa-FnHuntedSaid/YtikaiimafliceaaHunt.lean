/-
  Hunts: toHunt, eqHunt; ProbeOf and Narrow of the program and of the model; their laws. No condition.
-/
import Derived.Test.YtikaiimafliceaaFault
import Derived.Test.YtikaiimafliceaaSize
import Derived.Test.YtikaiimafliceaaHeap
namespace Go.Proofs.Ytikaiimafliceaa
open Go.RowKit Go.Joins Go.ChangeShapes Go.WideShapes Go.Deep
set_option linter.all false
structure Hu where
  low : Int
  high : Int
  steps : Int
/-- The value. -/
def huV (q : Hu) : Value := .agg #[.int .i64 q.low, .int .i64 q.high, .int .i64 q.steps]
/-- Each number fits its kind, each string its length. -/
def Hu.fits (q : Hu) : Prop := (Lit.int .i64 q.low).wf = true ∧ (Lit.int .i64 q.high).wf = true ∧ (Lit.int .i64 q.steps).wf = true
instance : Inhabited Hu := ⟨⟨0, 0, 0⟩⟩
set_option maxHeartbeats 1000000 in
theorem toHunt_any (q : Hu) (w : World) : Calls Try.prog 27 #[huV q] w fun e w' => e = .returned (huV q) ∧ Below w.heap.size w w' := by
  unfold huV
  go_enter Try.func27, Try.ntmps27
  go_wp2_with (fail)
  refine bodyPost_ret (results_cell_row rfl _ _ (w.heap.size + 1) 30 #[.int .i64 q.low, .int .i64 q.high, .int .i64 q.steps] (0, 0) ?d ?hp ?hg ?hu ?hd ?hi) rfl ?_
  case hp => rfl
  case hg => rw [heap_alloc_old _ _ (by simp)]; exact heap_at _ _ (by simp)
  case hu => exact Try.underlying30
  case hd => rfl
  case hi => kernel_rfl
  exact ⟨rfl, (below2 _ _ _).alloc (by simp; omega) _⟩
set_option maxHeartbeats 1000000 in
theorem eqHunt_same (q : Hu) (w : World) : Calls Try.prog 25 #[huV q, huV q] w fun e w' => e = .returned (.bool true) ∧ Below w.heap.size w w' := by
  unfold huV
  go_enter Try.func25, Try.ntmps25
  go_wp2_with (fail)
  go_ret
  exact ⟨rfl, below2 _ _ _⟩
set_option maxRecDepth 100000 in
theorem open_hunt {H : Type} {enc : TypeId × Value → H} {w : World} {base : Nat} {spare : Nat → Bool} {held : Bool} {r : Reach} {b0 : Nat} {v : Value} {d : DataW H} {p : List MemPlace}
    (hv : Value.okWide Try.prog w r b0 40 v) (h : DataW.Trod enc Try.prog w base spare held 40 v d p) : ∃ q : Hu, v = huV q ∧ q.fits := by
  obtain ⟨v0, v1, v2, y0, y1, y2, n, rfl, rfl, rfl, h0, h1, h2⟩ := open_agg3 Try.underlying40 (by kernel_rfl) (by kernel_rfl) hv h
  obtain ⟨m0, e0, -, w0⟩ := DataW.trod_int Try.underlying3 h0
  obtain rfl : v0 = .int .i64 m0 := by simpa using e0
  obtain ⟨m1, e1, -, w1⟩ := DataW.trod_int Try.underlying3 h1
  obtain rfl : v1 = .int .i64 m1 := by simpa using e1
  obtain ⟨m2, e2, -, w2⟩ := DataW.trod_int Try.underlying3 h2
  obtain rfl : v2 = .int .i64 m2 := by simpa using e2
  exact ⟨⟨m0, m1, m2⟩, rfl, w0, w1, w2⟩

theorem setHHu {w : World} {c k : Nat} {v : Value} {l : List Value} {T : TypeId} (h : w.heap[c]? = some (.cells ⟨l⟩ T (0, 0))) : (w.setCell ⟨c, k, none⟩ v).heap[c]? = some (.cells ⟨l.set k v⟩ T (0, 0)) := by
  rw [setHeap h]; simp
/-- A whole one is stored. -/
def boxHu (w : World) (c : Nat) (q : Hu) : World := ((w.setCell ⟨c, 0, none⟩ (.int .i64 q.low)).setCell ⟨c, 1, none⟩ (.int .i64 q.high)).setCell ⟨c, 2, none⟩ (.int .i64 q.steps)
theorem boxHu_heap {w : World} {c : Nat} {cs : Array Value} {T : TypeId} (h : w.heap[c]? = some (.cells cs T (0, 0))) (hn : cs.size = 3) (q : Hu) : (boxHu w c q).heap[c]? = some (.cells #[.int .i64 q.low, .int .i64 q.high, .int .i64 q.steps] T (0, 0)) := by
  obtain ⟨l⟩ := cs
  match l, hn with
  | [a0, a1, a2], _ =>
    have h0 := h
    have h1 := setHHu (k := 0) (v := .int .i64 q.low) h0
    have h2 := setHHu (k := 1) (v := .int .i64 q.high) h1
    have h3 := setHHu (k := 2) (v := .int .i64 q.steps) h2
    exact h3
theorem boxHu_far {w : World} {c k : Nat} {o : Obj} (h : w.heap[k]? = some o) (hk : k ≠ c) (q : Hu) : (boxHu w c q).heap[k]? = some o := by
  unfold boxHu
  repeat (refine farHeap ?_ hk _)
  exact h
theorem boxHu_below {B : Nat} {w0 w : World} {c : Nat} (h : Below B w0 w) (hc : B ≤ c) (q : Hu) : Below B w0 (boxHu w c q) := by
  unfold boxHu
  repeat (refine Below.setCell ?_ (by simpa using hc) _)
  exact h
theorem loadHu {W : World} {k : Nat} {xs : Array Value} (h : W.heap[k]? = some (.cells xs 30 (0, 0))) (hn : xs.size = 3) : (loadVar 30 ⟨k, 0, none⟩).run Try.prog W = .ok (.agg xs) W :=
  run_loadVar_row W _ _ _ _ _ _ h Try.underlying30 rfl (by rw [hn]; kernel_rfl)
/-- Whether a hunt can go on. -/
def huntB (q : Hu) : Bool := inR q.high 2 1000000 && inR q.low 0 (q.high - 2)
/-- The place to look at next. -/
def probeI (q : Hu) : Int := if huntB q = true then (q.low + q.high) / 2 else -1
theorem huntB_facts {q : Hu} (h : huntB q = true) : (2 ≤ q.high ∧ q.high ≤ 1000000) ∧ (0 ≤ q.low ∧ q.low ≤ q.high - 2) := by
  unfold huntB at h
  simp only [Bool.and_eq_true] at h
  exact ⟨(inR_iff _ _ _).1 h.1, (inR_iff _ _ _).1 h.2⟩
theorem huntB_yes {q : Hu} (h1 : 2 ≤ q.high ∧ q.high ≤ 1000000) (h2 : 0 ≤ q.low ∧ q.low ≤ q.high - 2) : huntB q = true := by unfold huntB; rw [inR_yes h1, inR_yes h2]; rfl
theorem huntB_no {q : Hu} (h : ¬ ((2 ≤ q.high ∧ q.high ≤ 1000000) ∧ (0 ≤ q.low ∧ q.low ≤ q.high - 2))) : huntB q = false := by
  cases e : huntB q with
  | false => rfl
  | true => exact absurd (huntB_facts e) h
theorem probeI_no {q : Hu} (h : huntB q = false) : probeI q = -1 := by unfold probeI; rw [h]; rfl
theorem probeI_yes {q : Hu} (h : huntB q = true) : probeI q = (q.low + q.high) / 2 := by unfold probeI; rw [if_pos h]
theorem probeI_facts {q : Hu} (h : huntB q = true) : q.low < probeI q ∧ probeI q < q.high := by
  rw [probeI_yes h]; have := huntB_facts h; omega
theorem probe_div {q : Hu} (h : huntB q = true) : (q.low + q.high).tdiv 2 = probeI q := by
  rw [probeI_yes h]; have := huntB_facts h; exact Int.tdiv_eq_ediv_of_nonneg (by omega)
/-- The hunt behind one more look. -/
def narR (q : Hu) (g : Bool) : Hu := if huntB q = true then ⟨if g then probeI q else q.low, if g then q.high else probeI q, if q.steps < 1000000 then q.steps + 1 else q.steps⟩ else q
set_option maxHeartbeats 1000000 in
theorem probe_impl (q : Hu) (w : World) : Calls Try.prog 16 #[huV q] w fun e w' => e = .returned (.int .i64 (probeI q)) ∧ Below w.heap.size w w' := by
  unfold huV
  go_enter Try.func16, Try.ntmps16
  go_wp2_with (fail)
  refine (within_impl _ _ _ _).mono ?_
  rintro e w1 ⟨rfl, rfl⟩
  cases q1 : inR q.high 2 1000000 with
  | false =>
    have HF := Lib.hid (probeI_no (q := q) (by unfold huntB; rw [q1]; rfl))
    clear q1
    go_wp2_with (fail)
    go_ret
    exact ⟨by rw [HF.out]; rfl, below1 _ _⟩
  | true =>
    have Q1 := Lib.hid q1
    have hq1 := (inR_iff _ _ _).1 q1
    clear q1
    go_wp2_with (fail)
    refine (within_impl _ _ _ _).mono ?_
    rintro e w1 ⟨rfl, rfl⟩
    cases q2 : inR q.low 0 (q.high - 2) with
    | false =>
      have HF := Lib.hid (probeI_no (q := q) (by unfold huntB; rw [q2]; simp))
      clear q2
      go_wp2_with (fail)
      go_ret
      exact ⟨by rw [HF.out]; rfl, below1 _ _⟩
    | true =>
      have hq2 := (inR_iff _ _ _).1 q2
      have hB : huntB q = true := by unfold huntB; rw [Q1.out, q2]; rfl
      have e1 := probe_div hB
      have hfp := probeI_facts hB
      obtain ⟨t, ht⟩ : ∃ t, t = probeI q := ⟨_, rfl⟩
      rw [← ht] at e1 hfp
      have ht0 : 0 ≤ t := by omega
      have ht1 : t ≤ 1000000 := by omega
      clear hfp
      have HT := Lib.hid ht
      have HB := Lib.hid hB
      clear q2 hB ht
      go_wp2_with (fail)
      go_ret
      exact ⟨by rw [HT.out]; rfl, below1 _ _⟩
set_option maxHeartbeats 1000000 in
theorem probe_spec (q : Hu) (fq : q.fits) (w : World) : Calls Try.prog 26 #[huV q] w fun e w' => e = .returned (.int .i64 (probeI q)) ∧ Below w.heap.size w w' := by
  unfold huV
  cases hB : huntB q with
  | true =>
    have hf := huntB_facts hB
    have e1 := probe_div hB
    have hfp := probeI_facts hB
    obtain ⟨t, ht⟩ : ∃ t, t = probeI q := ⟨_, rfl⟩
    rw [← ht] at e1 hfp
    have ht0 : 0 ≤ t := by omega
    have ht1 : t ≤ 1000000 := by omega
    clear hfp
    have HT := Lib.hid ht
    have z1 : decide (q.low < 0) = false := by simp; omega
    have z2 : decide (1000000 < q.high) = false := by simp; omega
    have z3 : decide (q.high < 2) = false := by simp; omega
    have z4 : decide (q.high - 2 < q.low) = false := by simp; omega
    clear hB ht
    go_enter Try.func26, Try.ntmps26
    go_wp2_with (fail)
    go_ret
    exact ⟨by rw [HT.out]; rfl, below1 _ _⟩
  | false =>
    have HF := Lib.hid (probeI_no hB)
    have HB := Lib.hid hB
    clear hB
    by_cases h1 : q.low < 0
    · have z1 : decide (q.low < 0) = true := by simpa using h1
      clear HB
      go_enter Try.func26, Try.ntmps26
      go_wp2_with (fail)
      go_ret
      exact ⟨by rw [HF.out]; rfl, below1 _ _⟩
    have z1 : decide (q.low < 0) = false := by simpa using h1
    by_cases h2 : 1000000 < q.high
    · have z2 : decide (1000000 < q.high) = true := by simpa using h2
      clear HB
      go_enter Try.func26, Try.ntmps26
      go_wp2_with (fail)
      go_ret
      exact ⟨by rw [HF.out]; rfl, below1 _ _⟩
    have z2 : decide (1000000 < q.high) = false := by simpa using h2
    by_cases h3 : q.high < 2
    · have z3 : decide (q.high < 2) = true := by simpa using h3
      clear HB
      go_enter Try.func26, Try.ntmps26
      go_wp2_with (fail)
      go_ret
      exact ⟨by rw [HF.out]; rfl, below1 _ _⟩
    have z3 : decide (q.high < 2) = false := by simpa using h3
    have h4 : q.high - 2 < q.low := by
      by_cases h : q.high - 2 < q.low
      · exact h
      · have := HB.out; rw [huntB_yes ⟨by omega, by omega⟩ ⟨by omega, by omega⟩] at this; cases this
    have z4 : decide (q.high - 2 < q.low) = true := by simpa using h4
    clear HB
    go_enter Try.func26, Try.ntmps26
    go_wp2_with (fail)
    go_ret
    exact ⟨by rw [HF.out]; rfl, below1 _ _⟩
set_option maxHeartbeats 2000000 in
theorem narrow_impl (q : Hu) (fq : q.fits) (g : Bool) (w : World) : Calls Try.prog 19 #[huV q, .bool g] w fun e w' => e = .returned (huV (narR q g)) ∧ Below w.heap.size w w' := by
  have P1 := fun W => probe_impl q W
  have hst : -9223372036854775808 ≤ q.steps := by
    have h := fq.2.2
    simp only [Lit.wf, Bool.and_eq_true, decide_eq_true_eq] at h
    exact h.1
  unfold huV at P1 ⊢
  obtain ⟨W0, hW, hA, hR, hB0, hS0⟩ := rows2 w #[.int .i64 q.low, .int .i64 q.high, .int .i64 q.steps] #[.int .i64 0, .int .i64 0, .int .i64 0] 30 30
  have cA := rowCells hA
  obtain ⟨t, ht⟩ : ∃ t, t = probeI q := ⟨_, rfl⟩
  rw [← ht] at P1
  cases hB : huntB q with
  | false =>
    have HQ : Hid (narR q g = ⟨q.low, q.high, q.steps⟩) := Lib.hid (by unfold narR; rw [hB]; rfl)
    have z1 : t = -1 := by rw [ht, probeI_no hB]
    clear ht hB
    subst z1
    go_enter Try.func19, Try.ntmps19
    go_wp2_with (fail)
    try rw [hW]
    clear hW
    refine (P1 _).mono ?_
    rintro e w1 ⟨rfl, hb1⟩
    have hA1 := keepHeap hb1 hA
    have hR1 := keepHeap hb1 hR
    have hb01 := hB0.trans (hb1.mono (by omega))
    have cA1 := rowCells hA1
    have cR1 := rowCells hR1
    have fR1 := fun j => frozenHeap hR1 j
    clear cA hA hR hb1
    go_wp2_with (fail)
    refine bodyPost_ret (results_cell_row rfl _ _ (w.heap.size + 1) 30 #[.int .i64 q.low, .int .i64 q.high, .int .i64 q.steps] (0, 0) ?d ?hp ?hg ?hu ?hd ?hi) rfl ?_
    case hp => rfl
    case hg => exact boxHu_heap hR1 rfl ⟨q.low, q.high, q.steps⟩
    case hu => exact Try.underlying30
    case hd => rfl
    case hi => kernel_rfl
    exact ⟨by rw [HQ.out], boxHu_below hb01 (by omega) ⟨q.low, q.high, q.steps⟩⟩
  | true =>
    have hf := probeI_facts hB
    have hg := huntB_facts hB
    rw [← ht] at hf
    have z1 : (t == -1) = false := by simp; omega
    have z2 : decide (t < 0) = false := by simp; omega
    go_enter Try.func19, Try.ntmps19
    have HT := Lib.hid ht
    have HB := Lib.hid hB
    clear ht hB
    go_wp2_with (fail)
    try rw [hW]
    clear hW
    refine (P1 _).mono ?_
    rintro e w1 ⟨rfl, hb1⟩
    have hA1 := keepHeap hb1 hA
    have hR1 := keepHeap hb1 hR
    have hb01 := hB0.trans (hb1.mono (by omega))
    have cA1 := rowCells hA1
    have cR1 := rowCells hR1
    have fA1 := fun j => frozenHeap hA1 j
    have fR1 := fun j => frozenHeap hR1 j
    clear cA hA hR hb1 P1
    by_cases h1 : q.steps < 1000000
    case pos =>
      have z3 : decide (q.steps < 1000000) = true := by simpa using h1
      cases g with
      | true =>
        have HQ : Hid (narR q true = ⟨t, q.high, (q.steps + 1)⟩) := Lib.hid (by unfold narR; rw [if_pos HB.out, if_pos h1, ← HT.out]; rfl)
        have hR2 := (farHeap (p := ⟨w.heap.size, 0, none⟩) (farHeap (p := ⟨w.heap.size, 2, none⟩) hR1 (by simp) (Value.int .i64 (q.steps + 1))) (by simp) (Value.int .i64 t))
        have hb2 := ((hb01.setCell (p := ⟨w.heap.size, 2, none⟩) (by simp) (Value.int .i64 (q.steps + 1))).setCell (p := ⟨w.heap.size, 0, none⟩) (by simp) (Value.int .i64 t))
        go_wp2_with (fail)
        refine bodyPost_ret (results_cell_row rfl _ _ (w.heap.size + 1) 30 #[.int .i64 t, .int .i64 q.high, .int .i64 (q.steps + 1)] (0, 0) ?d ?hp ?hg ?hu ?hd ?hi) rfl ?_
        case hp => rfl
        case hg => exact boxHu_heap hR2 rfl ⟨t, q.high, (q.steps + 1)⟩
        case hu => exact Try.underlying30
        case hd => rfl
        case hi => kernel_rfl
        exact ⟨by rw [HQ.out], boxHu_below hb2 (by omega) ⟨t, q.high, (q.steps + 1)⟩⟩
      | false =>
        have HQ : Hid (narR q false = ⟨q.low, t, (q.steps + 1)⟩) := Lib.hid (by unfold narR; rw [if_pos HB.out, if_pos h1, ← HT.out]; rfl)
        have hR2 := (farHeap (p := ⟨w.heap.size, 1, none⟩) (farHeap (p := ⟨w.heap.size, 2, none⟩) hR1 (by simp) (Value.int .i64 (q.steps + 1))) (by simp) (Value.int .i64 t))
        have hb2 := ((hb01.setCell (p := ⟨w.heap.size, 2, none⟩) (by simp) (Value.int .i64 (q.steps + 1))).setCell (p := ⟨w.heap.size, 1, none⟩) (by simp) (Value.int .i64 t))
        go_wp2_with (fail)
        refine bodyPost_ret (results_cell_row rfl _ _ (w.heap.size + 1) 30 #[.int .i64 q.low, .int .i64 t, .int .i64 (q.steps + 1)] (0, 0) ?d ?hp ?hg ?hu ?hd ?hi) rfl ?_
        case hp => rfl
        case hg => exact boxHu_heap hR2 rfl ⟨q.low, t, (q.steps + 1)⟩
        case hu => exact Try.underlying30
        case hd => rfl
        case hi => kernel_rfl
        exact ⟨by rw [HQ.out], boxHu_below hb2 (by omega) ⟨q.low, t, (q.steps + 1)⟩⟩
    case neg =>
      have z3 : decide (q.steps < 1000000) = false := by simpa using h1
      cases g with
      | true =>
        have HQ : Hid (narR q true = ⟨t, q.high, q.steps⟩) := Lib.hid (by unfold narR; rw [if_pos HB.out, if_neg h1, ← HT.out]; rfl)
        have hR2 := (farHeap (p := ⟨w.heap.size, 0, none⟩) hR1 (by simp) (Value.int .i64 t))
        have hb2 := (hb01.setCell (p := ⟨w.heap.size, 0, none⟩) (by simp) (Value.int .i64 t))
        go_wp2_with (fail)
        refine bodyPost_ret (results_cell_row rfl _ _ (w.heap.size + 1) 30 #[.int .i64 t, .int .i64 q.high, .int .i64 q.steps] (0, 0) ?d ?hp ?hg ?hu ?hd ?hi) rfl ?_
        case hp => rfl
        case hg => exact boxHu_heap hR2 rfl ⟨t, q.high, q.steps⟩
        case hu => exact Try.underlying30
        case hd => rfl
        case hi => kernel_rfl
        exact ⟨by rw [HQ.out], boxHu_below hb2 (by omega) ⟨t, q.high, q.steps⟩⟩
      | false =>
        have HQ : Hid (narR q false = ⟨q.low, t, q.steps⟩) := Lib.hid (by unfold narR; rw [if_pos HB.out, if_neg h1, ← HT.out]; rfl)
        have hR2 := (farHeap (p := ⟨w.heap.size, 1, none⟩) hR1 (by simp) (Value.int .i64 t))
        have hb2 := (hb01.setCell (p := ⟨w.heap.size, 1, none⟩) (by simp) (Value.int .i64 t))
        go_wp2_with (fail)
        refine bodyPost_ret (results_cell_row rfl _ _ (w.heap.size + 1) 30 #[.int .i64 q.low, .int .i64 t, .int .i64 q.steps] (0, 0) ?d ?hp ?hg ?hu ?hd ?hi) rfl ?_
        case hp => rfl
        case hg => exact boxHu_heap hR2 rfl ⟨q.low, t, q.steps⟩
        case hu => exact Try.underlying30
        case hd => rfl
        case hi => kernel_rfl
        exact ⟨by rw [HQ.out], boxHu_below hb2 (by omega) ⟨q.low, t, q.steps⟩⟩
set_option maxHeartbeats 2000000 in
theorem narrow_spec (q : Hu) (fq : q.fits) (g : Bool) (w : World) : Calls Try.prog 28 #[huV q, .bool g] w fun e w' => e = .returned (huV (narR q g)) ∧ Below w.heap.size w w' := by
  have P1 := fun W => probe_spec q fq W
  have hst : -9223372036854775808 ≤ q.steps := by
    have h := fq.2.2
    simp only [Lit.wf, Bool.and_eq_true, decide_eq_true_eq] at h
    exact h.1
  unfold huV at P1 ⊢
  obtain ⟨W0, hW, hA, hR, hB0, hS0⟩ := rows2 w #[.int .i64 q.low, .int .i64 q.high, .int .i64 q.steps] #[.int .i64 0, .int .i64 0, .int .i64 0] 30 30
  have cA := rowCells hA
  obtain ⟨t, ht⟩ : ∃ t, t = probeI q := ⟨_, rfl⟩
  rw [← ht] at P1
  cases hB : huntB q with
  | false =>
    have HQ : Hid (narR q g = ⟨q.low, q.high, q.steps⟩) := Lib.hid (by unfold narR; rw [hB]; rfl)
    have z1 : t = -1 := by rw [ht, probeI_no hB]
    clear ht hB
    subst z1
    go_enter Try.func28, Try.ntmps28
    go_wp2_with (fail)
    try rw [hW]
    clear hW
    refine (P1 _).mono ?_
    rintro e w1 ⟨rfl, hb1⟩
    have hA1 := keepHeap hb1 hA
    have hR1 := keepHeap hb1 hR
    have hb01 := hB0.trans (hb1.mono (by omega))
    have cA1 := rowCells hA1
    have cR1 := rowCells hR1
    have fR1 := fun j => frozenHeap hR1 j
    clear cA hA hR hb1
    go_wp2_with (fail)
    refine bodyPost_ret (results_cell_row rfl _ _ (w.heap.size + 1) 30 #[.int .i64 q.low, .int .i64 q.high, .int .i64 q.steps] (0, 0) ?d ?hp ?hg ?hu ?hd ?hi) rfl ?_
    case hp => rfl
    case hg => exact boxHu_heap hR1 rfl ⟨q.low, q.high, q.steps⟩
    case hu => exact Try.underlying30
    case hd => rfl
    case hi => kernel_rfl
    exact ⟨by rw [HQ.out], boxHu_below hb01 (by omega) ⟨q.low, q.high, q.steps⟩⟩
  | true =>
    have hf := probeI_facts hB
    have hg := huntB_facts hB
    rw [← ht] at hf
    have z1 : (t == -1) = false := by simp; omega
    have z2 : decide (t < 0) = false := by simp; omega
    go_enter Try.func28, Try.ntmps28
    have HT := Lib.hid ht
    have HB := Lib.hid hB
    clear ht hB
    go_wp2_with (fail)
    try rw [hW]
    clear hW
    refine (P1 _).mono ?_
    rintro e w1 ⟨rfl, hb1⟩
    have hA1 := keepHeap hb1 hA
    have hR1 := keepHeap hb1 hR
    have hb01 := hB0.trans (hb1.mono (by omega))
    have cA1 := rowCells hA1
    have cR1 := rowCells hR1
    have fA1 := fun j => frozenHeap hA1 j
    have fR1 := fun j => frozenHeap hR1 j
    clear cA hA hR hb1 P1
    by_cases h1 : q.steps < 1000000
    case pos =>
      have z3 : decide (q.steps < 1000000) = true := by simpa using h1
      cases g with
      | true =>
        have HQ : Hid (narR q true = ⟨t, q.high, (q.steps + 1)⟩) := Lib.hid (by unfold narR; rw [if_pos HB.out, if_pos h1, ← HT.out]; rfl)
        have hR2 := (farHeap (p := ⟨w.heap.size, 0, none⟩) (farHeap (p := ⟨w.heap.size, 2, none⟩) hR1 (by simp) (Value.int .i64 (q.steps + 1))) (by simp) (Value.int .i64 t))
        have hb2 := ((hb01.setCell (p := ⟨w.heap.size, 2, none⟩) (by simp) (Value.int .i64 (q.steps + 1))).setCell (p := ⟨w.heap.size, 0, none⟩) (by simp) (Value.int .i64 t))
        go_wp2_with (fail)
        refine bodyPost_ret (results_cell_row rfl _ _ (w.heap.size + 1) 30 #[.int .i64 t, .int .i64 q.high, .int .i64 (q.steps + 1)] (0, 0) ?d ?hp ?hg ?hu ?hd ?hi) rfl ?_
        case hp => rfl
        case hg => exact boxHu_heap hR2 rfl ⟨t, q.high, (q.steps + 1)⟩
        case hu => exact Try.underlying30
        case hd => rfl
        case hi => kernel_rfl
        exact ⟨by rw [HQ.out], boxHu_below hb2 (by omega) ⟨t, q.high, (q.steps + 1)⟩⟩
      | false =>
        have HQ : Hid (narR q false = ⟨q.low, t, (q.steps + 1)⟩) := Lib.hid (by unfold narR; rw [if_pos HB.out, if_pos h1, ← HT.out]; rfl)
        have hR2 := (farHeap (p := ⟨w.heap.size, 1, none⟩) (farHeap (p := ⟨w.heap.size, 2, none⟩) hR1 (by simp) (Value.int .i64 (q.steps + 1))) (by simp) (Value.int .i64 t))
        have hb2 := ((hb01.setCell (p := ⟨w.heap.size, 2, none⟩) (by simp) (Value.int .i64 (q.steps + 1))).setCell (p := ⟨w.heap.size, 1, none⟩) (by simp) (Value.int .i64 t))
        go_wp2_with (fail)
        refine bodyPost_ret (results_cell_row rfl _ _ (w.heap.size + 1) 30 #[.int .i64 q.low, .int .i64 t, .int .i64 (q.steps + 1)] (0, 0) ?d ?hp ?hg ?hu ?hd ?hi) rfl ?_
        case hp => rfl
        case hg => exact boxHu_heap hR2 rfl ⟨q.low, t, (q.steps + 1)⟩
        case hu => exact Try.underlying30
        case hd => rfl
        case hi => kernel_rfl
        exact ⟨by rw [HQ.out], boxHu_below hb2 (by omega) ⟨q.low, t, (q.steps + 1)⟩⟩
    case neg =>
      have z3 : decide (q.steps < 1000000) = false := by simpa using h1
      cases g with
      | true =>
        have HQ : Hid (narR q true = ⟨t, q.high, q.steps⟩) := Lib.hid (by unfold narR; rw [if_pos HB.out, if_neg h1, ← HT.out]; rfl)
        have hR2 := (farHeap (p := ⟨w.heap.size, 0, none⟩) hR1 (by simp) (Value.int .i64 t))
        have hb2 := (hb01.setCell (p := ⟨w.heap.size, 0, none⟩) (by simp) (Value.int .i64 t))
        go_wp2_with (fail)
        refine bodyPost_ret (results_cell_row rfl _ _ (w.heap.size + 1) 30 #[.int .i64 t, .int .i64 q.high, .int .i64 q.steps] (0, 0) ?d ?hp ?hg ?hu ?hd ?hi) rfl ?_
        case hp => rfl
        case hg => exact boxHu_heap hR2 rfl ⟨t, q.high, q.steps⟩
        case hu => exact Try.underlying30
        case hd => rfl
        case hi => kernel_rfl
        exact ⟨by rw [HQ.out], boxHu_below hb2 (by omega) ⟨t, q.high, q.steps⟩⟩
      | false =>
        have HQ : Hid (narR q false = ⟨q.low, t, q.steps⟩) := Lib.hid (by unfold narR; rw [if_pos HB.out, if_neg h1, ← HT.out]; rfl)
        have hR2 := (farHeap (p := ⟨w.heap.size, 1, none⟩) hR1 (by simp) (Value.int .i64 t))
        have hb2 := (hb01.setCell (p := ⟨w.heap.size, 1, none⟩) (by simp) (Value.int .i64 t))
        go_wp2_with (fail)
        refine bodyPost_ret (results_cell_row rfl _ _ (w.heap.size + 1) 30 #[.int .i64 q.low, .int .i64 t, .int .i64 q.steps] (0, 0) ?d ?hp ?hg ?hu ?hd ?hi) rfl ?_
        case hp => rfl
        case hg => exact boxHu_heap hR2 rfl ⟨q.low, t, q.steps⟩
        case hu => exact Try.underlying30
        case hd => rfl
        case hi => kernel_rfl
        exact ⟨by rw [HQ.out], boxHu_below hb2 (by omega) ⟨q.low, t, q.steps⟩⟩
set_option maxHeartbeats 1000000 in
theorem lawProbeOf (q : Hu) (fq : q.fits) {w : World} :
    Calls Try.prog 7 #[huV q] w fun e w' => e = .returned (.bool true) ∧ Below w.heap.size w w' := by
  have tf := fun W => toHunt_any q W
  have ms := fun W => probe_spec q fq W
  have mi := fun W => probe_impl q W
  generalize probeI q = r at ms mi
  unfold huV at tf ms mi ⊢
  obtain ⟨W0, hW, hA, hB0, hS0⟩ := rows1 w #[.int .i64 q.low, .int .i64 q.high, .int .i64 q.steps] 40
  have kA := rowCells hA
  go_enter Try.func7, Try.ntmps7
  go_wp2_with (fail)
  try rw [hW]
  clear hW
  refine (tf _).mono ?_
  rintro e w1 ⟨rfl, hb1⟩
  have hA1 := keepHeap hb1 hA
  have kA1 := rowCells hA1
  have hbel1 := hB0.trans (hb1.mono hB0.size)
  clear kA hA hb1
  go_wp2_with (fail)
  refine (ms _).mono ?_
  rintro e w2 ⟨rfl, hb2⟩
  have hA2 := keepHeap hb2 hA1
  have kA2 := rowCells hA2
  have hbel2 := hbel1.trans (hb2.mono hbel1.size)
  clear kA1 hA1 hb2
  go_wp2_with (fail)
  refine (tf _).mono ?_
  rintro e w3 ⟨rfl, hb3⟩
  have hbel3 := hbel2.trans (hb3.mono hbel2.size)
  clear kA2 hA2 hb3
  go_wp2_with (fail)
  refine (mi _).mono ?_
  rintro e w4 ⟨rfl, hb4⟩
  have hbel4 := hbel3.trans (hb4.mono hbel3.size)
  go_wp2_with (fail)
  go_ret
  exact ⟨rfl, hbel4⟩
set_option maxHeartbeats 1000000 in
theorem lawNarrow (q : Hu) (fq : q.fits) (g : Bool) {w : World} :
    Calls Try.prog 8 #[huV q, .bool g] w fun e w' => e = .returned (.bool true) ∧ Below w.heap.size w w' := by
  have tf := fun W => toHunt_any q W
  have ms := fun W => narrow_spec q fq g W
  have mi := fun W => narrow_impl q fq g W
  have eqh := fun W => eqHunt_same (narR q g) W
  generalize narR q g = r at ms mi eqh
  unfold huV at tf ms mi eqh ⊢
  obtain ⟨W0, hW, hA, hB0, hS0⟩ := rows1 w #[.int .i64 q.low, .int .i64 q.high, .int .i64 q.steps] 40
  have kA := rowCells hA
  go_enter Try.func8, Try.ntmps8
  go_wp2_with (fail)
  try rw [hW]
  clear hW
  refine (tf _).mono ?_
  rintro e w1 ⟨rfl, hb1⟩
  have hA1 := keepHeap hb1 hA
  have hbel1 := hB0.trans (hb1.mono hB0.size)
  clear kA hA hb1
  go_wp2_with (fail)
  refine (ms _).mono ?_
  rintro e w2 ⟨rfl, hb2⟩
  have hA2 := keepHeap hb2 hA1
  have kA2 := rowCells hA2
  have hbel2 := hbel1.trans (hb2.mono hbel1.size)
  obtain ⟨W3, hW3, hR3, hb3⟩ : ∃ W, w2.alloc (.cells #[.int .i64 r.low, .int .i64 r.high, .int .i64 r.steps] 30) = W ∧ W.heap[w2.heap.size]? = some (.cells #[.int .i64 r.low, .int .i64 r.high, .int .i64 r.steps] 30 (0, 0)) ∧ Below w2.heap.size w2 W := ⟨_, rfl, heap_alloc_new _ _, below1 _ _⟩
  have kA3 := rowCells (keepHeap hb3 hA2)
  have hbel3 := hbel2.trans (hb3.mono hbel2.size)
  clear hA1 hb2
  go_wp2_with (fail)
  try rw [hW3]
  clear hW3
  refine (tf _).mono ?_
  rintro e w4 ⟨rfl, hb4⟩
  have hR4 := keepHeap hb4 hR3
  have hbel4 := hbel3.trans (hb4.mono hbel3.size)
  go_wp2_with (fail)
  refine (mi _).mono ?_
  rintro e w5 ⟨rfl, hb5⟩
  have hR5 := keepHeap hb5 hR4
  have hbel5 := hbel4.trans (hb5.mono hbel4.size)
  obtain ⟨W6, hW6, hG6, hb6⟩ : ∃ W, w5.alloc (.cells #[.int .i64 r.low, .int .i64 r.high, .int .i64 r.steps] 30) = W ∧ W.heap[w5.heap.size]? = some (.cells #[.int .i64 r.low, .int .i64 r.high, .int .i64 r.steps] 30 (0, 0)) ∧ Below w5.heap.size w5 W := ⟨_, rfl, heap_alloc_new _ _, below1 _ _⟩
  have kR6 := rowCells (keepHeap hb6 hR5)
  have kG6 := rowCells hG6
  have hbel6 := hbel5.trans (hb6.mono hbel5.size)
  go_wp2_with (fail)
  try rw [hW6]
  clear hW6
  refine (eqh _).mono ?_
  rintro e w7 ⟨rfl, hb7⟩
  have hbel7 := hbel6.trans (hb7.mono hbel6.size)
  go_wp2_with (fail)
  go_ret
  exact ⟨rfl, hbel7⟩
end Go.Proofs.Ytikaiimafliceaa
