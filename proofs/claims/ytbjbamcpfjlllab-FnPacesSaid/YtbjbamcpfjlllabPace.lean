/-
  Paces: toPace, eqPace; PaceOk, canGuess, GuessTick, AdvantageOf of the program and of the model; their laws. No condition.
-/
import Derived.Test.YtbjbamcpfjlllabTrO
import Derived.Test.YtbjbamcpfjlllabFault
namespace Go.Proofs.Ytbjbamcpfjlllab
open Go.RowKit Go.Joins Go.ChangeShapes Go.WideShapes Go.Deep
set_option linter.all false
structure Pc where
  newest : Int
  their : Int
  at0 : Int
  trip : Int
  samples : Int
/-- The value. -/
def pcV (q : Pc) : Value := .agg #[.int .i64 q.newest, .int .i64 q.their, .int .i64 q.at0, .int .i64 q.trip, .int .i64 q.samples]
/-- Each number fits its kind, each string its length. -/
def Pc.fits (q : Pc) : Prop := (Lit.int .i64 q.newest).wf = true ∧ (Lit.int .i64 q.their).wf = true ∧ (Lit.int .i64 q.at0).wf = true ∧ (Lit.int .i64 q.trip).wf = true ∧ (Lit.int .i64 q.samples).wf = true
instance : Inhabited Pc := ⟨⟨0, 0, 0, 0, 0⟩⟩
section
variable {H : Type} {enc : TypeId × Value → H} {P : Program} {w : World} {base : Nat} {spare : Nat → Bool} {held : Bool}
theorem open_agg5Pace {r : Reach} {b0 : Nat} {t : TypeId} {f0 f1 f2 f3 f4 : Field} {v : Value} {d : DataW H} {p : List MemPlace} (hs : P.underlying t = some (.struct #[f0, f1, f2, f3, f4])) (hone : oneCellFields P #[f0, f1, f2, f3, f4] = true) (hC : P.cellsOf t = 5)
    (hv : Value.okWide P w r b0 t v) (h : DataW.Trod enc P w base spare held t v d p) :
    ∃ (v0 v1 v2 v3 v4 : Value) (y0 y1 y2 y3 y4 : DataW H × List MemPlace) (n : Nat), v = .agg #[v0, v1, v2, v3, v4] ∧ d = .agg [y0.1, y1.1, y2.1, y3.1, y4.1] ∧ p = y0.2 ++ (y1.2 ++ (y2.2 ++ (y3.2 ++ (y4.2)))) ∧
      DataW.trod enc P w base spare held n f0.type [v0] = some y0 ∧ DataW.trod enc P w base spare held n f1.type [v1] = some y1 ∧ DataW.trod enc P w base spare held n f2.type [v2] = some y2 ∧ DataW.trod enc P w base spare held n f3.type [v3] = some y3 ∧ DataW.trod enc P w base spare held n f4.type [v4] = some y4 := by
  obtain ⟨cs, rfl, hsz⟩ := okWide_struct hs hv
  obtain ⟨l⟩ := cs
  match l, hsz.trans hC with
  | [c0, c1, c2, c3, c4], _ =>
    obtain ⟨fuel, hf⟩ := h
    obtain ⟨xs, n, _, hx, _, hlen, hg⟩ := DataW.trod_struct hs hf
    obtain ⟨o0, k0⟩ := hone_of hone 0 f0 rfl
    obtain ⟨o1, k1⟩ := hone_of hone 1 f1 rfl
    obtain ⟨o2, k2⟩ := hone_of hone 2 f2 rfl
    obtain ⟨o3, k3⟩ := hone_of hone 3 f3 rfl
    obtain ⟨o4, k4⟩ := hone_of hone 4 f4 rfl
    match xs, hlen with
    | [y0, y1, y2, y3, y4], _ =>
      simp only [Prod.mk.injEq] at hx
      exact ⟨c0, c1, c2, c3, c4, y0, y1, y2, y3, y4, n, rfl, by simpa using hx.1, by simpa using hx.2, by simpa [Value.cells, o0, k0] using hg 0 f0 rfl, by simpa [Value.cells, o1, k1] using hg 1 f1 rfl, by simpa [Value.cells, o2, k2] using hg 2 f2 rfl, by simpa [Value.cells, o3, k3] using hg 3 f3 rfl, by simpa [Value.cells, o4, k4] using hg 4 f4 rfl⟩
end
/-- Whether a pace is valid. -/
def paceB (q : Pc) : Bool := inR q.newest 0 1000001 && (inR q.their 0 1000001 && (inR q.at0 0 1000001 && (inR q.trip 0 1000001 && inR q.samples 0 1000001)))
theorem paceB_all (q : Pc) : allW 0 1000001 [q.newest, q.their, q.at0, q.trip, q.samples] = paceB q := by unfold allW paceB; simp
theorem paceB_facts {q : Pc} (h : paceB q = true) : (0 ≤ q.newest ∧ q.newest ≤ 1000001) ∧ (0 ≤ q.their ∧ q.their ≤ 1000001) ∧ (0 ≤ q.at0 ∧ q.at0 ≤ 1000001) ∧ (0 ≤ q.trip ∧ q.trip ≤ 1000001) ∧ (0 ≤ q.samples ∧ q.samples ≤ 1000001) := by
  unfold paceB at h
  simp only [Bool.and_eq_true] at h
  exact ⟨(inR_iff _ _ _).1 h.1, (inR_iff _ _ _).1 h.2.1, (inR_iff _ _ _).1 h.2.2.1, (inR_iff _ _ _).1 h.2.2.2.1, (inR_iff _ _ _).1 h.2.2.2.2⟩
theorem paceB_1 {q : Pc} (h : inR q.newest 0 1000001 = false) : paceB q = false := by unfold paceB; rw [h]; rfl
theorem paceB_2 {q : Pc} (h : inR q.their 0 1000001 = false) : paceB q = false := by unfold paceB; rw [h]; simp
theorem paceB_3 {q : Pc} (h : inR q.at0 0 1000001 = false) : paceB q = false := by unfold paceB; rw [h]; simp
theorem paceB_4 {q : Pc} (h : inR q.trip 0 1000001 = false) : paceB q = false := by unfold paceB; rw [h]; simp
theorem RdI.five (W : World) (a b c d e : Int) (t : TypeId) : RdI (W.alloc (.cells #[.int .i64 a, .int .i64 b, .int .i64 c, .int .i64 d, .int .i64 e] t)) (.slice (some ⟨W.heap.size, 0, none⟩) 5 5) [a, b, c, d, e] := by
  refine ⟨some ⟨W.heap.size, 0, none⟩, 5, rfl, .inr ⟨W.heap.size, 0, rfl, fun j hj => ?_⟩⟩
  rw [World.cell?_alloc_mark]
  match j, hj with
  | 0, _ => rfl
  | 1, _ => rfl
  | 2, _ => rfl
  | 3, _ => rfl
  | 4, _ => rfl
set_option maxHeartbeats 1000000 in
theorem paceOk_impl (q : Pc) (w : World) : Calls Try.prog 19 #[pcV q] w fun e w' => e = .returned (.bool (paceB q)) ∧ Below w.heap.size w w' := by
  unfold pcV
  obtain ⟨W0, hW, hA, hB0, hS0⟩ := rows1 w #[.int .i64 q.newest, .int .i64 q.their, .int .i64 q.at0, .int .i64 q.trip, .int .i64 q.samples] 26
  have cA := rowCells hA
  obtain ⟨W2, hW2, r2, hb2⟩ : ∃ W2, W0.alloc (.cells #[.int .i64 q.newest, .int .i64 q.their, .int .i64 q.at0, .int .i64 q.trip, .int .i64 q.samples] 3) = W2 ∧ RdI W2 (.slice (some ⟨W0.heap.size, 0, none⟩) 5 5) [q.newest, q.their, q.at0, q.trip, q.samples] ∧ Below W0.heap.size W0 W2 := ⟨_, rfl, RdI.five _ _ _ _ _ _ _, below1 _ _⟩
  have hb02 := hB0.trans (hb2.mono hB0.size)
  have T1 := allWithin_any r2 (by simp) 0 1000001
  rw [paceB_all] at T1
  clear r2 hb2
  go_enter Try.func19, Try.ntmps19
  go_wp2_with (fail)
  try rw [hW]
  try rw [hW2]
  clear hW hW2
  refine T1.mono ?_
  rintro e w1 ⟨rfl, rfl⟩
  go_wp2_with (fail)
  go_ret
  exact ⟨rfl, hb02⟩
/-- Whether a pace says anything of a time. -/
def canB (q : Pc) (now : Int) : Bool := paceB q && (decide (0 < q.newest) && inR now q.at0 1000000)
def guessI (q : Pc) (now : Int) : Int := if canB q now = true then q.their + now - q.at0 + q.trip / 2 else 0
def advI (q : Pc) (tick now : Int) : Int := if (canB q now && inR tick 0 400) = true then tick - guessI q now else 0
theorem canB_1 {q : Pc} {now : Int} (h : paceB q = false) : canB q now = false := by unfold canB; rw [h]; rfl
theorem canB_2 {q : Pc} {now : Int} (h : ¬ 0 < q.newest) : canB q now = false := by unfold canB; rw [show decide (0 < q.newest) = false by simpa using h]; simp
theorem canB_3 {q : Pc} {now : Int} (h1 : paceB q = true) (h2 : 0 < q.newest) : inR now q.at0 1000000 = canB q now := by unfold canB; rw [h1, show decide (0 < q.newest) = true by simpa using h2]; rfl
theorem canB_facts {q : Pc} {now : Int} (h : canB q now = true) : paceB q = true ∧ 0 < q.newest ∧ q.at0 ≤ now ∧ now ≤ 1000000 := by
  unfold canB at h
  simp only [Bool.and_eq_true, decide_eq_true_eq] at h
  exact ⟨h.1, h.2.1, ((inR_iff _ _ _).1 h.2.2).1, ((inR_iff _ _ _).1 h.2.2).2⟩
theorem guessI_no {q : Pc} {now : Int} (h : canB q now = false) : guessI q now = 0 := by unfold guessI; rw [h]; rfl
theorem guessI_yes {q : Pc} {now : Int} (h : canB q now = true) : guessI q now = q.their + now - q.at0 + q.trip / 2 := by unfold guessI; rw [if_pos h]
theorem guessI_range (q : Pc) (now : Int) : 0 ≤ guessI q now ∧ guessI q now ≤ 3000000 := by
  cases h : canB q now with
  | false => rw [guessI_no h]; omega
  | true =>
    rw [guessI_yes h]
    obtain ⟨h1, h2, h3, h4⟩ := canB_facts h
    obtain ⟨f1, f2, f3, f4, f5⟩ := paceB_facts h1
    omega
set_option maxHeartbeats 1000000 in
theorem canGuess_impl (q : Pc) (now : Int) (w : World) : Calls Try.prog 24 #[pcV q, .int .i64 now] w fun e w' => e = .returned (.bool (canB q now)) ∧ Below w.heap.size w w' := by
  have P1 := fun W => paceOk_impl q W
  unfold pcV at P1 ⊢
  obtain ⟨W0, hW, hA, hB0, hS0⟩ := rows1 w #[.int .i64 q.newest, .int .i64 q.their, .int .i64 q.at0, .int .i64 q.trip, .int .i64 q.samples] 26
  have cA := rowCells hA
  go_enter Try.func24, Try.ntmps24
  go_wp2_with (fail)
  try rw [hW]
  clear hW
  refine (P1 _).mono ?_
  rintro e w1 ⟨rfl, hb1⟩
  have cA1 := rowCells (keepHeap hb1 hA)
  have hb01 := hB0.trans (hb1.mono hB0.size)
  clear cA hb1
  cases q1 : paceB q with
  | false =>
    have HF := Lib.hid (canB_1 (now := now) q1)
    clear q1
    go_wp2_with (fail)
    go_ret
    exact ⟨by rw [HF.out]; rfl, hb01⟩
  | true =>
    by_cases h2 : 0 < q.newest
    · have z2 : decide (0 < q.newest) = true := by simpa using h2
      have HF := Lib.hid (canB_3 (now := now) q1 h2)
      clear q1
      go_wp2_with (fail)
      refine (within_impl _ _ _ _).mono ?_
      rintro e w2 ⟨rfl, rfl⟩
      rw [HF.out]
      go_wp2_with (fail)
      go_ret
      exact ⟨rfl, hb01⟩
    · have z2 : decide (0 < q.newest) = false := by simpa using h2
      have HF := Lib.hid (canB_2 (now := now) h2)
      clear q1
      go_wp2_with (fail)
      go_ret
      exact ⟨by rw [HF.out]; rfl, hb01⟩
theorem half_trip {q : Pc} (h : 0 ≤ q.trip) : q.trip.tdiv 2 = q.trip / 2 := Int.tdiv_eq_ediv_of_nonneg h
set_option maxHeartbeats 1000000 in
theorem guess_impl (q : Pc) (now : Int) (w : World) : Calls Try.prog 9 #[pcV q, .int .i64 now] w fun e w' => e = .returned (.int .i64 (guessI q now)) ∧ Below w.heap.size w w' := by
  have P1 := fun W => canGuess_impl q now W
  unfold pcV at P1 ⊢
  obtain ⟨W0, hW, hA, hB0, hS0⟩ := rows1 w #[.int .i64 q.newest, .int .i64 q.their, .int .i64 q.at0, .int .i64 q.trip, .int .i64 q.samples] 26
  have cA := rowCells hA
  go_enter Try.func9, Try.ntmps9
  go_wp2_with (fail)
  try rw [hW]
  clear hW
  refine (P1 _).mono ?_
  rintro e w1 ⟨rfl, hb1⟩
  have cA1 := rowCells (keepHeap hb1 hA)
  have hb01 := hB0.trans (hb1.mono hB0.size)
  clear cA hb1
  cases q1 : canB q now with
  | false =>
    have HF := Lib.hid (guessI_no q1)
    clear q1
    go_wp2_with (fail)
    go_ret
    exact ⟨by rw [HF.out]; rfl, hb01⟩
  | true =>
    have HF := Lib.hid (guessI_yes q1)
    obtain ⟨h1, h2, h3, h4⟩ := canB_facts q1
    obtain ⟨f1, f2, f3, f4, f5⟩ := paceB_facts h1
    have HT := half_trip f4.1
    generalize hT : q.trip / 2 = t2 at *
    have ht2 : 0 ≤ t2 ∧ t2 ≤ 500001 := by omega
    clear q1 h1 hT
    go_wp2_with (fail)
    go_ret
    exact ⟨ret_int (by rw [HF.out]), hb01⟩
end Go.Proofs.Ytbjbamcpfjlllab
