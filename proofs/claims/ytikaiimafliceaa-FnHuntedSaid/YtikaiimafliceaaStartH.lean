/-
  StartHunt of the program and of the model; what RunHunt comes to. Lists of at most 2^20.
-/
import Derived.Test.YtikaiimafliceaaSums
namespace Go.Proofs.Ytikaiimafliceaa
open Go.RowKit Go.Joins Go.ChangeShapes Go.WideShapes Go.Deep
set_option linter.all false
/-- A hunt to its end, in at most n looks. -/
def runs (f : Int → Bool) : Nat → Hu → Hu
  | 0, q => q
  | n + 1, q => if huntB q = true then runs f n (narR q (f (probeI q))) else q
theorem runs_stop (f : Int → Bool) {q : Hu} (h : huntB q = false) : ∀ n, runs f n q = q
  | 0 => rfl
  | n + 1 => by unfold runs; rw [if_neg (by rw [h]; simp)]
theorem runs_step (f : Int → Bool) {q : Hu} (h : huntB q = true) (n : Nat) : runs f (n + 1) q = runs f n (narR q (f (probeI q))) := by
  rw [runs, if_pos h]
theorem narR_less {q : Hu} (h : huntB q = true) (g : Bool) : (narR q g).high - (narR q g).low < q.high - q.low := by
  have h1 := huntB_facts h
  have h2 := probeI_facts h
  unfold narR; rw [if_pos h]
  cases g <;> simp <;> omega
theorem huntB_room {q : Hu} (h : huntB q = true) : 2 ≤ q.high - q.low := by have := huntB_facts h; omega
def runR (xs ys : List Int) : Int × Int := if startB xs ys = true then ((runs (agreeB xs ys) xs.length (startR xs ys)).high, (runs (agreeB xs ys) xs.length (startR xs ys)).steps) else (-1, 0)
theorem startR_yes {xs ys : List Int} (h : startB xs ys = true) : startR xs ys = ⟨0, lastI xs ys, 2⟩ := by unfold startR; rw [if_pos h]
theorem startR_no {xs ys : List Int} (h : startB xs ys = false) : startR xs ys = ⟨0, 0, 0⟩ := by unfold startR; rw [h]; rfl
theorem lastI_le (xs ys : List Int) : lastI xs ys ≤ (xs.length : Int) - 1 := by unfold lastI; split <;> omega

set_option maxHeartbeats 2000000 in
theorem start_impl {w : World} {v v' : Value} {xs ys : List Int} (h : RdI w v xs) (h' : RdI w v' ys) (hx : xs.length ≤ 1048576) (hy : ys.length ≤ 1048576) :
    Calls Try.prog 15 #[v, v'] w fun e w' => e = .returned (.tuple #[huV (startR xs ys), .bool (startB xs ys)]) ∧ Below w.heap.size w w' := by
  obtain ⟨W0, hW, hA, hB0, hS0⟩ := rows1 w #[.int .i64 0, .int .i64 0, .int .i64 0] 30
  have hr := h.keep hB0
  have hr' := h'.keep hB0
  have hlr := lastI_range hx hy
  obtain ⟨a, cap, rfl, -⟩ := id h
  obtain ⟨a', cap', rfl, -⟩ := id h'
  have h1 : (xs.length : Int) ≤ 1048576 := by omega
  have h2 : (ys.length : Int) ≤ 1048576 := by omega
  have hLC := last_impl hr hr' hx hy
  obtain ⟨l, hl⟩ : ∃ l, l = lastI xs ys := ⟨_, rfl⟩
  rw [← hl] at hLC hlr
  have hSB : Hid (startB xs ys = (agreeB xs ys 0 && !agreeB xs ys l)) := Lib.hid (by rw [hl]; rfl)
  have HL := Lib.hid hl
  clear hl
  go_enter Try.func15, Try.ntmps15
  go_wp2_with (fail)
  try rw [hW]
  clear hW
  refine hLC.mono ?_
  rintro e w1 ⟨rfl, rfl⟩
  clear hLC
  go_wp2_with (fail)
  refine (agree_impl hr hr' hx hy 0).mono ?_
  rintro e w2 ⟨rfl, n1, rfl⟩
  have hA1 : (W0.drewN n1).heap[w.heap.size]? = some (.cells #[.int .i64 0, .int .i64 0, .int .i64 0] 30 (0, 0)) := hA
  have hb1 := below_drewN hB0 n1
  have hr1 : RdI (W0.drewN n1) (.slice a xs.length cap) xs := hr.keep (belowDrew _ _)
  have hr1' : RdI (W0.drewN n1) (.slice a' ys.length cap') ys := hr'.keep (belowDrew _ _)
  generalize W0.drewN n1 = W1 at *
  clear hr hr' hA hB0
  cases q1 : agreeB xs ys 0 with
  | false =>
    have hno : startB xs ys = false := by rw [hSB.out, q1]; rfl
    have HF : Hid (startB xs ys = false) := Lib.hid hno
    have HR : Hid (startR xs ys = ⟨0, 0, 0⟩) := Lib.hid (startR_no hno)
    clear hno hSB q1
    have cA := rowCells hA1
    have fA := fun j => frozenHeap hA1 j
    go_wp2_with (fail)
    refine bodyPost_ret (v := .tuple #[huV ⟨0, 0, 0⟩, .bool false]) (results_two rfl _ _ _ _ _ rfl rfl (loadHu (boxHu_heap hA1 rfl ⟨0, 0, 0⟩) rfl)) rfl ⟨?_, boxHu_below hb1 (Nat.le_refl _) ⟨0, 0, 0⟩⟩
    rw [HF.out, HR.out]
  | true =>
  have Q1 := Lib.hid q1
  clear q1
  go_wp2_with (fail)
  refine (agree_impl hr1 hr1' hx hy l).mono ?_
  rintro e w3 ⟨rfl, n2, rfl⟩
  have hA2 : (W1.drewN n2).heap[w.heap.size]? = some (.cells #[.int .i64 0, .int .i64 0, .int .i64 0] 30 (0, 0)) := hA1
  have hb2 := below_drewN hb1 n2
  generalize W1.drewN n2 = W2 at *
  clear hr1 hr1' hA1 hb1
  have cA := rowCells hA2
  have fA := fun j => frozenHeap hA2 j
  cases q2 : agreeB xs ys l with
  | true =>
    have hno : startB xs ys = false := by rw [hSB.out, Q1.out, q2]; rfl
    have HF : Hid (startB xs ys = false) := Lib.hid hno
    have HR : Hid (startR xs ys = ⟨0, 0, 0⟩) := Lib.hid (startR_no hno)
    clear hno hSB q2
    go_wp2_with (fail)
    refine bodyPost_ret (v := .tuple #[huV ⟨0, 0, 0⟩, .bool false]) (results_two rfl _ _ _ _ _ rfl rfl (loadHu (boxHu_heap hA2 rfl ⟨0, 0, 0⟩) rfl)) rfl ⟨?_, boxHu_below hb2 (Nat.le_refl _) ⟨0, 0, 0⟩⟩
    rw [HF.out, HR.out]
  | false =>
    have hyes : startB xs ys = true := by rw [hSB.out, Q1.out, q2]; rfl
    have HF : Hid (startB xs ys = true) := Lib.hid hyes
    have HR : Hid (startR xs ys = ⟨0, l, 2⟩) := Lib.hid (by rw [startR_yes hyes, HL.out])
    clear hyes hSB q2
    go_wp2_with (fail)
    refine bodyPost_ret (v := .tuple #[huV ⟨0, l, 2⟩, .bool true]) (results_two rfl _ _ _ _ _ rfl rfl (loadHu (boxHu_heap hA2 rfl ⟨0, l, 2⟩) rfl)) rfl ⟨?_, boxHu_below hb2 (Nat.le_refl _) ⟨0, l, 2⟩⟩
    rw [HF.out, HR.out]
set_option maxHeartbeats 2000000 in
theorem start_spec {w : World} {v v' : Value} {xs ys : List Int} (h : RdI w v xs) (h' : RdI w v' ys) (hx : xs.length ≤ 1048576) (hy : ys.length ≤ 1048576) :
    Calls Try.prog 24 #[v, v'] w fun e w' => e = .returned (.tuple #[huV (startR xs ys), .bool (startB xs ys)]) ∧ Below w.heap.size w w' := by
  obtain ⟨W0, hW, hA, hB0, hS0⟩ := rows1 w #[.int .i64 0, .int .i64 0, .int .i64 0] 30
  have hr := h.keep hB0
  have hr' := h'.keep hB0
  have hlr := lastI_range hx hy
  obtain ⟨a, cap, rfl, -⟩ := id h
  obtain ⟨a', cap', rfl, -⟩ := id h'
  have h1 : (xs.length : Int) ≤ 1048576 := by omega
  have h2 : (ys.length : Int) ≤ 1048576 := by omega
  obtain ⟨l, hl⟩ : ∃ l, l = lastI xs ys := ⟨_, rfl⟩
  rw [← hl] at hlr
  have hSB : Hid (startB xs ys = (agreeB xs ys 0 && !agreeB xs ys l)) := Lib.hid (by rw [hl]; rfl)
  have HL := Lib.hid hl
  by_cases hle : xs.length ≤ ys.length
  case pos =>
    have hnl : ¬ ys.length < xs.length := by omega
    have hm2 : min xs.length ys.length = xs.length := by omega
    have hm : min (xs.length : Int) (ys.length : Int) = (xs.length : Int) := by omega
    have hml : (xs.length : Int) - 1 = l := by rw [hl]; unfold lastI; split <;> omega
    clear hl hle
    subst hml
    by_cases hneg : (xs.length : Int) - 1 < 0
    case pos =>
      have z0 : decide ((xs.length : Int) - 1 < 0) = true := by simpa using hneg
      have hno : startB xs ys = false := by
        have h0 : agreeB xs ys 0 = false := agreeB_out (by omega)
        unfold startB; rw [h0]; rfl
      have HF : Hid (startB xs ys = false) := Lib.hid hno
      have HR : Hid (startR xs ys = ⟨0, 0, 0⟩) := Lib.hid (startR_no hno)
      clear hno hSB
      have cA := rowCells hA
      have fA := fun j => frozenHeap hA j
      go_enter Try.func24, Try.ntmps24
      go_wp2_with (fail)
      try rw [hW]
      clear hW
      try go_wp2_with (fail)
      refine bodyPost_ret (v := .tuple #[huV ⟨0, 0, 0⟩, .bool false]) (results_two rfl _ _ _ _ _ rfl rfl (loadHu (boxHu_heap hA rfl ⟨0, 0, 0⟩) rfl)) rfl ⟨?_, boxHu_below hB0 (Nat.le_refl _) ⟨0, 0, 0⟩⟩
      rw [HF.out, HR.out]
    have z0 : decide ((xs.length : Int) - 1 < 0) = false := by simpa using hneg
    go_enter Try.func24, Try.ntmps24
    go_wp2_with (fail)
    try rw [hW]
    clear hW
    obtain ⟨l, hl⟩ : ∃ l, l = (xs.length : Int) - 1 := ⟨_, rfl⟩
    simp only [← hl] at *
    refine (agree_spec hr hr' hx hy 0).mono ?_
    rintro e w2 ⟨rfl, n1, rfl⟩
    have hA1 : (W0.drewN n1).heap[w.heap.size]? = some (.cells #[.int .i64 0, .int .i64 0, .int .i64 0] 30 (0, 0)) := hA
    have hb1 := below_drewN hB0 n1
    have hr1 : RdI (W0.drewN n1) (.slice a xs.length cap) xs := hr.keep (belowDrew _ _)
    have hr1' : RdI (W0.drewN n1) (.slice a' ys.length cap') ys := hr'.keep (belowDrew _ _)
    generalize W0.drewN n1 = W1 at *
    clear hr hr' hA hB0
    cases q1 : agreeB xs ys 0 with
    | false =>
      have hno : startB xs ys = false := by rw [hSB.out, q1]; rfl
      have HF : Hid (startB xs ys = false) := Lib.hid hno
      have HR : Hid (startR xs ys = ⟨0, 0, 0⟩) := Lib.hid (startR_no hno)
      clear hno hSB q1
      have cA := rowCells hA1
      have fA := fun j => frozenHeap hA1 j
      go_wp2_with (fail)
      refine bodyPost_ret (v := .tuple #[huV ⟨0, 0, 0⟩, .bool false]) (results_two rfl _ _ _ _ _ rfl rfl (loadHu (boxHu_heap hA1 rfl ⟨0, 0, 0⟩) rfl)) rfl ⟨?_, boxHu_below hb1 (Nat.le_refl _) ⟨0, 0, 0⟩⟩
      rw [HF.out, HR.out]
    | true =>
    have Q1 := Lib.hid q1
    clear q1
    go_wp2_with (fail)
    refine (agree_spec hr1 hr1' hx hy l).mono ?_
    rintro e w3 ⟨rfl, n2, rfl⟩
    have hA2 : (W1.drewN n2).heap[w.heap.size]? = some (.cells #[.int .i64 0, .int .i64 0, .int .i64 0] 30 (0, 0)) := hA1
    have hb2 := below_drewN hb1 n2
    generalize W1.drewN n2 = W2 at *
    clear hr1 hr1' hA1 hb1
    have cA := rowCells hA2
    have fA := fun j => frozenHeap hA2 j
    cases q2 : agreeB xs ys l with
    | true =>
      have hno : startB xs ys = false := by rw [hSB.out, Q1.out, q2]; rfl
      have HF : Hid (startB xs ys = false) := Lib.hid hno
      have HR : Hid (startR xs ys = ⟨0, 0, 0⟩) := Lib.hid (startR_no hno)
      clear hno hSB q2
      go_wp2_with (fail)
      refine bodyPost_ret (v := .tuple #[huV ⟨0, 0, 0⟩, .bool false]) (results_two rfl _ _ _ _ _ rfl rfl (loadHu (boxHu_heap hA2 rfl ⟨0, 0, 0⟩) rfl)) rfl ⟨?_, boxHu_below hb2 (Nat.le_refl _) ⟨0, 0, 0⟩⟩
      rw [HF.out, HR.out]
    | false =>
      have hyes : startB xs ys = true := by rw [hSB.out, Q1.out, q2]; rfl
      have HF : Hid (startB xs ys = true) := Lib.hid hyes
      have HR : Hid (startR xs ys = ⟨0, l, 2⟩) := Lib.hid (by rw [startR_yes hyes, HL.out])
      clear hyes hSB q2
      go_wp2_with (fail)
      refine bodyPost_ret (v := .tuple #[huV ⟨0, l, 2⟩, .bool true]) (results_two rfl _ _ _ _ _ rfl rfl (loadHu (boxHu_heap hA2 rfl ⟨0, l, 2⟩) rfl)) rfl ⟨?_, boxHu_below hb2 (Nat.le_refl _) ⟨0, l, 2⟩⟩
      rw [HF.out, HR.out]
  case neg =>
    have hnl : ys.length < xs.length := by omega
    have hm2 : min xs.length ys.length = ys.length := by omega
    have hm : min (xs.length : Int) (ys.length : Int) = (ys.length : Int) := by omega
    have hml : (ys.length : Int) - 1 = l := by rw [hl]; unfold lastI; split <;> omega
    clear hl hle
    subst hml
    by_cases hneg : (ys.length : Int) - 1 < 0
    case pos =>
      have z0 : decide ((ys.length : Int) - 1 < 0) = true := by simpa using hneg
      have hno : startB xs ys = false := by
        have h0 : agreeB xs ys 0 = false := agreeB_out (by omega)
        unfold startB; rw [h0]; rfl
      have HF : Hid (startB xs ys = false) := Lib.hid hno
      have HR : Hid (startR xs ys = ⟨0, 0, 0⟩) := Lib.hid (startR_no hno)
      clear hno hSB
      have cA := rowCells hA
      have fA := fun j => frozenHeap hA j
      go_enter Try.func24, Try.ntmps24
      go_wp2_with (fail)
      try rw [hW]
      clear hW
      try go_wp2_with (fail)
      refine bodyPost_ret (v := .tuple #[huV ⟨0, 0, 0⟩, .bool false]) (results_two rfl _ _ _ _ _ rfl rfl (loadHu (boxHu_heap hA rfl ⟨0, 0, 0⟩) rfl)) rfl ⟨?_, boxHu_below hB0 (Nat.le_refl _) ⟨0, 0, 0⟩⟩
      rw [HF.out, HR.out]
    have z0 : decide ((ys.length : Int) - 1 < 0) = false := by simpa using hneg
    go_enter Try.func24, Try.ntmps24
    go_wp2_with (fail)
    try rw [hW]
    clear hW
    obtain ⟨l, hl⟩ : ∃ l, l = (ys.length : Int) - 1 := ⟨_, rfl⟩
    simp only [← hl] at *
    refine (agree_spec hr hr' hx hy 0).mono ?_
    rintro e w2 ⟨rfl, n1, rfl⟩
    have hA1 : (W0.drewN n1).heap[w.heap.size]? = some (.cells #[.int .i64 0, .int .i64 0, .int .i64 0] 30 (0, 0)) := hA
    have hb1 := below_drewN hB0 n1
    have hr1 : RdI (W0.drewN n1) (.slice a xs.length cap) xs := hr.keep (belowDrew _ _)
    have hr1' : RdI (W0.drewN n1) (.slice a' ys.length cap') ys := hr'.keep (belowDrew _ _)
    generalize W0.drewN n1 = W1 at *
    clear hr hr' hA hB0
    cases q1 : agreeB xs ys 0 with
    | false =>
      have hno : startB xs ys = false := by rw [hSB.out, q1]; rfl
      have HF : Hid (startB xs ys = false) := Lib.hid hno
      have HR : Hid (startR xs ys = ⟨0, 0, 0⟩) := Lib.hid (startR_no hno)
      clear hno hSB q1
      have cA := rowCells hA1
      have fA := fun j => frozenHeap hA1 j
      go_wp2_with (fail)
      refine bodyPost_ret (v := .tuple #[huV ⟨0, 0, 0⟩, .bool false]) (results_two rfl _ _ _ _ _ rfl rfl (loadHu (boxHu_heap hA1 rfl ⟨0, 0, 0⟩) rfl)) rfl ⟨?_, boxHu_below hb1 (Nat.le_refl _) ⟨0, 0, 0⟩⟩
      rw [HF.out, HR.out]
    | true =>
    have Q1 := Lib.hid q1
    clear q1
    go_wp2_with (fail)
    refine (agree_spec hr1 hr1' hx hy l).mono ?_
    rintro e w3 ⟨rfl, n2, rfl⟩
    have hA2 : (W1.drewN n2).heap[w.heap.size]? = some (.cells #[.int .i64 0, .int .i64 0, .int .i64 0] 30 (0, 0)) := hA1
    have hb2 := below_drewN hb1 n2
    generalize W1.drewN n2 = W2 at *
    clear hr1 hr1' hA1 hb1
    have cA := rowCells hA2
    have fA := fun j => frozenHeap hA2 j
    cases q2 : agreeB xs ys l with
    | true =>
      have hno : startB xs ys = false := by rw [hSB.out, Q1.out, q2]; rfl
      have HF : Hid (startB xs ys = false) := Lib.hid hno
      have HR : Hid (startR xs ys = ⟨0, 0, 0⟩) := Lib.hid (startR_no hno)
      clear hno hSB q2
      go_wp2_with (fail)
      refine bodyPost_ret (v := .tuple #[huV ⟨0, 0, 0⟩, .bool false]) (results_two rfl _ _ _ _ _ rfl rfl (loadHu (boxHu_heap hA2 rfl ⟨0, 0, 0⟩) rfl)) rfl ⟨?_, boxHu_below hb2 (Nat.le_refl _) ⟨0, 0, 0⟩⟩
      rw [HF.out, HR.out]
    | false =>
      have hyes : startB xs ys = true := by rw [hSB.out, Q1.out, q2]; rfl
      have HF : Hid (startB xs ys = true) := Lib.hid hyes
      have HR : Hid (startR xs ys = ⟨0, l, 2⟩) := Lib.hid (by rw [startR_yes hyes, HL.out])
      clear hyes hSB q2
      go_wp2_with (fail)
      refine bodyPost_ret (v := .tuple #[huV ⟨0, l, 2⟩, .bool true]) (results_two rfl _ _ _ _ _ rfl rfl (loadHu (boxHu_heap hA2 rfl ⟨0, l, 2⟩) rfl)) rfl ⟨?_, boxHu_below hb2 (Nat.le_refl _) ⟨0, l, 2⟩⟩
      rw [HF.out, HR.out]

set_option maxHeartbeats 2000000 in
theorem lawStartHunt {w : World} (a : Option Addr) (len cap : Nat) (zs : List Int) (hr : IsRow .i64 w a len cap zs) (a' : Option Addr) (len' cap' : Nat) (zs' : List Int) (hr' : IsRow .i64 w a' len' cap' zs') :
    Calls Try.prog 6 #[.slice a len cap, .slice a' len' cap'] w fun e w' => e = .returned (.bool true) ∧ Below w.heap.size w w' := by
  obtain ⟨hrd, hl, _⟩ := RdI.of_row hr
  obtain ⟨hrd', hl', _⟩ := RdI.of_row hr'
  have hm : len ≤ maxLen := by
    rcases hr with ⟨_, rfl, _⟩ | ⟨x, _, h1, h2, _⟩
    · exact Nat.zero_le _
    · exact Nat.le_trans h1 h2
  have hm' : len' ≤ maxLen := by
    rcases hr' with ⟨_, rfl, _⟩ | ⟨x, _, h1, h2, _⟩
    · exact Nat.zero_le _
    · exact Nat.le_trans h1 h2
  unfold maxLen at hm hm'
  clear hr hr'
  by_cases h : 1048576 < len
  · go_enter Try.func6, Try.ntmps6
    go_wp2_with (fail)
    go_ret
    exact ⟨rfl, Below.refl _ _⟩
  have hle : (len : Int) ≤ 1048576 := by omega
  by_cases h' : 1048576 < len'
  · go_enter Try.func6, Try.ntmps6
    go_wp2_with (fail)
    go_ret
    exact ⟨rfl, Below.refl _ _⟩
  have hle' : (len' : Int) ≤ 1048576 := by omega
  generalize zs.take len = xs at hrd hl
  generalize zs'.take len' = ys at hrd' hl'
  have hx : xs.length ≤ 1048576 := by omega
  have hy : ys.length ≤ 1048576 := by omega
  have hn : xs.length ≤ 1099511627776 := by omega
  have hn' : ys.length ≤ 1099511627776 := by omega
  have HL := Lib.hid hl
  have HL' := Lib.hid hl'
  clear hl hl' h h' hm hm'
  have hSP := fun {W : World} {v v' : Value} (r : RdI W v xs) (r' : RdI W v' ys) => start_spec r r' hx hy
  have hIM := fun {W : World} {v v' : Value} (r : RdI W v xs) (r' : RdI W v' ys) => start_impl r r' hx hy
  have eqh := fun W => eqHunt_same (startR xs ys) W
  generalize startR xs ys = r at hSP hIM eqh
  generalize startB xs ys = g at hSP hIM
  unfold huV at hSP hIM eqh
  go_enter Try.func6, Try.ntmps6
  go_wp2_with (fail)
  refine (toIntS_any hrd hn).mono ?_
  rintro e w1 ⟨v1, rfl, r1, b1⟩
  go_wp2_with (fail)
  have q1 := b1
  refine (toIntS_any (hrd'.keep q1) hn').mono ?_
  rintro e w2 ⟨v2, rfl, r2, b2⟩
  have q2 := q1.trans (b2.mono q1.size)
  have r1' := r1.keep b2
  go_wp2_with (fail)
  refine (hSP r1' r2).mono ?_
  rintro e w3 ⟨rfl, b3⟩
  have q3 := q2.trans (b3.mono q2.size)
  clear r1 r1' r2 b1 b2 b3 q1 q2
  obtain ⟨w3a, hw_w3a, A3, b_w3a⟩ : ∃ W, w3.alloc (.cells #[.int .i64 r.low, .int .i64 r.high, .int .i64 r.steps] 30) = W ∧ W.heap[w3.heap.size]? = some (.cells #[.int .i64 r.low, .int .i64 r.high, .int .i64 r.steps] 30 (0, 0)) ∧ Below w3.heap.size w3 W := ⟨_, rfl, heap_alloc_new _ _, below1 _ _⟩
  have q3 := q3.trans (b_w3a.mono q3.size)
  go_wp2_with (fail)
  try rw [hw_w3a]
  clear hw_w3a
  refine (toIntS_any (hrd.keep q3) hn).mono ?_
  rintro e w4 ⟨v4, rfl, r4, b4⟩
  have q4 := q3.trans (b4.mono q3.size)
  have A4 := keepHeap b4 A3
  go_wp2_with (fail)
  refine (toIntS_any (hrd'.keep q4) hn').mono ?_
  rintro e w5 ⟨v5, rfl, r5, b5⟩
  have q5 := q4.trans (b5.mono q4.size)
  have A5 := keepHeap b5 A4
  have r4 := r4.keep b5
  go_wp2_with (fail)
  refine (hIM r4 r5).mono ?_
  rintro e w6 ⟨rfl, b6⟩
  have q6 := q5.trans (b6.mono q5.size)
  have A6 := keepHeap b6 A5
  have r4 := r4.keep b6
  have r5 := r5.keep b6
  obtain ⟨w6a, hw_w6a, G6, b_w6a⟩ : ∃ W, w6.alloc (.cells #[.int .i64 r.low, .int .i64 r.high, .int .i64 r.steps] 30) = W ∧ W.heap[w6.heap.size]? = some (.cells #[.int .i64 r.low, .int .i64 r.high, .int .i64 r.steps] 30 (0, 0)) ∧ Below w6.heap.size w6 W := ⟨_, rfl, heap_alloc_new _ _, below1 _ _⟩
  have q6 := q6.trans (b_w6a.mono q6.size)
  have r4 := r4.keep b_w6a
  have r5 := r5.keep b_w6a
  have kA := rowCells (keepHeap b_w6a A6)
  have kG := rowCells G6
  go_wp2_with (fail)
  try rw [hw_w6a]
  clear hw_w6a
  refine (eqh _).mono ?_
  rintro e w6b ⟨rfl, b6b⟩
  have q6 := q6.trans (b6b.mono q6.size)
  have r4 := r4.keep b6b
  have r5 := r5.keep b6b
  go_wp2_with (fail)
  refine (toIntS_any (hrd.keep q6) hn).mono ?_
  rintro e w7 ⟨v7, rfl, r7, b7⟩
  have q7 := q6.trans (b7.mono q6.size)
  go_wp2_with (fail)
  refine (eqIntS_same (r4.keep b7) r7 hn).mono ?_
  rintro e w8 ⟨rfl, n8, rfl⟩
  have q8 := below_drewN q7 n8
  have r5 : RdI (w7.drewN n8) v5 ys := (r5.keep b7).keep (belowDrew _ _)
  go_wp2_with (fail)
  refine (toIntS_any (hrd'.keep q8) hn').mono ?_
  rintro e w9 ⟨v9, rfl, r9, b9⟩
  have q9 := q8.trans (b9.mono q8.size)
  go_wp2_with (fail)
  refine (eqIntS_same (r5.keep b9) r9 hn').mono ?_
  rintro e w10 ⟨rfl, n10, rfl⟩
  go_wp2_with (fail)
  go_ret
  exact ⟨rfl, below_drewN q9 _⟩
end Go.Proofs.Ytikaiimafliceaa
