/-
  WireOk and WireQuiet: the contracts of the model and of the program. No condition but that lists can be.
-/
import Derived.Test.YteafgghpkohfpabWir
import Derived.Test.YteafgghpkohfpabTrO
import Derived.Test.YteafgghpkohfpabFault
namespace Go.Proofs.Yteafgghpkohfpab
open Go.RowKit
set_option linter.all false
def flB (f : Fl) : Bool := inR f.at0 0 1100000 && inR (f.data.length : Int) 1 20000
def flsB (X : List Fl) : Bool := X.all flB
theorem flsB_bad {X : List Fl} {k : Nat} (hk : k < X.length) (h : flB X[k] = false) : flsB X = false := by
  unfold flsB; rw [List.all_eq_false]; exact ⟨_, List.getElem_mem hk, by rw [h]; simp⟩
theorem flsB_ok {X : List Fl} (h : ∀ k (hk : k < X.length), flB X[k] = true) : flsB X = true := by
  unfold flsB; rw [List.all_eq_true]; intro x hx
  obtain ⟨i, hi, rfl⟩ := List.getElem_of_mem hx
  exact h i hi
theorem flB_1 {f : Fl} (h : inR f.at0 0 1100000 = false) : flB f = false := by unfold flB; rw [h]; rfl
theorem flB_2 {f : Fl} (h : inR (f.data.length : Int) 1 20000 = false) : flB f = false := by unfold flB; rw [h]; simp
theorem flB_ok {f : Fl} (h1 : inR f.at0 0 1100000 = true) (h2 : inR (f.data.length : Int) 1 20000 = true) : flB f = true := by unfold flB; rw [h1, h2]; rfl
/-- Whether a wire is valid. -/
def wireB (x : Wi) : Bool := flsB x.fls && (decide (x.fls.length ≤ 200) && (inR x.seed 0 65535 && (inR x.delay 0 12 && (inR x.jitter 0 12 && (inR x.loss 0 100 && (inR x.copies 0 100 && (inR x.damage 0 100 && (inR x.now 0 1000000 && (inR x.sent 0 1000000 && (inR x.lost 0 1000000))))))))))
theorem RdI.w2 (W : World) (a b : Int) (t : TypeId) : RdI (W.alloc (.cells #[.int .i64 a, .int .i64 b] t)) (.slice (some ⟨W.heap.size, 0, none⟩) 2 2) [a, b] := by
  refine ⟨some ⟨W.heap.size, 0, none⟩, 2, rfl, .inr ⟨W.heap.size, 0, rfl, fun j hj => ?_⟩⟩
  rw [World.cell?_alloc_mark]
  match j, hj with
  | 0, _ => rfl
  | 1, _ => rfl
theorem RdI.w3 (W : World) (a b c : Int) (t : TypeId) : RdI (W.alloc (.cells #[.int .i64 a, .int .i64 b, .int .i64 c] t)) (.slice (some ⟨W.heap.size, 0, none⟩) 3 3) [a, b, c] := by
  refine ⟨some ⟨W.heap.size, 0, none⟩, 3, rfl, .inr ⟨W.heap.size, 0, rfl, fun j hj => ?_⟩⟩
  rw [World.cell?_alloc_mark]
  match j, hj with
  | 0, _ => rfl
  | 1, _ => rfl
  | 2, _ => rfl
theorem allW_2 (lo hi a b : Int) : allW lo hi [a, b] = (inR a lo hi && inR b lo hi) := by unfold allW; simp
theorem allW_3 (lo hi a b c : Int) : allW lo hi [a, b, c] = (inR a lo hi && (inR b lo hi && inR c lo hi)) := by unfold allW; simp
theorem wireB_f {x : Wi} (h : flsB x.fls = false) : wireB x = false := by unfold wireB; rw [h]; rfl
theorem wireB_n {x : Wi} (h : decide (x.fls.length ≤ 200) = false) : wireB x = false := by unfold wireB; rw [h]; simp
theorem wireB_seed {x : Wi} (h : inR x.seed 0 65535 = false) : wireB x = false := by unfold wireB; rw [h]; simp
theorem wireB_delay {x : Wi} (h : inR x.delay 0 12 = false) : wireB x = false := by unfold wireB; rw [h]; simp
theorem wireB_jitter {x : Wi} (h : inR x.jitter 0 12 = false) : wireB x = false := by unfold wireB; rw [h]; simp
theorem wireB_loss {x : Wi} (h : inR x.loss 0 100 = false) : wireB x = false := by unfold wireB; rw [h]; simp
theorem wireB_copies {x : Wi} (h : inR x.copies 0 100 = false) : wireB x = false := by unfold wireB; rw [h]; simp
theorem wireB_damage {x : Wi} (h : inR x.damage 0 100 = false) : wireB x = false := by unfold wireB; rw [h]; simp
theorem wireB_now {x : Wi} (h : inR x.now 0 1000000 = false) : wireB x = false := by unfold wireB; rw [h]; simp
theorem wireB_sent {x : Wi} (h : inR x.sent 0 1000000 = false) : wireB x = false := by unfold wireB; rw [h]; simp
theorem wireB_lost {x : Wi} (h : inR x.lost 0 1000000 = false) : wireB x = false := by unfold wireB; rw [h]; simp
theorem wireB_ok {x : Wi} (hf : flsB x.fls = true) (hn : decide (x.fls.length ≤ 200) = true) (h0 : inR x.seed 0 65535 = true) (h1 : inR x.delay 0 12 = true) (h2 : inR x.jitter 0 12 = true) (h3 : inR x.loss 0 100 = true) (h4 : inR x.copies 0 100 = true) (h5 : inR x.damage 0 100 = true) (h6 : inR x.now 0 1000000 = true) (h7 : inR x.sent 0 1000000 = true) (h8 : inR x.lost 0 1000000 = true) : wireB x = true := by unfold wireB; rw [hf, hn, h0, h1, h2, h3, h4, h5, h6, h7, h8]; rfl
theorem wireB_facts {x : Wi} (h : wireB x = true) : flsB x.fls = true ∧ x.fls.length ≤ 200 ∧ (0 ≤ x.seed ∧ x.seed ≤ 65535) ∧ (0 ≤ x.delay ∧ x.delay ≤ 12) ∧ (0 ≤ x.jitter ∧ x.jitter ≤ 12) ∧ (0 ≤ x.loss ∧ x.loss ≤ 100) ∧ (0 ≤ x.copies ∧ x.copies ≤ 100) ∧ (0 ≤ x.damage ∧ x.damage ≤ 100) ∧ (0 ≤ x.now ∧ x.now ≤ 1000000) ∧ (0 ≤ x.sent ∧ x.sent ≤ 1000000) ∧ (0 ≤ x.lost ∧ x.lost ≤ 1000000) := by
  unfold wireB at h
  simp only [Bool.and_eq_true, decide_eq_true_eq, inR_iff] at h
  exact h
theorem wireB_d {x : Wi} (h : allW 0 12 [x.delay, x.jitter] = false) : wireB x = false := by
  rw [allW_2, Bool.and_eq_false_iff] at h
  rcases h with h | h
  · exact wireB_delay h
  · exact wireB_jitter h
theorem wireB_p {x : Wi} (h : allW 0 100 [x.loss, x.copies, x.damage] = false) : wireB x = false := by
  rw [allW_3, Bool.and_eq_false_iff, Bool.and_eq_false_iff] at h
  rcases h with h | h | h
  · exact wireB_loss h
  · exact wireB_copies h
  · exact wireB_damage h
theorem wireB_c {x : Wi} (h : allW 0 1000000 [x.sent, x.lost] = false) : wireB x = false := by
  rw [allW_2, Bool.and_eq_false_iff] at h
  rcases h with h | h
  · exact wireB_sent h
  · exact wireB_lost h
def fokB (X : List Fl) : Bool := flsB X && decide (X.length ≤ 200)
theorem wireB_all {x : Wi} (h0 : inR x.seed 0 65535 = true) (h1 : allW 0 12 [x.delay, x.jitter] = true) (h2 : allW 0 100 [x.loss, x.copies, x.damage] = true) (h3 : inR x.now 0 1000000 = true) (h4 : allW 0 1000000 [x.sent, x.lost] = true) : wireB x = fokB x.fls := by
  rw [allW_2, Bool.and_eq_true] at h1 h4
  rw [allW_3, Bool.and_eq_true, Bool.and_eq_true] at h2
  unfold wireB fokB
  rw [h0, h1.1, h1.2, h2.1, h2.2.1, h2.2.2, h3, h4.1, h4.2]
  simp
set_option maxHeartbeats 1000000 in
theorem flightsOk_any {w : World} {v : Value} {X : List Fl} (h : RdFl w v X) (hn : X.length ≤ 9223372036854775807) (hf : ∀ f ∈ X, f.fits) :
    Calls Try.prog 87 #[v] w fun e w' => e = .returned (.bool (fokB X)) ∧ Below w.heap.size w w' := by
  obtain ⟨a, cap, rfl, h⟩ := h
  have hlc : (X.length : Int) ≤ 9223372036854775807 := by omega
  go_enter Try.func87, Try.ntmps87
  go_wp2_with (fail)
  go_loopw [7] (fun i wr => ∃ k : Nat, k ≤ X.length ∧ i = .int .i64 (k : Int) ∧ Below w.heap.size w wr ∧ Hid (∀ j (hj : j < X.length), j < k → flB X[j] = true)) (fun i _ => X.length - (intOf i).toNat)
  case atStart => exact ⟨0, Nat.zero_le _, rfl, Below.refl _ _, Lib.hid (fun j hj hl => by omega)⟩
  case round =>
    obtain ⟨k, hk, rfl, hbel, HA⟩ := hrel
    by_cases hkl : k < X.length
    · obtain ⟨b, off, rfl, hc⟩ := h.resolve_left (by intro e; rw [e] at hkl; simp at hkl)
      have c0 := hc k hkl
      have c1 : wr.rangeAt b (off + k * 2) (flL X[k]) := rangeKeep c0 hbel (rangeFl c0)
      have hkk : (k : Int) < (X.length : Int) := by omega
      have hq := (hf X[k] (List.getElem_mem _)).2
      obtain ⟨x, hx⟩ : ∃ x, x = X[k] := ⟨_, rfl⟩
      have HBAD : Hid (flB x = false → fokB X = false) := Lib.hid (fun e => by unfold fokB; rw [flsB_bad hkl (by rw [← hx]; exact e)]; rfl)
      rw [← hx] at c1 hq
      have HX := Lib.hid hx
      have hdc : (x.data.length : Int) ≤ 9223372036854775807 := by omega
      obtain ⟨d0, d1⟩ := cellsFl c1
      have hsz := hbel.size
      obtain ⟨W1, hW1, hP1, hbW⟩ : ∃ W, wr.alloc (.cells #[.int .i64 x.at0, .string ⟨x.data.toArray⟩] 101) = W ∧ W.heap[wr.heap.size]? = some (.cells #[.int .i64 x.at0, .string ⟨x.data.toArray⟩] 101 (0, 0)) ∧ Below wr.heap.size wr W := ⟨_, rfl, heap_alloc_new _ _, below1 _ _⟩
      have cP := rowCells hP1
      have hbel1 := hbel.trans (hbW.mono hsz)
      clear hc c0 hx c1 h
      go_wp2_with (fail)
      try rw [hW1]
      clear hW1
      refine (within_impl _ _ _ _).mono ?_
      rintro e w2 ⟨rfl, rfl⟩
      cases q1 : inR x.at0 0 1100000 with
      | false =>
        have HF := Lib.hid (HBAD.out (flB_1 q1))
        clear q1
        go_wp2_with (fail)
        go_ret
        exact ⟨by rw [HF.out]; rfl, hbel1⟩
      | true =>
      have Q1 := Lib.hid q1
      clear q1
      go_wp2_with (fail)
      refine (within_impl _ _ _ _).mono ?_
      rintro e w2 ⟨rfl, rfl⟩
      cases q2 : inR (x.data.length : Int) 1 20000 with
      | false =>
        have HF := Lib.hid (HBAD.out (flB_2 q2))
        clear q2
        go_wp2_with (fail)
        go_ret
        exact ⟨by rw [HF.out]; rfl, hbel1⟩
      | true =>
      have HQ := Lib.hid (flB_ok Q1.out q2)
      clear q2
      go_wp2_with (fail)
      go_roundw
      case rel =>
        refine ⟨k + 1, by omega, by go_num, hbel1, Lib.hid (fun j hj hl => ?_)⟩
        by_cases e : j = k
        · subst e; rw [← HX.out]; exact HQ.out
        · exact HA.out j hj (by omega)
      case measure => simp [intOf]; omega
    · have HF : Hid (fokB X = decide (X.length ≤ 200)) := Lib.hid (by unfold fokB; rw [flsB_ok (fun j hj => HA.out j hj (by omega))]; rfl)
      by_cases h200 : X.length ≤ 200
      · have HZ : Hid (decide (X.length ≤ 200) = true) := Lib.hid (by simpa using h200)
        have z1 : decide ((X.length : Int) ≤ 200) = true := by simp; omega
        go_wp2_with (fail)
        go_ret
        exact ⟨by rw [HF.out, HZ.out]; rfl, hbel⟩
      · have HZ : Hid (decide (X.length ≤ 200) = false) := Lib.hid (by simpa using h200)
        have z1 : decide ((X.length : Int) ≤ 200) = false := by simp; omega
        go_wp2_with (fail)
        go_ret
        exact ⟨by rw [HF.out, HZ.out]; rfl, hbel⟩
set_option maxRecDepth 100000 in
set_option maxHeartbeats 2000000 in
theorem wireOk_impl {w : World} {x : Wi} {vf : Value} (h : RdFl w vf x.fls) (hs : x.sane) :
    Calls Try.prog 63 #[.agg (wiC x vf)] w fun e w' => e = .returned (.bool (wireB x)) ∧ Below w.heap.size w w' := by
  obtain ⟨hs1, hs2⟩ := hs
  have h0 := h
  obtain ⟨al, cl, rfl, -⟩ := id h
  unfold wiC
  obtain ⟨W0, hW, hA, hB0, hS0⟩ := rows1 w #[.int .i64 x.seed, .int .i64 x.delay, .int .i64 x.jitter, .int .i64 x.loss, .int .i64 x.copies, .int .i64 x.damage, .int .i64 x.now, .slice al x.fls.length cl, .int .i64 x.sent, .int .i64 x.lost] 52
  have cA := rowCells hA
  obtain ⟨W2, hW2, r2, hb2⟩ : ∃ W2, W0.alloc (.cells #[.int .i64 x.delay, .int .i64 x.jitter] 3) = W2 ∧ RdI W2 (.slice (some ⟨W0.heap.size, 0, none⟩) 2 2) [x.delay, x.jitter] ∧ Below W0.heap.size W0 W2 := ⟨_, rfl, RdI.w2 _ _ _ _, below1 _ _⟩
  have hA2 := keepHeap hb2 hA
  have cA2 := rowCells hA2
  have hb02 := hB0.trans (hb2.mono hB0.size)
  obtain ⟨W3, hW3, r3, hb3⟩ : ∃ W3, W2.alloc (.cells #[.int .i64 x.loss, .int .i64 x.copies, .int .i64 x.damage] 3) = W3 ∧ RdI W3 (.slice (some ⟨W2.heap.size, 0, none⟩) 3 3) [x.loss, x.copies, x.damage] ∧ Below W2.heap.size W2 W3 := ⟨_, rfl, RdI.w3 _ _ _ _ _, below1 _ _⟩
  have hA3 := keepHeap hb3 hA2
  have cA3 := rowCells hA3
  have hb03 := hb02.trans (hb3.mono hb02.size)
  obtain ⟨W4, hW4, r4, hb4⟩ : ∃ W4, W3.alloc (.cells #[.int .i64 x.sent, .int .i64 x.lost] 3) = W4 ∧ RdI W4 (.slice (some ⟨W3.heap.size, 0, none⟩) 2 2) [x.sent, x.lost] ∧ Below W3.heap.size W3 W4 := ⟨_, rfl, RdI.w2 _ _ _ _, below1 _ _⟩
  have hA4 := keepHeap hb4 hA3
  have cA4 := rowCells hA4
  have hb04 := hb03.trans (hb4.mono hb03.size)
  have T1 := allWithin_any r2 (by simp) 0 12
  have T2 := allWithin_any r3 (by simp) 0 100
  have T3 := allWithin_any r4 (by simp) 0 1000000
  have T4 := flightsOk_any (h0.keep hb04) hs1 hs2
  clear r2 r3 r4 hb2 hb3 hb4 hA2 hA3 hA4
  go_enter Try.func63, Try.ntmps63
  go_wp2_with (fail)
  try rw [hW]
  clear hW
  refine (within_impl _ _ _ _).mono ?_
  rintro e w1 ⟨rfl, rfl⟩
  cases q0 : inR x.seed 0 65535 with
  | false =>
    have HF := Lib.hid (wireB_seed q0)
    clear q0
    go_wp2_with (fail)
    go_ret
    exact ⟨by rw [HF.out]; rfl, hB0⟩
  | true =>
  have Q0 := Lib.hid q0
  clear q0
  go_wp2_with (fail)
  try rw [hW2]
  clear hW2
  refine T1.mono ?_
  rintro e w1 ⟨rfl, rfl⟩
  cases q1 : allW 0 12 [x.delay, x.jitter] with
  | false =>
    have HF := Lib.hid (wireB_d q1)
    clear q1
    go_wp2_with (fail)
    go_ret
    exact ⟨by rw [HF.out]; rfl, hb02⟩
  | true =>
  have Q1 := Lib.hid q1
  clear q1 cA
  go_wp2_with (fail)
  try rw [hW3]
  clear hW3
  refine T2.mono ?_
  rintro e w1 ⟨rfl, rfl⟩
  cases q2 : allW 0 100 [x.loss, x.copies, x.damage] with
  | false =>
    have HF := Lib.hid (wireB_p q2)
    clear q2
    go_wp2_with (fail)
    go_ret
    exact ⟨by rw [HF.out]; rfl, hb03⟩
  | true =>
  have Q2 := Lib.hid q2
  clear q2 cA2
  go_wp2_with (fail)
  refine (within_impl _ _ _ _).mono ?_
  rintro e w1 ⟨rfl, rfl⟩
  cases q3 : inR x.now 0 1000000 with
  | false =>
    have HF := Lib.hid (wireB_now q3)
    clear q3
    go_wp2_with (fail)
    go_ret
    exact ⟨by rw [HF.out]; rfl, hb03⟩
  | true =>
  have Q3 := Lib.hid q3
  clear q3
  go_wp2_with (fail)
  try rw [hW4]
  clear hW4
  refine T3.mono ?_
  rintro e w1 ⟨rfl, rfl⟩
  cases q4 : allW 0 1000000 [x.sent, x.lost] with
  | false =>
    have HF := Lib.hid (wireB_c q4)
    clear q4
    go_wp2_with (fail)
    go_ret
    exact ⟨by rw [HF.out]; rfl, hb04⟩
  | true =>
  have HF := Lib.hid (wireB_all Q0.out Q1.out Q2.out Q3.out q4)
  clear q4 cA3
  go_wp2_with (fail)
  refine T4.mono ?_
  rintro e w5 ⟨rfl, hb5⟩
  go_wp2_with (fail)
  go_ret
  exact ⟨by rw [HF.out]; rfl, hb04.trans (hb5.mono hb04.size)⟩

set_option maxRecDepth 100000 in
set_option maxHeartbeats 2000000 in
theorem wireOk_spec {w : World} {x : Wi} {vf : Value} (h : RdFl w vf x.fls) (hs : x.sane) :
    Calls Try.prog 56 #[.agg (wiC x vf)] w fun e w' => e = .returned (.bool (wireB x)) ∧ Below w.heap.size w w' := by
  obtain ⟨hs1, hs2⟩ := hs
  have h0 := h
  obtain ⟨al, cl, rfl, -⟩ := id h
  unfold wiC
  obtain ⟨W0, hW, hA, hB0, hS0⟩ := rows1 w #[.int .i64 x.seed, .int .i64 x.delay, .int .i64 x.jitter, .int .i64 x.loss, .int .i64 x.copies, .int .i64 x.damage, .int .i64 x.now, .slice al x.fls.length cl, .int .i64 x.sent, .int .i64 x.lost] 52
  have cA := rowCells hA
  have hlc : (x.fls.length : Int) ≤ 9223372036854775807 := by omega
  have hfl := (h0.keep hB0)
  have hHF := Lib.hid hs2
  clear h hs2
  go_enter Try.func56, Try.ntmps56
  go_wp2_with (fail)
  try rw [hW]
  clear hW
  go_loop [3] (fun i => ∃ k : Nat, k ≤ x.fls.length ∧ i = .int .i64 (k : Int) ∧ Hid (∀ j (hj : j < x.fls.length), j < k → flB x.fls[j] = true)) (fun i => x.fls.length - (intOf i).toNat)
  case atStart => exact ⟨0, Nat.zero_le _, rfl, Lib.hid (fun j hj hl => by omega)⟩
  case round =>
    obtain ⟨k, hk, rfl, HA⟩ := hrel
    by_cases hkl : k < x.fls.length
    · obtain ⟨a2, c2, e2, h2⟩ := hfl
      obtain ⟨b, off, e3, hc⟩ := h2.resolve_left (by intro e; rw [e] at hkl; simp at hkl)
      subst e3
      simp only [Value.slice.injEq] at e2
      obtain ⟨rfl, -, rfl⟩ := e2
      have c1 := hc k hkl
      have hkk : (k : Int) < (x.fls.length : Int) := by omega
      have hq := (hHF.out x.fls[k] (List.getElem_mem _)).2
      obtain ⟨y, hy⟩ : ∃ y, y = x.fls[k] := ⟨_, rfl⟩
      have HBAD : Hid (flB y = false → wireB x = false) := Lib.hid (fun e => wireB_f (flsB_bad hkl (by rw [← hy]; exact e)))
      rw [← hy] at c1 hq
      have HX := Lib.hid hy
      have hdc : (y.data.length : Int) ≤ 9223372036854775807 := by omega
      obtain ⟨d0, d1⟩ := cellsFl c1
      clear hc hy c1 h2 h0
      go_wp2_with (fail)
      refine (in_spec _ _ _ _).mono ?_
      rintro e w2 ⟨rfl, rfl⟩
      cases q1 : inR y.at0 0 1100000 with
      | false =>
        have HF := Lib.hid (HBAD.out (flB_1 q1))
        clear q1
        go_wp2_with (fail)
        go_ret
        exact ⟨by rw [HF.out]; rfl, hB0⟩
      | true =>
      have Q1 := Lib.hid q1
      clear q1
      go_wp2_with (fail)
      refine (in_spec _ _ _ _).mono ?_
      rintro e w2 ⟨rfl, rfl⟩
      cases q2 : inR (y.data.length : Int) 1 20000 with
      | false =>
        have HF := Lib.hid (HBAD.out (flB_2 q2))
        clear q2
        go_wp2_with (fail)
        go_ret
        exact ⟨by rw [HF.out]; rfl, hB0⟩
      | true =>
      have HQ := Lib.hid (flB_ok Q1.out q2)
      clear q2
      go_wp2_with (fail)
      go_round
      case rel =>
        refine ⟨k + 1, by omega, by go_num, Lib.hid (fun j hj hl => ?_)⟩
        by_cases e : j = k
        · subst e; rw [← HX.out]; exact HQ.out
        · exact HA.out j hj (by omega)
      case measure => simp [intOf]; omega
    · have HFL : Hid (flsB x.fls = true) := Lib.hid (flsB_ok (fun j hj => HA.out j hj (by omega)))
      by_cases h200 : x.fls.length ≤ 200
      case neg =>
        have HF : Hid (wireB x = false) := Lib.hid (wireB_n (by simpa using h200))
        have z1 : decide ((x.fls.length : Int) ≤ 200) = false := by simp; omega
        go_wp2_with (fail)
        go_ret
        exact ⟨by rw [HF.out]; rfl, hB0⟩
      have HZ : Hid (decide (x.fls.length ≤ 200) = true) := Lib.hid (by simpa using h200)
      have z1 : decide ((x.fls.length : Int) ≤ 200) = true := by simp; omega
      clear h200
      go_wp2_with (fail)
      refine (in_spec _ _ _ _).mono ?_
      rintro e w2 ⟨rfl, rfl⟩
      cases q0 : inR x.seed 0 65535 with
      | false =>
        have HF := Lib.hid (wireB_seed q0)
        clear q0
        go_wp2_with (fail)
        go_ret
        exact ⟨by rw [HF.out]; rfl, hB0⟩
      | true =>
      have Q0 := Lib.hid q0
      clear q0
      go_wp2_with (fail)
      refine (in_spec _ _ _ _).mono ?_
      rintro e w2 ⟨rfl, rfl⟩
      cases q1 : inR x.delay 0 12 with
      | false =>
        have HF := Lib.hid (wireB_delay q1)
        clear q1
        go_wp2_with (fail)
        go_ret
        exact ⟨by rw [HF.out]; rfl, hB0⟩
      | true =>
      have Q1 := Lib.hid q1
      clear q1
      go_wp2_with (fail)
      refine (in_spec _ _ _ _).mono ?_
      rintro e w2 ⟨rfl, rfl⟩
      cases q2 : inR x.jitter 0 12 with
      | false =>
        have HF := Lib.hid (wireB_jitter q2)
        clear q2
        go_wp2_with (fail)
        go_ret
        exact ⟨by rw [HF.out]; rfl, hB0⟩
      | true =>
      have Q2 := Lib.hid q2
      clear q2
      go_wp2_with (fail)
      refine (in_spec _ _ _ _).mono ?_
      rintro e w2 ⟨rfl, rfl⟩
      cases q3 : inR x.loss 0 100 with
      | false =>
        have HF := Lib.hid (wireB_loss q3)
        clear q3
        go_wp2_with (fail)
        go_ret
        exact ⟨by rw [HF.out]; rfl, hB0⟩
      | true =>
      have Q3 := Lib.hid q3
      clear q3
      go_wp2_with (fail)
      refine (in_spec _ _ _ _).mono ?_
      rintro e w2 ⟨rfl, rfl⟩
      cases q4 : inR x.copies 0 100 with
      | false =>
        have HF := Lib.hid (wireB_copies q4)
        clear q4
        go_wp2_with (fail)
        go_ret
        exact ⟨by rw [HF.out]; rfl, hB0⟩
      | true =>
      have Q4 := Lib.hid q4
      clear q4
      go_wp2_with (fail)
      refine (in_spec _ _ _ _).mono ?_
      rintro e w2 ⟨rfl, rfl⟩
      cases q5 : inR x.damage 0 100 with
      | false =>
        have HF := Lib.hid (wireB_damage q5)
        clear q5
        go_wp2_with (fail)
        go_ret
        exact ⟨by rw [HF.out]; rfl, hB0⟩
      | true =>
      have Q5 := Lib.hid q5
      clear q5
      go_wp2_with (fail)
      refine (in_spec _ _ _ _).mono ?_
      rintro e w2 ⟨rfl, rfl⟩
      cases q6 : inR x.now 0 1000000 with
      | false =>
        have HF := Lib.hid (wireB_now q6)
        clear q6
        go_wp2_with (fail)
        go_ret
        exact ⟨by rw [HF.out]; rfl, hB0⟩
      | true =>
      have Q6 := Lib.hid q6
      clear q6
      go_wp2_with (fail)
      refine (in_spec _ _ _ _).mono ?_
      rintro e w2 ⟨rfl, rfl⟩
      cases q7 : inR x.sent 0 1000000 with
      | false =>
        have HF := Lib.hid (wireB_sent q7)
        clear q7
        go_wp2_with (fail)
        go_ret
        exact ⟨by rw [HF.out]; rfl, hB0⟩
      | true =>
      have Q7 := Lib.hid q7
      clear q7
      go_wp2_with (fail)
      refine (in_spec _ _ _ _).mono ?_
      rintro e w2 ⟨rfl, rfl⟩
      cases q8 : inR x.lost 0 1000000 with
      | false =>
        have HF := Lib.hid (wireB_lost q8)
        clear q8
        go_wp2_with (fail)
        go_ret
        exact ⟨by rw [HF.out]; rfl, hB0⟩
      | true =>
      have Q8 := Lib.hid q8
      clear q8
      have HF := Lib.hid (wireB_ok HFL.out HZ.out Q0.out Q1.out Q2.out Q3.out Q4.out Q5.out Q6.out Q7.out Q8.out)
      go_wp2_with (fail)
      go_ret
      exact ⟨by rw [HF.out]; rfl, hB0⟩
def quietB (x : Wi) : Bool := wireB x && decide (x.fls.length = 0)
end Go.Proofs.Yteafgghpkohfpab
