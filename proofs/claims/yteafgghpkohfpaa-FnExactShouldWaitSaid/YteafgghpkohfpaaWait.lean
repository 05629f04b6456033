/-
  ShouldWait of the program and of the model; a list of paces that came in; the law. Lists of at most 2^20.
-/
import Derived.Test.YteafgghpkohfpaaAdv
import Derived.Test.YteafgghpkohfpaaPcs
namespace Go.Proofs.Yteafgghpkohfpaa
open Go.RowKit Go.Joins Go.ChangeShapes Go.WideShapes Go.Deep
set_option linter.all false
def waitB (X : List Pc) (tick now : Int) : Bool := X.any fun q => decide (2 ≤ advI q tick now)
theorem waitB_yes {X : List Pc} {tick now : Int} {k : Nat} (hk : k < X.length) (h : decide (2 ≤ advI X[k] tick now) = true) : waitB X tick now = true := by
  unfold waitB; rw [List.any_eq_true]; exact ⟨_, List.getElem_mem hk, h⟩
theorem waitB_no {X : List Pc} {tick now : Int} (h : ∀ k (hk : k < X.length), decide (2 ≤ advI X[k] tick now) = false) : waitB X tick now = false := by
  unfold waitB; rw [List.any_eq_false]; intro x hx
  obtain ⟨i, hi, rfl⟩ := List.getElem_of_mem hx
  rw [h i hi]; simp
set_option maxHeartbeats 1000000 in
theorem wait_impl {w : World} {v : Value} {X : List Pc} (h : RdPc w v X) (hn : X.length ≤ 9223372036854775807) (tick now : Int) :
    Calls Try.prog 48 #[v, .int .i64 tick, .int .i64 now] w fun e w' => e = .returned (.bool (waitB X tick now)) ∧ Below w.heap.size w w' := by
  obtain ⟨a, cap, rfl, h⟩ := h
  have hlc : (X.length : Int) ≤ 9223372036854775807 := by omega
  go_enter Try.func48, Try.ntmps48
  go_wp2_with (fail)
  go_loopw [11] (fun i wr => ∃ k : Nat, k ≤ X.length ∧ i = .int .i64 (k : Int) ∧ Below w.heap.size w wr ∧ Hid (∀ j (hj : j < X.length), j < k → decide (2 ≤ advI X[j] tick now) = false)) (fun i _ => X.length - (intOf i).toNat)
  case atStart => exact ⟨0, Nat.zero_le _, rfl, Below.refl _ _, Lib.hid (fun j hj hl => by omega)⟩
  case round =>
    obtain ⟨k, hk, rfl, hbel, HA⟩ := hrel
    by_cases hkl : k < X.length
    · obtain ⟨b, off, rfl, hc⟩ := h.resolve_left (by intro e; rw [e] at hkl; simp at hkl)
      have c0 := hc k hkl
      have c1 : wr.rangeAt b (off + k * 5) (pcL X[k]) := rangeKeep c0 hbel (rangePc c0)
      have hkk : (k : Int) < (X.length : Int) := by omega
      obtain ⟨x, hx⟩ : ∃ x, x = X[k] := ⟨_, rfl⟩
      rw [← hx] at c1
      have hY : Hid (decide (2 ≤ advI x tick now) = true → waitB X tick now = true) := Lib.hid (fun e => waitB_yes hkl (by rw [← hx]; exact e))
      have HX := Lib.hid hx
      have hS := fun W => adv_impl x tick now W
      unfold pcV at hS
      have hr := advI_range x tick now
      obtain ⟨d0, d1, d2, d3, d4⟩ := cellsPc c1
      have hsz := hbel.size
      obtain ⟨W1, hW1, hP1, hbW⟩ : ∃ W, wr.alloc (.cells #[.int .i64 x.newest, .int .i64 x.their, .int .i64 x.at0, .int .i64 x.trip, .int .i64 x.samples] 31) = W ∧ W.heap[wr.heap.size]? = some (.cells #[.int .i64 x.newest, .int .i64 x.their, .int .i64 x.at0, .int .i64 x.trip, .int .i64 x.samples] 31 (0, 0)) ∧ Below wr.heap.size wr W := ⟨_, rfl, heap_alloc_new _ _, below1 _ _⟩
      have cP := rowCells hP1
      have hbel1 := hbel.trans (hbW.mono hsz)
      clear hc c0 hx c1 h
      obtain ⟨y, hy0⟩ : ∃ y, y = advI x tick now := ⟨_, rfl⟩
      rw [← hy0] at hS hY hr
      have HY := Lib.hid hy0.symm
      clear hy0
      go_wp2_with (fail)
      try rw [hW1]
      clear hW1
      refine (hS _).mono ?_
      rintro e w1 ⟨rfl, hb1⟩
      have hbel2 := hbel1.trans (hb1.mono hbel1.size)
      by_cases hy : 2 ≤ y
      · have z : decide (2 ≤ y) = true := by simpa using hy
        have HF := Lib.hid (hY.out z)
        go_wp2_with (fail)
        go_ret
        exact ⟨by rw [HF.out]; rfl, hbel2⟩
      · have z : decide (2 ≤ y) = false := by simpa using hy
        have HZ := Lib.hid z
        go_wp2_with (fail)
        go_roundw
        case rel =>
          refine ⟨k + 1, by omega, by go_num, hbel2, Lib.hid (fun j hj hl => ?_)⟩
          by_cases e : j = k
          · subst e; rw [← HX.out]; rw [HY.out]; exact HZ.out
          · exact HA.out j hj (by omega)
        case measure => simp [intOf]; omega
    · have HF : Hid (waitB X tick now = false) := Lib.hid (waitB_no (fun j hj => HA.out j hj (by omega)))
      go_wp2_with (fail)
      go_ret
      exact ⟨by rw [HF.out]; rfl, hbel⟩
set_option maxHeartbeats 1000000 in
theorem wait_spec {w : World} {v : Value} {X : List Pc} (h : RdPc w v X) (hn : X.length ≤ 9223372036854775807) (tick now : Int) :
    Calls Try.prog 46 #[v, .int .i64 tick, .int .i64 now] w fun e w' => e = .returned (.bool (waitB X tick now)) ∧ Below w.heap.size w w' := by
  obtain ⟨a, cap, rfl, h⟩ := h
  have hlc : (X.length : Int) ≤ 9223372036854775807 := by omega
  go_enter Try.func46, Try.ntmps46
  go_wp2_with (fail)
  go_loopw [7] (fun i wr => ∃ k : Nat, k ≤ X.length ∧ i = .int .i64 (k : Int) ∧ Below w.heap.size w wr ∧ Hid (∀ j (hj : j < X.length), j < k → decide (2 ≤ advI X[j] tick now) = false)) (fun i _ => X.length - (intOf i).toNat)
  case atStart => exact ⟨0, Nat.zero_le _, rfl, Below.refl _ _, Lib.hid (fun j hj hl => by omega)⟩
  case round =>
    obtain ⟨k, hk, rfl, hbel, HA⟩ := hrel
    by_cases hkl : k < X.length
    · obtain ⟨b, off, rfl, hc⟩ := h.resolve_left (by intro e; rw [e] at hkl; simp at hkl)
      have c0 := hc k hkl
      have c1 : wr.rangeAt b (off + k * 5) (pcL X[k]) := rangeKeep c0 hbel (rangePc c0)
      have hkk : (k : Int) < (X.length : Int) := by omega
      obtain ⟨x, hx⟩ : ∃ x, x = X[k] := ⟨_, rfl⟩
      rw [← hx] at c1
      have hY : Hid (decide (2 ≤ advI x tick now) = true → waitB X tick now = true) := Lib.hid (fun e => waitB_yes hkl (by rw [← hx]; exact e))
      have HX := Lib.hid hx
      have hS := fun W => adv_spec x tick now W
      unfold pcV at hS
      have hr := advI_range x tick now
      obtain ⟨d0, d1, d2, d3, d4⟩ := cellsPc c1
      have hsz := hbel.size
      clear hc c0 hx c1 h
      obtain ⟨y, hy0⟩ : ∃ y, y = advI x tick now := ⟨_, rfl⟩
      rw [← hy0] at hS hY hr
      have HY := Lib.hid hy0.symm
      clear hy0
      go_wp2_with (fail)
      refine (hS _).mono ?_
      rintro e w1 ⟨rfl, hb1⟩
      have hbel2 := hbel.trans (hb1.mono hsz)
      by_cases hy : 2 ≤ y
      · have z : decide (2 ≤ y) = true := by simpa using hy
        have HF := Lib.hid (hY.out z)
        go_wp2_with (fail)
        go_ret
        exact ⟨by rw [HF.out]; rfl, hbel2⟩
      · have z : decide (2 ≤ y) = false := by simpa using hy
        have HZ := Lib.hid z
        go_wp2_with (fail)
        go_roundw
        case rel =>
          refine ⟨k + 1, by omega, by go_num, hbel2, Lib.hid (fun j hj hl => ?_)⟩
          by_cases e : j = k
          · subst e; rw [← HX.out]; rw [HY.out]; exact HZ.out
          · exact HA.out j hj (by omega)
        case measure => simp [intOf]; omega
    · have HF : Hid (waitB X tick now = false) := Lib.hid (waitB_no (fun j hj => HA.out j hj (by omega)))
      go_wp2_with (fail)
      go_ret
      exact ⟨by rw [HF.out]; rfl, hbel⟩
theorem open_paces {H : Type} {enc : TypeId × Value → H} {w : World} {base : Nat} {spare : Nat → Bool} {held : Bool} {n : Nat} {v0 : Value} {y : DataW H × List MemPlace} (h : DataW.trod enc Try.prog w base spare held n 64 [v0] = some y) : ∃ X, RdPc w v0 X ∧ X.length ≤ 9223372036854775807 := by
  obtain ⟨X, h1, h2, -⟩ := rdPc_of_trod h
  exact ⟨X, h1, h2⟩
set_option maxHeartbeats 1000000 in
theorem lawShouldWait {w : World} (v : Value) (X : List Pc) (h : RdPc w v X) (hs : X.length ≤ 9223372036854775807) (tick : Int) (wt : (Lit.int .i64 tick).wf = true) (now : Int) (wn : (Lit.int .i64 now).wf = true) :
    Calls Try.prog 13 #[v, .int .i64 tick, .int .i64 now] w fun e w' => e = .returned (.bool true) ∧ Below w.heap.size w w' := by
  have hS := szPaceS_any h hs 1048576 (by omega) (by omega)
  obtain ⟨a, cap, rfl, -⟩ := id h
  go_enter Try.func13, Try.ntmps13
  go_wp2_with (fail)
  refine hS.mono ?_
  rintro e w1 ⟨r, rfl, hr, rfl⟩
  rcases hr with rfl | ⟨hr0, hr1⟩
  · go_wp2_with (fail)
    go_ret
    exact ⟨rfl, Below.refl _ _⟩
  · have z1 : decide (r < 0) = false := by simpa using hr0
    have hn : X.length ≤ 1048576 := by omega
    clear hr1
    go_wp2_with (fail)
    refine (toPaceS_any h hn).mono ?_
    rintro e w1 ⟨v1, rfl, ho1, -, hb1⟩
    have r1 := ho1.rd
    obtain ⟨a1, c1, rfl, -⟩ := id r1
    go_wp2_with (fail)
    refine (wait_spec r1 hs tick now).mono ?_
    rintro e w2 ⟨rfl, hb2⟩
    have hb02 := hb1.trans (hb2.mono hb1.size)
    go_wp2_with (fail)
    refine (toPaceS_any (h.keep hb02) hn).mono ?_
    rintro e w3 ⟨v3, rfl, ho3, -, hb3⟩
    have hb03 := hb02.trans (hb3.mono hb02.size)
    have r3 := ho3.rd
    obtain ⟨a3, c3, rfl, -⟩ := id r3
    go_wp2_with (fail)
    refine (wait_impl r3 hs tick now).mono ?_
    rintro e w4 ⟨rfl, hb4⟩
    have hb04 := hb03.trans (hb4.mono hb03.size)
    have r4 := r3.keep hb4
    generalize waitB X tick now = B at *
    go_wp2_with (fail)
    refine (toPaceS_any (h.keep hb04) hn).mono ?_
    rintro e w5 ⟨v5, rfl, ho5, -, hb5⟩
    have hb05 := hb04.trans (hb5.mono hb04.size)
    have r5 := ho5.rd
    have r45 := r4.keep hb5
    obtain ⟨a5, c5, rfl, -⟩ := id r5
    go_wp2_with (fail)
    refine (eqPaceS_same r45 r5 hn).mono ?_
    rintro e w6 ⟨rfl, hb6⟩
    go_wp2_with (fail)
    go_ret
    exact ⟨rfl, hb05.trans (hb6.mono hb05.size)⟩
end Go.Proofs.Yteafgghpkohfpaa
