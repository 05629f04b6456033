/-
  ShouldWait of the program and of the model; a list of paces that came in; the law. Lists of at most 2^20.
-/
import Derived.Test.YtbjbamcpfjlllabAdv
import Derived.Test.YtbjbamcpfjlllabPcs
namespace Go.Proofs.Ytbjbamcpfjlllab
open Go.RowKit Go.Joins Go.ChangeShapes Go.WideShapes Go.Deep
set_option linter.all false
def waitB (X : List Pc) (tick now : Int) : Bool := X.any fun q => decide (2 ≤ advI q tick now)
theorem waitB_yes {X : List Pc} {tick now : Int} {k : Nat} (hk : k < X.length) (h : decide (2 ≤ advI X[k] tick now) = true) : waitB X tick now = true := by
  unfold waitB; rw [List.any_eq_true]; exact ⟨_, List.getElem_mem hk, h⟩
theorem waitB_no {X : List Pc} {tick now : Int} (h : ∀ k (hk : k < X.length), decide (2 ≤ advI X[k] tick now) = false) : waitB X tick now = false := by
  unfold waitB; rw [List.any_eq_false]; intro x hx
  obtain ⟨i, hi, rfl⟩ := List.getElem_of_mem hx
  rw [h i hi]; simp
set_option maxHeartbeats 1000000 in
theorem wait_impl {w : World} {v : Value} {X : List Pc} (h : RdPc w v X) (hn : X.length ≤ 9223372036854775807) (tick now : Int) :
    Calls Try.prog 11 #[v, .int .i64 tick, .int .i64 now] w fun e w' => e = .returned (.bool (waitB X tick now)) ∧ Below w.heap.size w w' := by
  obtain ⟨a, cap, rfl, h⟩ := h
  have hlc : (X.length : Int) ≤ 9223372036854775807 := by omega
  go_enter Try.func11, Try.ntmps11
  go_wp2_with (fail)
  go_loopw [11] (fun i wr => ∃ k : Nat, k ≤ X.length ∧ i = .int .i64 (k : Int) ∧ Below w.heap.size w wr ∧ Hid (∀ j (hj : j < X.length), j < k → decide (2 ≤ advI X[j] tick now) = false)) (fun i _ => X.length - (intOf i).toNat)
  case atStart => exact ⟨0, Nat.zero_le _, rfl, Below.refl _ _, Lib.hid (fun j hj hl => by omega)⟩
  case round =>
    obtain ⟨k, hk, rfl, hbel, HA⟩ := hrel
    by_cases hkl : k < X.length
    · obtain ⟨b, off, rfl, hc⟩ := h.resolve_left (by intro e; rw [e] at hkl; simp at hkl)
      have c0 := hc k hkl
      have c1 : wr.rangeAt b (off + k * 5) (pcL X[k]) := rangeKeep c0 hbel (rangePc c0)
      have hkk : (k : Int) < (X.length : Int) := by omega
      obtain ⟨x, hx⟩ : ∃ x, x = X[k] := ⟨_, rfl⟩
      rw [← hx] at c1
      have hY : Hid (decide (2 ≤ advI x tick now) = true → waitB X tick now = true) := Lib.hid (fun e => waitB_yes hkl (by rw [← hx]; exact e))
      have HX := Lib.hid hx
      have hS := fun W => adv_impl x tick now W
      unfold pcV at hS
      have hr := advI_range x tick now
      obtain ⟨d0, d1, d2, d3, d4⟩ := cellsPc c1
      have hsz := hbel.size
      obtain ⟨W1, hW1, hP1, hbW⟩ : ∃ W, wr.alloc (.cells #[.int .i64 x.newest, .int .i64 x.their, .int .i64 x.at0, .int .i64 x.trip, .int .i64 x.samples] 26) = W ∧ W.heap[wr.heap.size]? = some (.cells #[.int .i64 x.newest, .int .i64 x.their, .int .i64 x.at0, .int .i64 x.trip, .int .i64 x.samples] 26 (0, 0)) ∧ Below wr.heap.size wr W := ⟨_, rfl, heap_alloc_new _ _, below1 _ _⟩
      have cP := rowCells hP1
      have hbel1 := hbel.trans (hbW.mono hsz)
      clear hc c0 hx c1 h
      obtain ⟨y, hy0⟩ : ∃ y, y = advI x tick now := ⟨_, rfl⟩
      rw [← hy0] at hS hY hr
      have HY := Lib.hid hy0.symm
      clear hy0
      go_wp2_with (fail)
      try rw [hW1]
      clear hW1
      refine (hS _).mono ?_
      rintro e w1 ⟨rfl, hb1⟩
      have hbel2 := hbel1.trans (hb1.mono hbel1.size)
      by_cases hy : 2 ≤ y
      · have z : decide (2 ≤ y) = true := by simpa using hy
        have HF := Lib.hid (hY.out z)
        go_wp2_with (fail)
        go_ret
        exact ⟨by rw [HF.out]; rfl, hbel2⟩
      · have z : decide (2 ≤ y) = false := by simpa using hy
        have HZ := Lib.hid z
        go_wp2_with (fail)
        go_roundw
        case rel =>
          refine ⟨k + 1, by omega, by go_num, hbel2, Lib.hid (fun j hj hl => ?_)⟩
          by_cases e : j = k
          · subst e; rw [← HX.out]; rw [HY.out]; exact HZ.out
          · exact HA.out j hj (by omega)
        case measure => simp [intOf]; omega
    · have HF : Hid (waitB X tick now = false) := Lib.hid (waitB_no (fun j hj => HA.out j hj (by omega)))
      go_wp2_with (fail)
      go_ret
      exact ⟨by rw [HF.out]; rfl, hbel⟩
end Go.Proofs.Ytbjbamcpfjlllab
