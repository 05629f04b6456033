/-
  SameTrack, and the laws on TrackOk, Predict, SameTrack. No condition.
-/
import Derived.Test.YtgbdpmaajihfdaaTrP
import Derived.BigQuiet
namespace Go.Proofs.Ytgbdpmaajihfdaa
open Go.RowKit
set_option linter.all false
def sameB (xs ys : List Int) : Bool := decide (xs = ys)
theorem same_len {xs ys : List Int} (h : ¬ xs.length = ys.length) : sameB xs ys = false := by unfold sameB; rw [decide_eq_false_iff_not]; intro e; exact h (by rw [e])
theorem same_bad {xs ys : List Int} {k : Nat} (h1 : k < xs.length) (h2 : k < ys.length) (h : ¬ xs[k] = ys[k]) : sameB xs ys = false := by unfold sameB; rw [decide_eq_false_iff_not]; intro e; subst e; exact h rfl
theorem same_ok {xs ys : List Int} (hl : xs.length = ys.length) (h : ∀ k (h1 : k < xs.length) (h2 : k < ys.length), xs[k] = ys[k]) : sameB xs ys = true := by unfold sameB; rw [decide_eq_true_eq]; exact List.ext_getElem hl h
set_option maxHeartbeats 1000000 in
theorem equalI_any {w : World} {v v' : Value} {xs ys : List Int} (h : RdI w v xs) (h' : RdI w v' ys) (hs : xs.length ≤ 9223372036854775807) (hs' : ys.length ≤ 9223372036854775807) :
    Calls Try.prog 19 #[v, v'] w fun e w' => e = .returned (.bool (sameB xs ys)) ∧ Below w.heap.size w w' := by
  obtain ⟨a, cap, rfl, h⟩ := h
  obtain ⟨a', cap', rfl, h'⟩ := h'
  have hlc : (xs.length : Int) ≤ 9223372036854775807 := by omega
  have hlc' : (ys.length : Int) ≤ 9223372036854775807 := by omega
  by_cases hl : xs.length = ys.length
  · have hl' : (xs.length : Int) = (ys.length : Int) := by omega
    have HL := Lib.hid hl
    have z1 : ((xs.length : Int) != (ys.length : Int)) = false := by simp [hl']
    clear hl hl'
    go_enter Try.func19, Try.ntmps19
    go_wp2_with (fail)
    go_loopw [13] (fun i wr => ∃ k n : Nat, k ≤ xs.length ∧ i = .int .i64 (k : Int) ∧ wr = w.drewN n ∧ ∀ j (h1 : j < xs.length) (h2 : j < ys.length), j < k → xs[j] = ys[j]) (fun i _ => xs.length - (intOf i).toNat)
    case atStart => exact ⟨0, 0, Nat.zero_le _, rfl, rfl, fun _ _ _ h => by omega⟩
    case round =>
      obtain ⟨k, n, hk, rfl, rfl, hat⟩ := hrel
      have HA := Lib.hid hat
      clear hat
      by_cases hkl : k < xs.length
      · have hkl2 : k < ys.length := by rw [← HL.out]; exact hkl
        obtain ⟨b, off, rfl, hc⟩ := h.resolve_left (by intro e; rw [e] at hkl; simp at hkl)
        obtain ⟨b', off', rfl, hc'⟩ := h'.resolve_left (by intro e; rw [e] at hkl2; simp at hkl2)
        obtain ⟨x, hx⟩ : ∃ x, x = xs[k] := ⟨_, rfl⟩
        obtain ⟨y, hy⟩ : ∃ y, y = ys[k] := ⟨_, rfl⟩
        have c1 : w.cell? ⟨b, off + k, none⟩ = some (.int .i64 x) := by rw [hx]; exact hc k hkl
        have c2 : w.cell? ⟨b', off' + k, none⟩ = some (.int .i64 y) := by rw [hy]; exact hc' k hkl2
        have hl1 : (k : Int) < (xs.length : Int) := by omega
        have hl2 : (k : Int) < (ys.length : Int) := by omega
        by_cases he : x = y
        · have HE : Hid (xs[k] = ys[k]) := Lib.hid (by rw [← hx, ← hy]; exact he)
          subst he
          clear h h' hc hc' hx hy
          go_wp2
          go_quiet (fail)
          go_wp2
          go_roundw
          case rel =>
            refine ⟨k + 1, _, by omega, by go_num, rfl, fun j h1 h2 hjk => ?_⟩
            by_cases e : j = k
            · subst e; exact HE.out
            · exact HA.out j h1 h2 (by omega)
          case measure => simp [intOf]; omega
        · have HF := Lib.hid (same_bad hkl hkl2 (by rw [← hx, ← hy]; exact he))
          have z2 : (x != y) = true := by simp [he]
          clear h h' hc hc' hx hy
          go_wp2
          go_quiet (fail)
          go_wp2
          go_ret
          exact ⟨by rw [HF.out]; rfl, ⟨rfl, rfl, rfl, Nat.le_refl _, fun _ _ => rfl⟩⟩
      · have HF := Lib.hid (same_ok HL.out (fun j h1 h2 => HA.out j h1 h2 (by omega)))
        go_wp2
        go_ret
        exact ⟨by rw [HF.out]; rfl, belowDrew _ _⟩
  · have hl' : ¬ (xs.length : Int) = (ys.length : Int) := by omega
    have HF := Lib.hid (same_len hl)
    have z1 : ((xs.length : Int) != (ys.length : Int)) = true := by simp; omega
    go_enter Try.func19, Try.ntmps19
    go_wp2_with (fail)
    go_ret
    exact ⟨by rw [HF.out]; rfl, Below.refl _ _⟩
set_option maxHeartbeats 1000000 in
theorem sameTrack_impl {w : World} {v v' : Value} {xs ys : List Int} (h : RdI w v xs) (h' : RdI w v' ys) (hs : xs.length ≤ 9223372036854775807) (hs' : ys.length ≤ 9223372036854775807) :
    Calls Try.prog 9 #[.agg #[v], .agg #[v']] w fun e w' => e = .returned (.bool (sameB xs ys)) ∧ Below w.heap.size w w' := by
  obtain ⟨a, cap, rfl, -⟩ := id h
  obtain ⟨a', cap', rfl, -⟩ := id h'
  obtain ⟨W0, hW, hA, hB, hB0, hS0⟩ := rows2 w #[.slice a xs.length cap] #[.slice a' ys.length cap'] 29 29
  have cA := rowCells hA
  have cB := rowCells hB
  have hE := equalI_any (h.keep hB0) (h'.keep hB0) hs hs'
  go_enter Try.func9, Try.ntmps9
  go_wp2_with (fail)
  clear hW
  refine hE.mono ?_
  rintro e w1 ⟨rfl, hb1⟩
  go_wp2_with (fail)
  go_ret
  exact ⟨rfl, hB0.trans (hb1.mono hB0.size)⟩
end Go.Proofs.Ytgbdpmaajihfdaa
