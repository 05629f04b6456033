/-
  TrackOk: the contracts of the model and of the program; the law. No condition.
-/
import Derived.Test.YtgbdpmaajihfdaaTrk
import Derived.Test.YtgbdpmaajihfdaaSize
import Derived.Deep.RegionHeld3
import Derived.Deep.RegionWith
namespace Go.Proofs.Ytgbdpmaajihfdaa
open Go.RowKit
set_option linter.all false
def allW (lo hi : Int) (xs : List Int) : Bool := xs.all fun x => inR x lo hi
/-- Whether inputs are a track's. -/
def trkB (xs : List Int) : Bool := decide (xs.length ≤ 400) && allW 0 15 xs
theorem allW_bad {lo hi : Int} {xs : List Int} {k : Nat} (hk : k < xs.length) (h : inR xs[k] lo hi = false) : allW lo hi xs = false := by
  unfold allW; rw [List.all_eq_false]; exact ⟨_, List.getElem_mem hk, by rw [h]; simp⟩
theorem allW_ok {lo hi : Int} {xs : List Int} (h : ∀ k (hk : k < xs.length), inR xs[k] lo hi = true) : allW lo hi xs = true := by
  unfold allW; rw [List.all_eq_true]; intro x hx
  obtain ⟨i, hi, rfl⟩ := List.getElem_of_mem hx
  exact h i hi
theorem allW_at {lo hi : Int} {xs : List Int} (h : allW lo hi xs = true) {k : Nat} (hk : k < xs.length) : lo ≤ xs[k] ∧ xs[k] ≤ hi := by
  unfold allW at h; rw [List.all_eq_true] at h
  exact (inR_iff _ _ _).1 (h _ (List.getElem_mem hk))
theorem trkB_facts {xs : List Int} (h : trkB xs = true) : xs.length ≤ 400 ∧ ∀ k (hk : k < xs.length), 0 ≤ xs[k] ∧ xs[k] ≤ 15 := by
  unfold trkB at h
  rw [Bool.and_eq_true, decide_eq_true_eq] at h
  exact ⟨h.1, fun k hk => allW_at h.2 hk⟩
set_option maxHeartbeats 1000000 in
theorem allWithin_any {w : World} {v : Value} {xs : List Int} (h : RdI w v xs) (hs : xs.length ≤ 9223372036854775807) (lo hi : Int) :
    Calls Try.prog 24 #[.int .i64 lo, .int .i64 hi, v] w fun e w' => e = .returned (.bool (allW lo hi xs)) ∧ w = w' := by
  obtain ⟨a, cap, rfl, h⟩ := h
  have hlc : (xs.length : Int) ≤ 9223372036854775807 := by omega
  go_enter Try.func24, Try.ntmps24
  go_wp2_with (fail)
  go_loop [11] (fun i => ∃ k : Nat, k ≤ xs.length ∧ i = .int .i64 (k : Int) ∧ ∀ j (hj : j < xs.length), j < k → inR xs[j] lo hi = true) (fun i => xs.length - (intOf i).toNat)
  case atStart => exact ⟨0, Nat.zero_le _, rfl, fun _ _ h => by omega⟩
  case round =>
    obtain ⟨k, hk, rfl, hat⟩ := hrel
    have HA := Lib.hid hat
    clear hat
    by_cases hkl : k < xs.length
    · obtain ⟨b, off, rfl, hc⟩ := h.resolve_left (by intro e; rw [e] at hkl; simp at hkl)
      obtain ⟨x, hx⟩ : ∃ x, x = xs[k] := ⟨_, rfl⟩
      have c1 : w.cell? ⟨b, off + k, none⟩ = some (.int .i64 x) := by rw [hx]; exact hc k hkl
      have hl1 : (k : Int) < (xs.length : Int) := by omega
      cases hq : inR x lo hi with
      | true =>
        have HQ : Hid (inR xs[k] lo hi = true) := Lib.hid (by rw [← hx]; exact hq)
        have Q := Lib.hid hq
        clear hx hc h hq
        go_wp2_with (go_at_call 13; refine (within_impl _ _ _ _).mono ?_; rintro e w1 ⟨rfl, rfl⟩; rw [Q.out])
        go_round
        case rel =>
          refine ⟨k + 1, by omega, by go_num, fun j hj hjk => ?_⟩
          by_cases e : j = k
          · subst e; exact HQ.out
          · exact HA.out j hj (by omega)
        case measure => simp [intOf]; omega
      | false =>
        have HF := Lib.hid (allW_bad (lo := lo) (hi := hi) hkl (by rw [← hx]; exact hq))
        have Q := Lib.hid hq
        clear hx hc h hq
        go_wp2_with (go_at_call 13; refine (within_impl _ _ _ _).mono ?_; rintro e w1 ⟨rfl, rfl⟩; rw [Q.out])
        go_ret
        exact ⟨by rw [HF.out]; rfl, rfl⟩
    · have HF := Lib.hid (allW_ok (lo := lo) (hi := hi) (xs := xs) (fun j hj => HA.out j hj (by omega)))
      go_wp2_with (fail)
      go_ret
      exact ⟨by rw [HF.out]; rfl, rfl⟩
theorem inputsOk_any {w : World} {v : Value} {xs : List Int} (h : RdI w v xs) (hs : xs.length ≤ 9223372036854775807) :
    Calls Try.prog 25 #[v] w fun e w' => e = .returned (.bool (allW 0 15 xs)) ∧ w = w' := by
  have hW := allWithin_any h hs 0 15
  obtain ⟨a, cap, rfl, -⟩ := h
  go_enter Try.func25, Try.ntmps25
  go_wp2_with (fail)
  refine hW.mono ?_
  rintro e w1 ⟨rfl, rfl⟩
  go_wp2_with (fail)
  go_ret
  exact ⟨rfl, rfl⟩
set_option maxHeartbeats 1000000 in
theorem trackOk_impl {w : World} {v : Value} {xs : List Int} (h : RdI w v xs) (hs : xs.length ≤ 9223372036854775807) :
    Calls Try.prog 22 #[.agg #[v]] w fun e w' => e = .returned (.bool (trkB xs)) ∧ Below w.heap.size w w' := by
  obtain ⟨a, cap, rfl, -⟩ := id h
  obtain ⟨W0, hW, hA, hB0, hS0⟩ := rows1 w #[.slice a xs.length cap] 29
  have cA := rowCells hA
  have hI := inputsOk_any (h.keep hB0) hs
  have hlc : (xs.length : Int) ≤ 9223372036854775807 := by omega
  by_cases hl : xs.length ≤ 400
  · have z1 : decide ((xs.length : Int) ≤ 400) = true := by simp; omega
    have HF := Lib.hid (show trkB xs = allW 0 15 xs by unfold trkB; rw [decide_eq_true hl]; rfl)
    clear hl
    go_enter Try.func22, Try.ntmps22
    go_wp2_with (fail)
    clear hW
    refine hI.mono ?_
    rintro e w1 ⟨rfl, rfl⟩
    go_wp2_with (fail)
    go_ret
    exact ⟨by rw [HF.out]; rfl, hB0⟩
  · have z1 : decide ((xs.length : Int) ≤ 400) = false := by simp; omega
    have HF := Lib.hid (show trkB xs = false by unfold trkB; rw [decide_eq_false hl]; rfl)
    clear hl hI
    go_enter Try.func22, Try.ntmps22
    go_wp2_with (fail)
    go_ret
    exact ⟨by rw [HF.out]; rfl, hB0⟩
end Go.Proofs.Ytgbdpmaajihfdaa
