/-
  Rows of inputs: whether they are valid, in the model and in the program. Rows and lists that can be.
-/
import Derived.Test.YtecimgennncjkaaDoorCol
import Derived.Test.YtecimgennncjkaaDoorTrO
import Derived.Test.YtecimgennncjkaaDoorRowO
import Derived.Test.YtecimgennncjkaaDoorRowL
namespace Go.Proofs.YtecimgennncjkaaDoor
open Go.RowKit
set_option linter.all false
theorem rowOk_impl {w : World} {v : Value} {xs : List Int} (h : RdI w v xs) (hs : xs.length ≤ 9223372036854775807) (n : Int) :
    Calls Tryd.prog 93 #[v, .int .i64 n] w fun e w' => e = .returned (.bool (rokB n xs)) ∧ w = w' := by
  have hI := inputsOk_any h hs
  obtain ⟨a, cap, rfl, -⟩ := h
  have hlc : (xs.length : Int) ≤ 9223372036854775807 := by omega
  by_cases hl : (xs.length : Int) = n
  · have HF := Lib.hid (rokB_w hl)
    have z1 : ((xs.length : Int) == n) = true := by simpa using hl
    clear hl
    go_enter Tryd.func93, Tryd.ntmps93
    go_wp2_with (fail)
    refine hI.mono ?_
    rintro e w1 ⟨rfl, rfl⟩
    go_wp2_with (fail)
    go_ret
    exact ⟨by rw [HF.out]; rfl, rfl⟩
  · have HF := Lib.hid (rokB_len hl)
    have z1 : ((xs.length : Int) == n) = false := by simpa using hl
    clear hl hI
    go_enter Tryd.func93, Tryd.ntmps93
    go_wp2_with (fail)
    go_ret
    exact ⟨by rw [HF.out]; rfl, rfl⟩
set_option maxHeartbeats 1000000 in
theorem rowsOk_impl {w : World} {v : Value} {X : Rowi} (h : RdR w v X) (hs : SaneR X) (n : Int) :
    Calls Tryd.prog 51 #[v, .int .i64 n] w fun e w' => e = .returned (.bool (rowsB n X)) ∧ w = w' := by
  obtain ⟨a, cap, rfl, h⟩ := h
  obtain ⟨hs1, hs2⟩ := hs
  have hlc : (X.length : Int) ≤ 9223372036854775807 := by omega
  have HBAD := Lib.hid (fun k hk => rowsB_bad (n := n) (X := X) (k := k) hk)
  have HOK := Lib.hid (rowsB_ok (n := n) (X := X))
  generalize rowsB n X = t at *
  go_enter Tryd.func51, Tryd.ntmps51
  go_wp2_with (fail)
  go_loop [9] (fun i => ∃ k : Nat, k ≤ X.length ∧ i = .int .i64 (k : Int) ∧ ∀ j (hj : j < X.length), j < k → rokB n X[j] = true) (fun i => X.length - (intOf i).toNat)
  case atStart => exact ⟨0, Nat.zero_le _, rfl, fun _ _ h => by omega⟩
  case round =>
    obtain ⟨k, hk, rfl, hat⟩ := hrel
    have HA := Lib.hid hat
    clear hat
    by_cases hkl : k < X.length
    · obtain ⟨b, off, rfl, hc⟩ := h.resolve_left (by intro e; rw [e] at hkl; simp at hkl)
      obtain ⟨u, c1, r1⟩ := hc k hkl
      have hl1 : (k : Int) < (X.length : Int) := by omega
      have hx3 := hs2 X[k] (List.getElem_mem _)
      have HB1 := Lib.hid (HBAD.out k hkl)
      obtain ⟨x, hx⟩ : ∃ x, x = X[k] := ⟨_, rfl⟩
      rw [← hx] at r1 hx3 HB1
      have HX := Lib.hid hx
      have hR := rowOk_impl r1 hx3 n
      obtain ⟨ax, cx, rfl, -⟩ := id r1
      cases hq : rokB n x with
      | true =>
        rw [hq] at hR
        have HQ : Hid (rokB n X[k] = true) := Lib.hid (by rw [← hx]; exact hq)
        clear hx hc h hq HB1
        go_wp2_with (go_at_call 93; refine hR.mono ?_; rintro e w1 ⟨rfl, rfl⟩)
        go_round
        case rel =>
          refine ⟨k + 1, by omega, by go_num, fun j hj hjk => ?_⟩
          by_cases e : j = k
          · subst e; exact HQ.out
          · exact HA.out j hj (by omega)
        case measure => simp [intOf]; omega
      | false =>
        rw [hq] at hR
        have HF := Lib.hid (HB1.out hq)
        clear hx hc h hq HB1
        go_wp2_with (go_at_call 93; refine hR.mono ?_; rintro e w1 ⟨rfl, rfl⟩)
        go_ret
        exact ⟨by rw [HF.out]; rfl, rfl⟩
    · have HF := Lib.hid (HOK.out (fun j hj => HA.out j hj (by omega)))
      go_wp2_with (fail)
      go_ret
      exact ⟨by rw [HF.out]; rfl, rfl⟩
set_option maxHeartbeats 1000000 in
theorem l02RowOk_any {w : World} {v : Value} {xs : List Int} (h : RdI w v xs) (hs : xs.length ≤ 9223372036854775807) (n : Int) :
    Calls Tryd.prog 47 #[v, .int .i64 n] w fun e w' => e = .returned (.bool (rokB n xs)) ∧ w = w' := by
  obtain ⟨a, cap, rfl, h⟩ := h
  have hlc : (xs.length : Int) ≤ 9223372036854775807 := by omega
  go_enter Tryd.func47, Tryd.ntmps47
  go_wp2_with (fail)
  go_loop [5] (fun i => ∃ k : Nat, k ≤ xs.length ∧ i = .int .i64 (k : Int) ∧ ∀ j (hj : j < xs.length), j < k → inR xs[j] 0 15 = true) (fun i => xs.length - (intOf i).toNat)
  case atStart => exact ⟨0, Nat.zero_le _, rfl, fun _ _ h => by omega⟩
  case round =>
    obtain ⟨k, hk, rfl, hat⟩ := hrel
    have HA := Lib.hid hat
    clear hat
    by_cases hkl : k < xs.length
    · obtain ⟨b, off, rfl, hc⟩ := h.resolve_left (by intro e; rw [e] at hkl; simp at hkl)
      obtain ⟨x, hx⟩ : ∃ x, x = xs[k] := ⟨_, rfl⟩
      have c1 : w.cell? ⟨b, off + k, none⟩ = some (.int .i64 x) := by rw [hx]; exact hc k hkl
      have hl1 : (k : Int) < (xs.length : Int) := by omega
      cases hq : inR x 0 15 with
      | true =>
        have HQ : Hid (inR xs[k] 0 15 = true) := Lib.hid (by rw [← hx]; exact hq)
        have Q := Lib.hid hq
        clear hx hc h hq
        go_wp2_with (go_at_call 46; refine (in_spec _ _ _ _).mono ?_; rintro e w1 ⟨rfl, rfl⟩; rw [Q.out])
        go_round
        case rel =>
          refine ⟨k + 1, by omega, by go_num, fun j hj hjk => ?_⟩
          by_cases e : j = k
          · subst e; exact HQ.out
          · exact HA.out j hj (by omega)
        case measure => simp [intOf]; omega
      | false =>
        have HF := Lib.hid (rokB_bad (n := n) (allW_bad (lo := 0) (hi := 15) hkl (by rw [← hx]; exact hq)))
        have Q := Lib.hid hq
        clear hx hc h hq
        go_wp2_with (go_at_call 46; refine (in_spec _ _ _ _).mono ?_; rintro e w1 ⟨rfl, rfl⟩; rw [Q.out])
        go_ret
        exact ⟨by rw [HF.out]; rfl, rfl⟩
    · have HF := Lib.hid (rokB_ok (n := n) (allW_ok (lo := 0) (hi := 15) (xs := xs) (fun j hj => HA.out j hj (by omega))))
      go_wp2_with (fail)
      go_ret
      exact ⟨by rw [HF.out]; rfl, rfl⟩
end Go.Proofs.YtecimgennncjkaaDoor
