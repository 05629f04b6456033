/-
  SumsAgree, FirstDifference, StartHunt of the program and of the model; their laws. Lists of at most 2^20.
-/
import Derived.Test.YtikaiimafliceaaHunt
import Derived.Test.YtikaiimafliceaaLst
import Derived.Deep.Cut
import Derived.Deep.CutBlock
namespace Go.Proofs.Ytikaiimafliceaa
open Go.RowKit Go.Joins Go.ChangeShapes Go.WideShapes Go.Deep
set_option linter.all false
/-- The last index that both lists have. -/
def lastI (xs ys : List Int) : Int := if xs.length ≤ ys.length then (xs.length : Int) - 1 else (ys.length : Int) - 1
/-- Whether two lists agree at an index. -/
def agreeB (xs ys : List Int) (k : Int) : Bool := inR k 0 (lastI xs ys) && (xs.getD k.toNat 0 == ys.getD k.toNat 0)
theorem lastI_lt {xs ys : List Int} {k : Int} (h : inR k 0 (lastI xs ys) = true) : 0 ≤ k ∧ k < xs.length ∧ k < ys.length := by
  have := (inR_iff _ _ _).1 h
  unfold lastI at this
  split at this <;> omega
theorem lastI_yes {xs ys : List Int} {k : Int} (h0 : 0 ≤ k) (h1 : k < xs.length) (h2 : k < ys.length) : inR k 0 (lastI xs ys) = true := by
  rw [inR_iff]
  unfold lastI
  split <;> omega
theorem agreeB_at {xs ys : List Int} {n : Nat} (h1 : n < xs.length) (h2 : n < ys.length) : agreeB xs ys n = (xs[n] == ys[n]) := by
  unfold agreeB
  rw [lastI_yes (by omega) (by omega) (by omega)]
  simp [h1, h2]
theorem agreeB_no {xs ys : List Int} {k : Int} (h : inR k 0 (lastI xs ys) = false) : agreeB xs ys k = false := by
  unfold agreeB; rw [h]; rfl
theorem agreeB_out {xs ys : List Int} {k : Int} (h : ¬ (0 ≤ k ∧ k < xs.length ∧ k < ys.length)) : agreeB xs ys k = false := by
  refine agreeB_no ?_
  cases e : inR k 0 (lastI xs ys) with
  | false => rfl
  | true => exact absurd (lastI_lt e) h
/-- The first index at which two lists differ. -/
def firstD (xs ys : List Int) : Int := match (List.range (min xs.length ys.length)).find? (fun k => !(xs.getD k 0 == ys.getD k 0)) with | some k => k | none => -1
theorem firstD_yes {xs ys : List Int} {k : Nat} (h1 : k < xs.length) (h2 : k < ys.length) (hd : (xs[k] == ys[k]) = false) (hall : ∀ j (hj1 : j < xs.length) (hj2 : j < ys.length), j < k → (xs[j] == ys[j]) = true) : firstD xs ys = k := by
  unfold firstD
  have : (List.range (min xs.length ys.length)).find? (fun k => !(xs.getD k 0 == ys.getD k 0)) = some k := by
    rw [List.find?_range_eq_some]
    refine ⟨by simpa [h1, h2] using hd, by simp [List.mem_range]; omega, fun j hj => ?_⟩
    have := hall j (by omega) (by omega) hj
    simpa [show j < xs.length by omega, show j < ys.length by omega] using this
  rw [this]
theorem firstD_no {xs ys : List Int} (hall : ∀ j (hj1 : j < xs.length) (hj2 : j < ys.length), (xs[j] == ys[j]) = true) : firstD xs ys = -1 := by
  unfold firstD
  have : (List.range (min xs.length ys.length)).find? (fun k => !(xs.getD k 0 == ys.getD k 0)) = none := by
    rw [List.find?_range_eq_none]
    intro j hj
    have := hall j (by omega) (by omega)
    simpa [show j < xs.length by omega, show j < ys.length by omega] using this
  rw [this]
/-- Where a hunt begins. -/
def startB (xs ys : List Int) : Bool := agreeB xs ys 0 && !agreeB xs ys (lastI xs ys)
def startR (xs ys : List Int) : Hu := if startB xs ys = true then ⟨0, lastI xs ys, 2⟩ else ⟨0, 0, 0⟩
theorem lastI_range {xs ys : List Int} (hx : xs.length ≤ 1048576) (hy : ys.length ≤ 1048576) : -1 ≤ lastI xs ys ∧ lastI xs ys ≤ 1048576 := by
  unfold lastI; split <;> omega

theorem last_impl {w : World} {v v' : Value} {xs ys : List Int} (h : RdI w v xs) (h' : RdI w v' ys) (hx : xs.length ≤ 1048576) (hy : ys.length ≤ 1048576) :
    Calls Try.prog 37 #[v, v'] w fun e w' => e = .returned (.int .i64 (lastI xs ys)) ∧ w = w' := by
  obtain ⟨a, cap, rfl, -⟩ := h
  obtain ⟨a', cap', rfl, -⟩ := h'
  have h1 : (xs.length : Int) ≤ 1048576 := by omega
  have h2 : (ys.length : Int) ≤ 1048576 := by omega
  by_cases hle : xs.length ≤ ys.length
  · have HF : Hid (lastI xs ys = (xs.length : Int) - 1) := Lib.hid (by unfold lastI; rw [if_pos hle])
    have hm : min (xs.length : Int) (ys.length : Int) = (xs.length : Int) := by omega
    have hm2 : min xs.length ys.length = xs.length := by omega
    have hnl : ¬ ys.length < xs.length := by omega
    go_enter Try.func37, Try.ntmps37
    go_wp2_with (fail)
    go_ret
    exact ⟨by rw [HF.out]; rfl, rfl⟩
  · have HF : Hid (lastI xs ys = (ys.length : Int) - 1) := Lib.hid (by unfold lastI; rw [if_neg hle])
    have hm : min (xs.length : Int) (ys.length : Int) = (ys.length : Int) := by omega
    have hm2 : min xs.length ys.length = ys.length := by omega
    have hnl : ys.length < xs.length := by omega
    go_enter Try.func37, Try.ntmps37
    go_wp2_with (fail)
    go_ret
    exact ⟨by rw [HF.out]; rfl, rfl⟩
set_option maxHeartbeats 1000000 in
theorem agree_impl {w : World} {v v' : Value} {xs ys : List Int} (h : RdI w v xs) (h' : RdI w v' ys) (hx : xs.length ≤ 1048576) (hy : ys.length ≤ 1048576) (k : Int) :
    Calls Try.prog 18 #[v, v', .int .i64 k] w fun e w' => e = .returned (.bool (agreeB xs ys k)) ∧ ∃ n, w' = w.drewN n := by
  have hLC : ∀ n, Calls Try.prog 37 #[v, v'] (w.drewN n) fun e w' => e = .returned (.int .i64 (lastI xs ys)) ∧ w' = w.drewN n := fun n => (last_impl (h.keep (belowDrew w n)) (h'.keep (belowDrew w n)) hx hy).mono fun _ _ ⟨he, hm⟩ => ⟨he, hm.symm⟩
  have hWI : ∀ W, Calls Try.prog 38 #[.int .i64 k, .int .i64 0, .int .i64 (lastI xs ys)] W fun e w' => e = .returned (.bool (inR k 0 (lastI xs ys))) ∧ w' = W := fun W => (within_impl k 0 (lastI xs ys) W).mono fun _ _ ⟨he, hm⟩ => ⟨he, hm.symm⟩
  have hlr := lastI_range hx hy
  obtain ⟨a, cap, rfl, h⟩ := h
  obtain ⟨a', cap', rfl, h'⟩ := h'
  cases q : inR k 0 (lastI xs ys) with
  | false =>
    have HF := Lib.hid (agreeB_no q)
    rw [q] at hWI
    clear q
    generalize lastI xs ys = l at *
    go_enter Try.func18, Try.ntmps18
    go_wp2_with (fail)
    go_quiet (first | (go_at_call 37; exact Calls.quiet_of_same (hLC _)) | (go_at_call 38; exact Calls.quiet_of_same (hWI _)))
    go_wp2_with (fail)
    go_ret
    exact ⟨by rw [HF.out]; rfl, by first | exact ⟨_, rfl⟩ | exact ⟨_, World.drewN_drewN _ _ _⟩⟩
  | true =>
    obtain ⟨h0, h1, h2⟩ := lastI_lt q
    obtain ⟨n, rfl⟩ : ∃ n : Nat, k = n := ⟨k.toNat, by omega⟩
    have hn1 : n < xs.length := by omega
    have hn2 : n < ys.length := by omega
    obtain ⟨b, off, rfl, hc⟩ := h.resolve_left (by intro e; rw [e] at hn1; simp at hn1)
    obtain ⟨b', off', rfl, hc'⟩ := h'.resolve_left (by intro e; rw [e] at hn2; simp at hn2)
    have c1 := hc n hn1
    have c2 := hc' n hn2
    have HF := Lib.hid (agreeB_at hn1 hn2)
    rw [q] at hWI
    clear q h h' hc hc'
    generalize xs[n] = x at *
    generalize ys[n] = y at *
    obtain ⟨g, hg⟩ : ∃ g, (x == y) = g := ⟨_, rfl⟩
    rw [hg] at HF
    generalize lastI xs ys = l at *
    go_enter Try.func18, Try.ntmps18
    go_wp2_with (fail)
    go_quiet (first | (go_at_call 37; exact Calls.quiet_of_same (hLC _)) | (go_at_call 38; exact Calls.quiet_of_same (hWI _)))
    go_wp2_with (fail)
    go_ret
    exact ⟨by rw [HF.out]; simp [hg], _, rfl⟩
set_option maxHeartbeats 1000000 in
theorem agree_spec {w : World} {v v' : Value} {xs ys : List Int} (h : RdI w v xs) (h' : RdI w v' ys) (hx : xs.length ≤ 1048576) (hy : ys.length ≤ 1048576) (k : Int) :
    Calls Try.prog 20 #[v, v', .int .i64 k] w fun e w' => e = .returned (.bool (agreeB xs ys k)) ∧ ∃ n, w' = w.drewN n := by
  obtain ⟨a, cap, rfl, h⟩ := h
  obtain ⟨a', cap', rfl, h'⟩ := h'
  by_cases h0 : 0 ≤ k
  case neg =>
    have z0 : decide (0 ≤ k) = false := by simpa using h0
    have HF := Lib.hid (agreeB_out (xs := xs) (ys := ys) (k := k) (by omega))
    go_enter Try.func20, Try.ntmps20
    go_wp2_with (fail)
    go_quiet (fail)
    go_wp2_with (fail)
    go_ret
    exact ⟨by rw [HF.out]; rfl, by first | exact ⟨_, rfl⟩ | exact ⟨_, World.drewN_drewN _ _ _⟩⟩
  have z0 : decide (0 ≤ k) = true := by simpa using h0
  by_cases h1 : k < (xs.length : Int)
  case neg =>
    have z1 : decide (k < (xs.length : Int)) = false := by simpa using h1
    have HF := Lib.hid (agreeB_out (xs := xs) (ys := ys) (k := k) (by omega))
    go_enter Try.func20, Try.ntmps20
    go_wp2_with (fail)
    go_quiet (fail)
    go_wp2_with (fail)
    go_ret
    exact ⟨by rw [HF.out]; rfl, by first | exact ⟨_, rfl⟩ | exact ⟨_, World.drewN_drewN _ _ _⟩⟩
  have z1 : decide (k < (xs.length : Int)) = true := by simpa using h1
  by_cases h2 : k < (ys.length : Int)
  case neg =>
    have z2 : decide (k < (ys.length : Int)) = false := by simpa using h2
    have HF := Lib.hid (agreeB_out (xs := xs) (ys := ys) (k := k) (by omega))
    go_enter Try.func20, Try.ntmps20
    go_wp2_with (fail)
    go_quiet (fail)
    go_wp2_with (fail)
    go_ret
    exact ⟨by rw [HF.out]; rfl, by first | exact ⟨_, rfl⟩ | exact ⟨_, World.drewN_drewN _ _ _⟩⟩
  have z2 : decide (k < (ys.length : Int)) = true := by simpa using h2
  obtain ⟨n, rfl⟩ : ∃ n : Nat, k = n := ⟨k.toNat, by omega⟩
  have hn1 : n < xs.length := by omega
  have hn2 : n < ys.length := by omega
  obtain ⟨b, off, rfl, hc⟩ := h.resolve_left (by intro e; rw [e] at hn1; simp at hn1)
  obtain ⟨b', off', rfl, hc'⟩ := h'.resolve_left (by intro e; rw [e] at hn2; simp at hn2)
  have c1 := hc n hn1
  have c2 := hc' n hn2
  have HF := Lib.hid (agreeB_at hn1 hn2)
  clear h h' hc hc'
  generalize xs[n] = x at *
  generalize ys[n] = y at *
  obtain ⟨g, hg⟩ : ∃ g, (x == y) = g := ⟨_, rfl⟩
  rw [hg] at HF
  go_enter Try.func20, Try.ntmps20
  go_wp2_with (fail)
  go_quiet (fail)
  go_wp2_with (fail)
  go_ret
  exact ⟨by rw [HF.out]; simp [hg], _, rfl⟩
set_option maxHeartbeats 2000000 in
theorem first_impl {w : World} {v v' : Value} {xs ys : List Int} (h : RdI w v xs) (h' : RdI w v' ys) (hx : xs.length ≤ 1048576) (hy : ys.length ≤ 1048576) :
    Calls Try.prog 17 #[v, v'] w fun e w' => e = .returned (.int .i64 (firstD xs ys)) ∧ ∃ n, w' = w.drewN n := by
  obtain ⟨a, cap, rfl, h⟩ := h
  obtain ⟨a', cap', rfl, h'⟩ := h'
  have hx1 : (xs.length : Int) ≤ 1048576 := by omega
  have hy1 : (ys.length : Int) ≤ 1048576 := by omega
  by_cases hle : xs.length ≤ ys.length
  case pos =>
    have hm : min (xs.length : Int) (ys.length : Int) = (xs.length : Int) := by omega
    have hm2 : min xs.length ys.length = xs.length := by omega
    have hnl : ¬ ys.length < xs.length := by omega
    go_enter Try.func17, Try.ntmps17
    go_wp2_with (fail)
    go_loopw [11] (fun i wr => ∃ k n : Nat, k ≤ xs.length ∧ k ≤ ys.length ∧ i = .int .i64 (k : Int) ∧ wr = w.drewN n ∧ Hid (∀ j (hj1 : j < xs.length) (hj2 : j < ys.length), j < k → (xs[j] == ys[j]) = true)) (fun i _ => xs.length - (intOf i).toNat)
    case atStart => exact ⟨0, 0, Nat.zero_le _, Nat.zero_le _, rfl, rfl, Lib.hid (fun j _ _ hl => by omega)⟩
    case round =>
      obtain ⟨k, n, hk, hk', rfl, rfl, HA⟩ := hrel
      by_cases h1 : k < xs.length
      case neg =>
        have HF : Hid (firstD xs ys = -1) := Lib.hid (firstD_no (fun j hj1 hj2 => HA.out j hj1 hj2 (by omega)))
        have z1 : decide ((k : Int) < (xs.length : Int)) = false := by simp; omega
        go_wp2_with (fail)
        go_ret
        exact ⟨by rw [HF.out]; rfl, by first | exact ⟨_, rfl⟩ | exact ⟨_, World.drewN_drewN _ _ _⟩⟩
      have z1 : decide ((k : Int) < (xs.length : Int)) = true := by simp; omega
      by_cases h2 : k < ys.length
      case neg =>
        have HF : Hid (firstD xs ys = -1) := Lib.hid (firstD_no (fun j hj1 hj2 => HA.out j hj1 hj2 (by omega)))
        have z2 : decide ((k : Int) < (ys.length : Int)) = false := by simp; omega
        exfalso; omega
      have z2 : decide ((k : Int) < (ys.length : Int)) = true := by simp; omega
      obtain ⟨b, off, rfl, hc⟩ := h.resolve_left (by intro e; rw [e] at h1; simp at h1)
      obtain ⟨b', off', rfl, hc'⟩ := h'.resolve_left (by intro e; rw [e] at h2; simp at h2)
      have c1 := hc k h1
      have c2 := hc' k h2
      have h1i : (k : Int) < (xs.length : Int) := by omega
      have h2i : (k : Int) < (ys.length : Int) := by omega
      cases hg : xs[k] == ys[k] with
      | false =>
        have HF : Hid (firstD xs ys = (k : Int)) := Lib.hid (firstD_yes h1 h2 hg HA.out)
        clear HA h h' hc hc'
        generalize xs[k] = x at *
        generalize ys[k] = y at *
        have hne : (x != y) = true := by simp [bne, hg]
        go_wp2_with (fail)
        go_quiet (fail)
        go_wp2_with (fail)
        go_ret
        exact ⟨by rw [HF.out]; rfl, by first | exact ⟨_, rfl⟩ | exact ⟨_, World.drewN_drewN _ _ _⟩⟩
      | true =>
        have HA2 : Hid (∀ j (hj1 : j < xs.length) (hj2 : j < ys.length), j < k + 1 → (xs[j] == ys[j]) = true) := Lib.hid (fun j hj1 hj2 hl => by
          by_cases e : j = k
          · subst e; exact hg
          · exact HA.out j hj1 hj2 (by omega))
        clear HA h h' hc hc'
        generalize xs[k] = x at *
        generalize ys[k] = y at *
        have hne : (x != y) = false := by simp [bne, hg]
        go_wp2_with (fail)
        go_quiet (fail)
        go_wp2_with (fail)
        go_roundw
        case rel => exact ⟨k + 1, _, by omega, by omega, by go_num, by first | rfl | exact World.drewN_drewN _ _ _, HA2⟩
        case measure => simp [intOf]; omega
  case neg =>
    have hm : min (xs.length : Int) (ys.length : Int) = (ys.length : Int) := by omega
    have hm2 : min xs.length ys.length = ys.length := by omega
    have hnl : ys.length < xs.length := by omega
    go_enter Try.func17, Try.ntmps17
    go_wp2_with (fail)
    go_loopw [11] (fun i wr => ∃ k n : Nat, k ≤ xs.length ∧ k ≤ ys.length ∧ i = .int .i64 (k : Int) ∧ wr = w.drewN n ∧ Hid (∀ j (hj1 : j < xs.length) (hj2 : j < ys.length), j < k → (xs[j] == ys[j]) = true)) (fun i _ => xs.length - (intOf i).toNat)
    case atStart => exact ⟨0, 0, Nat.zero_le _, Nat.zero_le _, rfl, rfl, Lib.hid (fun j _ _ hl => by omega)⟩
    case round =>
      obtain ⟨k, n, hk, hk', rfl, rfl, HA⟩ := hrel
      by_cases h1 : k < xs.length
      case neg =>
        have HF : Hid (firstD xs ys = -1) := Lib.hid (firstD_no (fun j hj1 hj2 => HA.out j hj1 hj2 (by omega)))
        have z1 : decide ((k : Int) < (xs.length : Int)) = false := by simp; omega
        exfalso; omega
      have z1 : decide ((k : Int) < (xs.length : Int)) = true := by simp; omega
      by_cases h2 : k < ys.length
      case neg =>
        have HF : Hid (firstD xs ys = -1) := Lib.hid (firstD_no (fun j hj1 hj2 => HA.out j hj1 hj2 (by omega)))
        have z2 : decide ((k : Int) < (ys.length : Int)) = false := by simp; omega
        go_wp2_with (fail)
        go_ret
        exact ⟨by rw [HF.out]; rfl, by first | exact ⟨_, rfl⟩ | exact ⟨_, World.drewN_drewN _ _ _⟩⟩
      have z2 : decide ((k : Int) < (ys.length : Int)) = true := by simp; omega
      obtain ⟨b, off, rfl, hc⟩ := h.resolve_left (by intro e; rw [e] at h1; simp at h1)
      obtain ⟨b', off', rfl, hc'⟩ := h'.resolve_left (by intro e; rw [e] at h2; simp at h2)
      have c1 := hc k h1
      have c2 := hc' k h2
      have h1i : (k : Int) < (xs.length : Int) := by omega
      have h2i : (k : Int) < (ys.length : Int) := by omega
      cases hg : xs[k] == ys[k] with
      | false =>
        have HF : Hid (firstD xs ys = (k : Int)) := Lib.hid (firstD_yes h1 h2 hg HA.out)
        clear HA h h' hc hc'
        generalize xs[k] = x at *
        generalize ys[k] = y at *
        have hne : (x != y) = true := by simp [bne, hg]
        go_wp2_with (fail)
        go_quiet (fail)
        go_wp2_with (fail)
        go_ret
        exact ⟨by rw [HF.out]; rfl, by first | exact ⟨_, rfl⟩ | exact ⟨_, World.drewN_drewN _ _ _⟩⟩
      | true =>
        have HA2 : Hid (∀ j (hj1 : j < xs.length) (hj2 : j < ys.length), j < k + 1 → (xs[j] == ys[j]) = true) := Lib.hid (fun j hj1 hj2 hl => by
          by_cases e : j = k
          · subst e; exact hg
          · exact HA.out j hj1 hj2 (by omega))
        clear HA h h' hc hc'
        generalize xs[k] = x at *
        generalize ys[k] = y at *
        have hne : (x != y) = false := by simp [bne, hg]
        go_wp2_with (fail)
        go_quiet (fail)
        go_wp2_with (fail)
        go_roundw
        case rel => exact ⟨k + 1, _, by omega, by omega, by go_num, by first | rfl | exact World.drewN_drewN _ _ _, HA2⟩
        case measure => simp [intOf]; omega
set_option maxHeartbeats 2000000 in
theorem first_spec {w : World} {v v' : Value} {xs ys : List Int} (h : RdI w v xs) (h' : RdI w v' ys) (hx : xs.length ≤ 1048576) (hy : ys.length ≤ 1048576) :
    Calls Try.prog 23 #[v, v'] w fun e w' => e = .returned (.int .i64 (firstD xs ys)) ∧ ∃ n, w' = w.drewN n := by
  obtain ⟨a, cap, rfl, h⟩ := h
  obtain ⟨a', cap', rfl, h'⟩ := h'
  have hx1 : (xs.length : Int) ≤ 1048576 := by omega
  have hy1 : (ys.length : Int) ≤ 1048576 := by omega
  go_enter Try.func23, Try.ntmps23
  go_wp2_with (fail)
  go_loopw [5] (fun i wr => ∃ k n : Nat, k ≤ xs.length ∧ k ≤ ys.length ∧ i = .int .i64 (k : Int) ∧ wr = w.drewN n ∧ Hid (∀ j (hj1 : j < xs.length) (hj2 : j < ys.length), j < k → (xs[j] == ys[j]) = true)) (fun i _ => xs.length - (intOf i).toNat)
  case atStart => exact ⟨0, 0, Nat.zero_le _, Nat.zero_le _, rfl, rfl, Lib.hid (fun j _ _ hl => by omega)⟩
  case round =>
    obtain ⟨k, n, hk, hk', rfl, rfl, HA⟩ := hrel
    by_cases h1 : k < xs.length
    case neg =>
      have HF : Hid (firstD xs ys = -1) := Lib.hid (firstD_no (fun j hj1 hj2 => HA.out j hj1 hj2 (by omega)))
      have z1 : decide ((k : Int) < (xs.length : Int)) = false := by simp; omega
      go_wp2_with (fail)
      go_ret
      exact ⟨by rw [HF.out]; rfl, by first | exact ⟨_, rfl⟩ | exact ⟨_, World.drewN_drewN _ _ _⟩⟩
    have z1 : decide ((k : Int) < (xs.length : Int)) = true := by simp; omega
    by_cases h2 : k < ys.length
    case neg =>
      have HF : Hid (firstD xs ys = -1) := Lib.hid (firstD_no (fun j hj1 hj2 => HA.out j hj1 hj2 (by omega)))
      have z2 : decide ((k : Int) < (ys.length : Int)) = false := by simp; omega
      go_wp2_with (fail)
      go_ret
      exact ⟨by rw [HF.out]; rfl, by first | exact ⟨_, rfl⟩ | exact ⟨_, World.drewN_drewN _ _ _⟩⟩
    have z2 : decide ((k : Int) < (ys.length : Int)) = true := by simp; omega
    obtain ⟨b, off, rfl, hc⟩ := h.resolve_left (by intro e; rw [e] at h1; simp at h1)
    obtain ⟨b', off', rfl, hc'⟩ := h'.resolve_left (by intro e; rw [e] at h2; simp at h2)
    have c1 := hc k h1
    have c2 := hc' k h2
    have h1i : (k : Int) < (xs.length : Int) := by omega
    have h2i : (k : Int) < (ys.length : Int) := by omega
    cases hg : xs[k] == ys[k] with
    | false =>
      have HF : Hid (firstD xs ys = (k : Int)) := Lib.hid (firstD_yes h1 h2 hg HA.out)
      clear HA h h' hc hc'
      generalize xs[k] = x at *
      generalize ys[k] = y at *
      have hne : (x != y) = true := by simp [bne, hg]
      go_wp2_with (fail)
      go_quiet (fail)
      go_wp2_with (fail)
      go_ret
      exact ⟨by rw [HF.out]; rfl, by first | exact ⟨_, rfl⟩ | exact ⟨_, World.drewN_drewN _ _ _⟩⟩
    | true =>
      have HA2 : Hid (∀ j (hj1 : j < xs.length) (hj2 : j < ys.length), j < k + 1 → (xs[j] == ys[j]) = true) := Lib.hid (fun j hj1 hj2 hl => by
        by_cases e : j = k
        · subst e; exact hg
        · exact HA.out j hj1 hj2 (by omega))
      clear HA h h' hc hc'
      generalize xs[k] = x at *
      generalize ys[k] = y at *
      have hne : (x != y) = false := by simp [bne, hg]
      go_wp2_with (fail)
      go_quiet (fail)
      go_wp2_with (fail)
      go_roundw
      case rel => exact ⟨k + 1, _, by omega, by omega, by go_num, by first | rfl | exact World.drewN_drewN _ _ _, HA2⟩
      case measure => simp [intOf]; omega
theorem agree_implB {w : World} {v v' : Value} {xs ys : List Int} (h : RdI w v xs) (h' : RdI w v' ys) (hx : xs.length ≤ 1048576) (hy : ys.length ≤ 1048576) (k : Int) :
    Calls Try.prog 18 #[v, v', .int .i64 k] w fun e w' => e = .returned (.bool (agreeB xs ys k)) ∧ Below w.heap.size w w' := (agree_impl h h' hx hy k).mono fun _ _ ⟨he, n, hw⟩ => ⟨he, hw ▸ belowDrew w n⟩
theorem agree_specB {w : World} {v v' : Value} {xs ys : List Int} (h : RdI w v xs) (h' : RdI w v' ys) (hx : xs.length ≤ 1048576) (hy : ys.length ≤ 1048576) (k : Int) :
    Calls Try.prog 20 #[v, v', .int .i64 k] w fun e w' => e = .returned (.bool (agreeB xs ys k)) ∧ Below w.heap.size w w' := (agree_spec h h' hx hy k).mono fun _ _ ⟨he, n, hw⟩ => ⟨he, hw ▸ belowDrew w n⟩
set_option maxHeartbeats 2000000 in
theorem lawSumsAgree {w : World} (a : Option Addr) (len cap : Nat) (zs : List Int) (hr : IsRow .i64 w a len cap zs) (a' : Option Addr) (len' cap' : Nat) (zs' : List Int) (hr' : IsRow .i64 w a' len' cap' zs') (k : Int) (wk : (Lit.int .i64 k).wf = true) :
    Calls Try.prog 4 #[.slice a len cap, .slice a' len' cap', .int .i64 k] w fun e w' => e = .returned (.bool true) ∧ Below w.heap.size w w' := by
  obtain ⟨hrd, hl, _⟩ := RdI.of_row hr
  obtain ⟨hrd', hl', _⟩ := RdI.of_row hr'
  have hm : len ≤ maxLen := by
    rcases hr with ⟨_, rfl, _⟩ | ⟨x, _, h1, h2, _⟩
    · exact Nat.zero_le _
    · exact Nat.le_trans h1 h2
  have hm' : len' ≤ maxLen := by
    rcases hr' with ⟨_, rfl, _⟩ | ⟨x, _, h1, h2, _⟩
    · exact Nat.zero_le _
    · exact Nat.le_trans h1 h2
  unfold maxLen at hm hm'
  clear hr hr'
  by_cases h : 1048576 < len
  · go_enter Try.func4, Try.ntmps4
    go_wp2_with (fail)
    go_ret
    exact ⟨rfl, Below.refl _ _⟩
  have hle : (len : Int) ≤ 1048576 := by omega
  by_cases h' : 1048576 < len'
  · go_enter Try.func4, Try.ntmps4
    go_wp2_with (fail)
    go_ret
    exact ⟨rfl, Below.refl _ _⟩
  have hle' : (len' : Int) ≤ 1048576 := by omega
  generalize zs.take len = xs at hrd hl
  generalize zs'.take len' = ys at hrd' hl'
  have hx : xs.length ≤ 1048576 := by omega
  have hy : ys.length ≤ 1048576 := by omega
  have hn : xs.length ≤ 1099511627776 := by omega
  have hn' : ys.length ≤ 1099511627776 := by omega
  have HL := Lib.hid hl
  have HL' := Lib.hid hl'
  clear hl hl' h h' hm hm'
  go_enter Try.func4, Try.ntmps4
  go_wp2_with (fail)
  refine (toIntS_any hrd hn).mono ?_
  rintro e w1 ⟨v1, rfl, r1, b1⟩
  go_wp2_with (fail)
  have q1 := b1
  refine (toIntS_any (hrd'.keep q1) hn').mono ?_
  rintro e w2 ⟨v2, rfl, r2, b2⟩
  have q2 := q1.trans (b2.mono q1.size)
  have r1' := r1.keep b2
  go_wp2_with (fail)
  refine (agree_specB r1' r2 hx hy k).mono ?_
  rintro e w3 ⟨rfl, b3⟩
  have q3 := q2.trans (b3.mono q2.size)
  clear r1 r1' r2 b1 b2 b3 q1 q2
  go_wp2_with (fail)
  refine (toIntS_any (hrd.keep q3) hn).mono ?_
  rintro e w4 ⟨v4, rfl, r4, b4⟩
  have q4 := q3.trans (b4.mono q3.size)
  go_wp2_with (fail)
  refine (toIntS_any (hrd'.keep q4) hn').mono ?_
  rintro e w5 ⟨v5, rfl, r5, b5⟩
  have q5 := q4.trans (b5.mono q4.size)
  have r4 := r4.keep b5
  go_wp2_with (fail)
  refine (agree_implB r4 r5 hx hy k).mono ?_
  rintro e w6 ⟨rfl, b6⟩
  have q6 := q5.trans (b6.mono q5.size)
  have r4 := r4.keep b6
  have r5 := r5.keep b6
  go_wp2_with (fail)
  refine (toIntS_any (hrd.keep q6) hn).mono ?_
  rintro e w7 ⟨v7, rfl, r7, b7⟩
  have q7 := q6.trans (b7.mono q6.size)
  go_wp2_with (fail)
  refine (eqIntS_same (r4.keep b7) r7 hn).mono ?_
  rintro e w8 ⟨rfl, n8, rfl⟩
  have q8 := below_drewN q7 n8
  have r5 : RdI (w7.drewN n8) v5 ys := (r5.keep b7).keep (belowDrew _ _)
  go_wp2_with (fail)
  refine (toIntS_any (hrd'.keep q8) hn').mono ?_
  rintro e w9 ⟨v9, rfl, r9, b9⟩
  have q9 := q8.trans (b9.mono q8.size)
  go_wp2_with (fail)
  refine (eqIntS_same (r5.keep b9) r9 hn').mono ?_
  rintro e w10 ⟨rfl, n10, rfl⟩
  go_wp2_with (fail)
  go_ret
  exact ⟨rfl, below_drewN q9 _⟩
theorem first_implB {w : World} {v v' : Value} {xs ys : List Int} (h : RdI w v xs) (h' : RdI w v' ys) (hx : xs.length ≤ 1048576) (hy : ys.length ≤ 1048576) :
    Calls Try.prog 17 #[v, v'] w fun e w' => e = .returned (.int .i64 (firstD xs ys)) ∧ Below w.heap.size w w' := (first_impl h h' hx hy).mono fun _ _ ⟨he, n, hw⟩ => ⟨he, hw ▸ belowDrew w n⟩
theorem first_specB {w : World} {v v' : Value} {xs ys : List Int} (h : RdI w v xs) (h' : RdI w v' ys) (hx : xs.length ≤ 1048576) (hy : ys.length ≤ 1048576) :
    Calls Try.prog 23 #[v, v'] w fun e w' => e = .returned (.int .i64 (firstD xs ys)) ∧ Below w.heap.size w w' := (first_spec h h' hx hy).mono fun _ _ ⟨he, n, hw⟩ => ⟨he, hw ▸ belowDrew w n⟩
set_option maxHeartbeats 2000000 in
theorem lawFirstDifference {w : World} (a : Option Addr) (len cap : Nat) (zs : List Int) (hr : IsRow .i64 w a len cap zs) (a' : Option Addr) (len' cap' : Nat) (zs' : List Int) (hr' : IsRow .i64 w a' len' cap' zs') :
    Calls Try.prog 5 #[.slice a len cap, .slice a' len' cap'] w fun e w' => e = .returned (.bool true) ∧ Below w.heap.size w w' := by
  obtain ⟨hrd, hl, _⟩ := RdI.of_row hr
  obtain ⟨hrd', hl', _⟩ := RdI.of_row hr'
  have hm : len ≤ maxLen := by
    rcases hr with ⟨_, rfl, _⟩ | ⟨x, _, h1, h2, _⟩
    · exact Nat.zero_le _
    · exact Nat.le_trans h1 h2
  have hm' : len' ≤ maxLen := by
    rcases hr' with ⟨_, rfl, _⟩ | ⟨x, _, h1, h2, _⟩
    · exact Nat.zero_le _
    · exact Nat.le_trans h1 h2
  unfold maxLen at hm hm'
  clear hr hr'
  by_cases h : 1048576 < len
  · go_enter Try.func5, Try.ntmps5
    go_wp2_with (fail)
    go_ret
    exact ⟨rfl, Below.refl _ _⟩
  have hle : (len : Int) ≤ 1048576 := by omega
  by_cases h' : 1048576 < len'
  · go_enter Try.func5, Try.ntmps5
    go_wp2_with (fail)
    go_ret
    exact ⟨rfl, Below.refl _ _⟩
  have hle' : (len' : Int) ≤ 1048576 := by omega
  generalize zs.take len = xs at hrd hl
  generalize zs'.take len' = ys at hrd' hl'
  have hx : xs.length ≤ 1048576 := by omega
  have hy : ys.length ≤ 1048576 := by omega
  have hn : xs.length ≤ 1099511627776 := by omega
  have hn' : ys.length ≤ 1099511627776 := by omega
  have HL := Lib.hid hl
  have HL' := Lib.hid hl'
  clear hl hl' h h' hm hm'
  go_enter Try.func5, Try.ntmps5
  go_wp2_with (fail)
  refine (toIntS_any hrd hn).mono ?_
  rintro e w1 ⟨v1, rfl, r1, b1⟩
  go_wp2_with (fail)
  have q1 := b1
  refine (toIntS_any (hrd'.keep q1) hn').mono ?_
  rintro e w2 ⟨v2, rfl, r2, b2⟩
  have q2 := q1.trans (b2.mono q1.size)
  have r1' := r1.keep b2
  go_wp2_with (fail)
  refine (first_specB r1' r2 hx hy).mono ?_
  rintro e w3 ⟨rfl, b3⟩
  have q3 := q2.trans (b3.mono q2.size)
  clear r1 r1' r2 b1 b2 b3 q1 q2
  go_wp2_with (fail)
  refine (toIntS_any (hrd.keep q3) hn).mono ?_
  rintro e w4 ⟨v4, rfl, r4, b4⟩
  have q4 := q3.trans (b4.mono q3.size)
  go_wp2_with (fail)
  refine (toIntS_any (hrd'.keep q4) hn').mono ?_
  rintro e w5 ⟨v5, rfl, r5, b5⟩
  have q5 := q4.trans (b5.mono q4.size)
  have r4 := r4.keep b5
  go_wp2_with (fail)
  refine (first_implB r4 r5 hx hy).mono ?_
  rintro e w6 ⟨rfl, b6⟩
  have q6 := q5.trans (b6.mono q5.size)
  have r4 := r4.keep b6
  have r5 := r5.keep b6
  go_wp2_with (fail)
  refine (toIntS_any (hrd.keep q6) hn).mono ?_
  rintro e w7 ⟨v7, rfl, r7, b7⟩
  have q7 := q6.trans (b7.mono q6.size)
  go_wp2_with (fail)
  refine (eqIntS_same (r4.keep b7) r7 hn).mono ?_
  rintro e w8 ⟨rfl, n8, rfl⟩
  have q8 := below_drewN q7 n8
  have r5 : RdI (w7.drewN n8) v5 ys := (r5.keep b7).keep (belowDrew _ _)
  go_wp2_with (fail)
  refine (toIntS_any (hrd'.keep q8) hn').mono ?_
  rintro e w9 ⟨v9, rfl, r9, b9⟩
  have q9 := q8.trans (b9.mono q8.size)
  go_wp2_with (fail)
  refine (eqIntS_same (r5.keep b9) r9 hn').mono ?_
  rintro e w10 ⟨rfl, n10, rfl⟩
  go_wp2_with (fail)
  go_ret
  exact ⟨rfl, below_drewN q9 _⟩
end Go.Proofs.Ytikaiimafliceaa
