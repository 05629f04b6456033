/-
  ScriptInput: the contracts of the model and of the program; the law. Ticks are numbers of 64 bits.
-/
import Derived.Test.YtlffkcmbeolohaaTrL
namespace Go.Proofs.Ytlffkcmbeolohaa
open Go.RowKit
set_option linter.all false
def B64 (x : Int) : Prop := -9223372036854775808 ≤ x ∧ x ≤ 9223372036854775807
theorem B64.of {x : Int} (h : (Lit.int .i64 x).wf = true) : B64 x := by
  simp only [Lit.wf, Bool.and_eq_true, decide_eq_true_eq] at h
  exact ⟨h.1, h.2⟩
def scrOk (xs : List Int) (d t : Int) : Bool := decide (xs.length ≠ 0) && trkB xs && inR d 0 5 && decide (0 ≤ t)
def scrV (xs : List Int) (d t : Int) : Int := if t < d then 0 else xs.getD ((t - d).toNat % xs.length) 0
def scrI (xs : List Int) (d t : Int) : Int := if scrOk xs d t then scrV xs d t else -1
theorem scr_len {xs : List Int} {d t : Int} (h : xs.length = 0) : scrI xs d t = -1 := by unfold scrI scrOk; simp [h]
theorem scr_trk {xs : List Int} {d t : Int} (h : trkB xs = false) : scrI xs d t = -1 := by unfold scrI scrOk; simp [h]
theorem scr_big {xs : List Int} {d t : Int} (h : ¬ xs.length ≤ 400) : scrI xs d t = -1 := scr_trk (by unfold trkB; rw [decide_eq_false h]; rfl)
theorem scr_all {xs : List Int} {d t : Int} (h : allW 0 15 xs = false) : scrI xs d t = -1 := scr_trk (by unfold trkB; rw [h]; simp)
theorem scr_del {xs : List Int} {d t : Int} (h : inR d 0 5 = false) : scrI xs d t = -1 := by unfold scrI scrOk; simp [h]
theorem scr_neg {xs : List Int} {d t : Int} (h : t < 0) : scrI xs d t = -1 := by
  unfold scrI scrOk; rw [show decide (0 ≤ t) = false by simp; exact h]; simp
theorem scr_ok {xs : List Int} {d t : Int} (h0 : xs.length ≠ 0) (h1 : trkB xs = true) (h2 : inR d 0 5 = true) (h3 : 0 ≤ t) : scrI xs d t = scrV xs d t := by
  unfold scrI scrOk; rw [h1, h2, decide_eq_true h0, decide_eq_true h3]; rfl
theorem scrV_early {xs : List Int} {d t : Int} (h : t < d) : scrV xs d t = 0 := by unfold scrV; rw [if_pos h]
theorem scrV_late {xs : List Int} {d t : Int} {j : Nat} (hd : ¬ t < d) (hj : (j : Int) = (t - d) % (xs.length : Int)) (hjl : j < xs.length) : scrV xs d t = xs[j] := by
  unfold scrV; rw [if_neg hd]
  have : (t - d).toNat % xs.length = j := by
    obtain ⟨q, hq⟩ := Int.eq_ofNat_of_zero_le (show 0 ≤ t - d by omega)
    rw [hq] at hj ⊢
    rw [Int.toNat_natCast]
    omega
  rw [this, List.getD_eq_getElem?_getD, List.getElem?_eq_getElem hjl]; rfl
theorem late_facts {xs : List Int} {d t : Int} (h0 : xs.length ≠ 0) (hd : ¬ t < d) (h5 : 0 ≤ d) (hb : B64 t) : ∃ j : Nat, (j : Int) = (t - d) % (xs.length : Int) ∧ j < xs.length ∧ IntKind.i64.wrap ((t - d).tmod (xs.length : Int)) = (j : Int) ∧ IntKind.i64.wrap (t - d) = t - d := by
  obtain ⟨hb0, hb1⟩ := hb
  have hp : 0 < (xs.length : Int) := by omega
  have e1 := Int.emod_nonneg (t - d) (show (xs.length : Int) ≠ 0 by omega)
  have e2 := Int.emod_lt_of_pos (t - d) hp
  obtain ⟨j, hj⟩ : ∃ j : Nat, (j : Int) = (t - d) % (xs.length : Int) := ⟨((t - d) % (xs.length : Int)).toNat, Int.toNat_of_nonneg e1⟩
  have e3 : (t - d) % (xs.length : Int) ≤ t - d := by
    obtain ⟨q, hq⟩ := Int.eq_ofNat_of_zero_le (show 0 ≤ t - d by omega)
    rw [hq]
    have := Nat.mod_le q xs.length
    omega
  refine ⟨j, hj, by omega, ?_, IntWalk.i64_in _ (by omega)⟩
  rw [Int.tmod_eq_emod_of_nonneg (by omega), ← hj]
  exact IntWalk.i64_in _ (by omega)
set_option maxHeartbeats 1000000 in
theorem scriptIn_impl {w : World} {v : Value} {xs : List Int} (h : RdI w v xs) (h0 : xs.length ≠ 0) (hs : xs.length ≤ 400) (d t : Int) (h5 : 0 ≤ d) (hb : B64 t) :
    Calls Try.prog 21 #[v, .int .i64 d, .int .i64 t] w fun e w' => e = .returned (.int .i64 (scrV xs d t)) ∧ w = w' := by
  obtain ⟨a, cap, rfl, h⟩ := h
  obtain ⟨b, off, rfl, hc⟩ := h.resolve_left (by intro e; rw [e] at h0; simp at h0)
  have HV := Lib.hid (rfl : scrV xs d t = scrV xs d t)
  clear h
  by_cases hd : t < d
  · have HF := Lib.hid (HV.out.trans (scrV_early hd))
    have z1 : decide (t < d) = true := by simpa using hd
    go_enter Try.func21, Try.ntmps21
    go_wp2_with (fail)
    go_ret
    exact ⟨by rw [HF.out]; rfl, rfl⟩
  · have z1 : decide (t < d) = false := by simpa using hd
    obtain ⟨j, hj, hjl, hm, hw⟩ := late_facts h0 hd h5 hb
    have HF := Lib.hid (HV.out.trans (scrV_late hd hj hjl))
    have c0 := hc j hjl
    generalize xs[j] = x at HF c0
    have hpos : 0 < (xs.length : Int) := by omega
    have hz : ((xs.length : Int) == 0) = false := by simp; intro e; apply h0; rw [e]; rfl
    have HM := Lib.hid hm
    have hj' := hj.symm
    have hjl' : (j : Int) < (xs.length : Int) := by omega
    clear hc hm hj
    go_enter Try.func21, Try.ntmps21
    go_wp2_with (fail)
    go_ret
    exact ⟨by rw [HF.out]; rfl, rfl⟩
set_option maxHeartbeats 1000000 in
theorem scriptInput_impl {w : World} {v : Value} {xs : List Int} (h : RdI w v xs) (hs : xs.length ≤ 1099511627776) (d t : Int) (hb : B64 t) :
    Calls Try.prog 10 #[v, .int .i64 d, .int .i64 t] w fun e w' => e = .returned (.int .i64 (scrI xs d t)) ∧ Below w.heap.size w w' := by
  obtain ⟨a, cap, rfl, -⟩ := id h
  by_cases h0 : xs.length = 0
  · obtain rfl := List.eq_nil_of_length_eq_zero h0
    have HF := Lib.hid (scr_len (xs := []) (d := d) (t := t) rfl)
    go_enter Try.func10, Try.ntmps10
    go_wp2_with (fail)
    go_ret
    exact ⟨by rw [HF.out]; rfl, Below.refl _ _⟩
  have z0 : ((xs.length : Int) == 0) = false := by simp; intro e; apply h0; rw [e]; rfl
  have hT := trackOk_impl h (by omega)
  cases hv : trkB xs with
  | false =>
    have HF := Lib.hid (scr_trk (d := d) (t := t) hv)
    rw [hv] at hT
    clear hv
    go_enter Try.func10, Try.ntmps10
    go_wp2_with (fail)
    refine hT.mono ?_
    rintro e w1 ⟨rfl, hb1⟩
    go_wp2_with (fail)
    go_ret
    exact ⟨by rw [HF.out]; rfl, hb1⟩
  | true =>
    rw [hv] at hT
    cases hq : inR d 0 5 with
    | false =>
      have HF := Lib.hid (scr_del (xs := xs) (t := t) hq)
      have Q := Lib.hid hq
      clear hv hq
      go_enter Try.func10, Try.ntmps10
      go_wp2_with (fail)
      refine hT.mono ?_
      rintro e w1 ⟨rfl, hb1⟩
      go_wp2_with (go_at_call 20; refine (within_impl _ _ _ _).mono ?_; rintro e w2 ⟨rfl, rfl⟩; rw [Q.out])
      go_ret
      exact ⟨by rw [HF.out]; rfl, hb1⟩
    | true =>
      by_cases ht : t < 0
      · have HF := Lib.hid (scr_neg (xs := xs) (d := d) ht)
        have z1 : decide (t < 0) = true := by simpa using ht
        have Q := Lib.hid hq
        clear hv hq
        go_enter Try.func10, Try.ntmps10
        go_wp2_with (fail)
        refine hT.mono ?_
        rintro e w1 ⟨rfl, hb1⟩
        go_wp2_with (go_at_call 20; refine (within_impl _ _ _ _).mono ?_; rintro e w2 ⟨rfl, rfl⟩; rw [Q.out])
        go_ret
        exact ⟨by rw [HF.out]; rfl, hb1⟩
      · have HF := Lib.hid (scr_ok h0 hv hq (by omega : 0 ≤ t))
        have z1 : decide (t < 0) = false := by simpa using ht
        have h5 := ((inR_iff _ _ _).1 hq).1
        have h400 := (trkB_facts hv).1
        have Q := Lib.hid hq
        clear hv hq
        go_enter Try.func10, Try.ntmps10
        go_wp2_with (fail)
        refine hT.mono ?_
        rintro e w1 ⟨rfl, hb1⟩
        go_wp2_with (go_at_call 20; refine (within_impl _ _ _ _).mono ?_; rintro e w2 ⟨rfl, rfl⟩; rw [Q.out])
        refine (scriptIn_impl (h.keep hb1) h0 h400 d t h5 hb).mono ?_
        rintro e w3 ⟨rfl, rfl⟩
        go_wp2_with (fail)
        go_ret
        exact ⟨by rw [HF.out]; rfl, hb1⟩
set_option maxHeartbeats 1000000 in
theorem scriptInput_spec {w : World} {v : Value} {xs : List Int} (h : RdI w v xs) (hs : xs.length ≤ 1099511627776) (d t : Int) (hb : B64 t) :
    Calls Try.prog 25 #[v, .int .i64 d, .int .i64 t] w fun e w' => e = .returned (.int .i64 (scrI xs d t)) ∧ w = w' := by
  obtain ⟨a, cap, rfl, h0'⟩ := id h
  by_cases hr : inR (xs.length : Int) 1 400 = false
  · have HF : Hid (scrI xs d t = -1) := Lib.hid (by
      by_cases h0 : xs.length = 0
      · exact scr_len h0
      · by_cases h4 : xs.length ≤ 400
        · have := (inR_iff (xs.length : Int) 1 400).2 (by omega); rw [hr] at this; cases this
        · exact scr_big h4)
    have Q0 := Lib.hid hr
    clear hr h0'
    go_enter Try.func25, Try.ntmps25
    go_wp2_with (fail)
    refine (in_spec _ _ _ _).mono ?_
    rintro e w1 ⟨rfl, rfl⟩
    rw [Q0.out]
    go_wp2_with (fail)
    go_ret
    exact ⟨by rw [HF.out]; rfl, rfl⟩
  have hr : inR (xs.length : Int) 1 400 = true := by simpa using hr
  have hr2 := (inR_iff _ _ _).1 hr
  have h0 : xs.length ≠ 0 := by omega
  have h4 : xs.length ≤ 400 := by omega
  have Q0 := Lib.hid hr
  have hT := l03Inputs_any h (by omega)
  clear hr hr2
  cases hv : allW 0 15 xs with
  | false =>
    have HF := Lib.hid (scr_all (d := d) (t := t) hv)
    rw [hv] at hT
    clear hv h0'
    go_enter Try.func25, Try.ntmps25
    go_wp2_with (fail)
    refine (in_spec _ _ _ _).mono ?_
    rintro e w1 ⟨rfl, rfl⟩
    rw [Q0.out]
    go_wp2_with (fail)
    refine hT.mono ?_
    rintro e w2 ⟨rfl, rfl⟩
    go_wp2_with (fail)
    go_ret
    exact ⟨by rw [HF.out]; rfl, rfl⟩
  | true =>
    rw [hv] at hT
    cases hq : inR d 0 5 with
    | false =>
      have HF := Lib.hid (scr_del (xs := xs) (t := t) hq)
      have Q := Lib.hid hq
      clear hv hq h0'
      go_enter Try.func25, Try.ntmps25
      go_wp2_with (fail)
      refine (in_spec _ _ _ _).mono ?_
      rintro e w1 ⟨rfl, rfl⟩
      rw [Q0.out]
      go_wp2_with (fail)
      refine hT.mono ?_
      rintro e w2 ⟨rfl, rfl⟩
      go_wp2_with (fail)
      refine (in_spec _ _ _ _).mono ?_
      rintro e w3 ⟨rfl, rfl⟩
      rw [Q.out]
      go_wp2_with (fail)
      go_ret
      exact ⟨by rw [HF.out]; rfl, rfl⟩
    | true =>
      by_cases ht : t < 0
      · have HF := Lib.hid (scr_neg (xs := xs) (d := d) ht)
        have z0 : decide (t < 0) = true := by simpa using ht
        have Q := Lib.hid hq
        clear hv hq h0'
        go_enter Try.func25, Try.ntmps25
        go_wp2_with (fail)
        refine (in_spec _ _ _ _).mono ?_
        rintro e w1 ⟨rfl, rfl⟩
        rw [Q0.out]
        go_wp2_with (fail)
        refine hT.mono ?_
        rintro e w2 ⟨rfl, rfl⟩
        go_wp2_with (fail)
        refine (in_spec _ _ _ _).mono ?_
        rintro e w3 ⟨rfl, rfl⟩
        rw [Q.out]
        go_wp2_with (fail)
        go_ret
        exact ⟨by rw [HF.out]; rfl, rfl⟩
      · have HV := Lib.hid (scr_ok h0 (show trkB xs = true by unfold trkB; rw [decide_eq_true h4, hv]; rfl) hq (by omega : 0 ≤ t))
        have z0 : decide (t < 0) = false := by simpa using ht
        have h5 := ((inR_iff _ _ _).1 hq).1
        obtain ⟨b, off, rfl, hc⟩ := h0'.resolve_left (by intro e; rw [e] at h0; simp at h0)
        have Q := Lib.hid hq
        clear hv hq h0' ht
        by_cases hd : t < d
        · have HF := Lib.hid (HV.out.trans (scrV_early hd))
          have z1 : decide (t < d) = true := by simpa using hd
          go_enter Try.func25, Try.ntmps25
          go_wp2_with (fail)
          refine (in_spec _ _ _ _).mono ?_
          rintro e w1 ⟨rfl, rfl⟩
          rw [Q0.out]
          go_wp2_with (fail)
          refine hT.mono ?_
          rintro e w2 ⟨rfl, rfl⟩
          go_wp2_with (fail)
          refine (in_spec _ _ _ _).mono ?_
          rintro e w3 ⟨rfl, rfl⟩
          rw [Q.out]
          go_wp2_with (fail)
          go_ret
          exact ⟨by rw [HF.out]; rfl, rfl⟩
        · have z1 : decide (t < d) = false := by simpa using hd
          obtain ⟨j, hj, hjl, hm, hw⟩ := late_facts h0 hd h5 hb
          have HF := Lib.hid (HV.out.trans (scrV_late hd hj hjl))
          have c0 := hc j hjl
          generalize xs[j] = x at HF c0
          have hpos : 0 < (xs.length : Int) := by omega
          have hz : ((xs.length : Int) == 0) = false := by simp; intro e; apply h0; rw [e]; rfl
          have HM := Lib.hid hm
          have hj' := hj.symm
          have hjl' : (j : Int) < (xs.length : Int) := by omega
          clear hc hm hj
          go_enter Try.func25, Try.ntmps25
          go_wp2_with (fail)
          refine (in_spec _ _ _ _).mono ?_
          rintro e w1 ⟨rfl, rfl⟩
          rw [Q0.out]
          go_wp2_with (fail)
          refine hT.mono ?_
          rintro e w2 ⟨rfl, rfl⟩
          go_wp2_with (fail)
          refine (in_spec _ _ _ _).mono ?_
          rintro e w3 ⟨rfl, rfl⟩
          rw [Q.out]
          go_wp2_with (fail)
          go_ret
          exact ⟨by rw [HF.out]; rfl, rfl⟩
end Go.Proofs.Ytlffkcmbeolohaa
