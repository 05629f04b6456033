/-
  PackTrack: runs; the contracts of the model and of the program; the law. Lists of at most 2^20 numbers, in slices no longer than their room.
-/
import Derived.Test.YtecimgennncjkaaDoorTrO
import Derived.Test.YtecimgennncjkaaDoorVarE
import Derived.Test.YtecimgennncjkaaDoorBld
import Derived.BigQuiet
namespace Go.Proofs.YtecimgennncjkaaDoor
open Go.RowKit
set_option linter.all false
/-- How many numbers at the beginning are x. -/
def runL (x : Int) : List Int → Nat
  | [] => 0
  | y :: ys => if y = x then runL x ys + 1 else 0
theorem runL_le (x : Int) : ∀ l : List Int, runL x l ≤ l.length
  | [] => Nat.le_refl _
  | y :: ys => by unfold runL; split <;> simp; exact runL_le x ys
theorem runL_at (x : Int) : ∀ (l : List Int) (k : Nat) (hk : k ≤ l.length), (∀ j (h : j < l.length), j < k → l[j] = x) → (∀ h : k < l.length, ¬ l[k] = x) → runL x l = k
  | [], k, hk, _, _ => by simp at hk; subst hk; rfl
  | y :: ys, 0, _, _, h2 => by
    have := h2 (by simp)
    simp at this
    unfold runL; rw [if_neg this]
  | y :: ys, k + 1, hk, h1, h2 => by
    have e := h1 0 (by simp) (by omega)
    simp at e
    unfold runL; rw [if_pos e]
    rw [runL_at x ys k (by simpa using hk) (fun j h hj => by have := h1 (j + 1) (by simpa using h) (by omega); simpa using this) (fun h => by have := h2 (by simpa using h); simpa using this)]
def packRuns : List Int → List UInt8
  | [] => []
  | x :: xs => encI (x + 16 * ((runL x xs : Int) + 1)) ++ packRuns (xs.drop (runL x xs))
termination_by l => l.length
decreasing_by simp [List.length_drop]; omega
def packTr (xs : List Int) : List UInt8 := if trkB xs then packRuns xs else []
theorem packTr_bad {xs : List Int} (h : trkB xs = false) : packTr xs = [] := by unfold packTr; rw [h]; rfl
theorem packTr_ok {xs : List Int} (h : trkB xs = true) : packTr xs = packRuns xs := by unfold packTr; rw [h]; rfl
/-- What is packed up to number k. -/
def PkAt (xs : List Int) (k : Nat) (pre : List UInt8) : Prop := pre ++ packRuns (xs.drop k) = packRuns xs ∧ pre.length ≤ 6 * k
theorem PkAt.zero (xs : List Int) : PkAt xs 0 [] := ⟨rfl, Nat.le_refl _⟩
theorem encI_six (n : Int) : (encI n).length ≤ 6 := by
  unfold encI; split
  · simp
  · exact encV_len6 (by omega)
/-- The run at k: m numbers. -/
theorem packRuns_len : ∀ (n : Nat) (xs : List Int), xs.length ≤ n → (packRuns xs).length ≤ 6 * xs.length
  | _, [], _ => by simp [packRuns]
  | 0, _ :: _, h => by simp at h
  | n + 1, x :: xs, h => by
    rw [packRuns]
    have h1 := encI_six (x + 16 * ((runL x xs : Int) + 1))
    have h2 := packRuns_len n (xs.drop (runL x xs)) (by simp [List.length_drop] at h ⊢; omega)
    rw [List.length_drop] at h2
    simp at h ⊢; omega
theorem packTr_len (xs : List Int) : (packTr xs).length ≤ 6 * xs.length := by
  unfold packTr
  split
  · exact packRuns_len _ _ (Nat.le_refl _)
  · simp
def RunAt (xs : List Int) (k m : Nat) : Prop := ∃ h : k < xs.length, 1 ≤ m ∧ k + m ≤ xs.length ∧ (∀ j (hj : j < xs.length), k ≤ j → j < k + m → xs[j] = xs[k]) ∧ ∀ h2 : k + m < xs.length, ¬ xs[k + m] = xs[k]
theorem RunAt.eq {xs : List Int} {k m : Nat} (h : RunAt xs k m) : ∃ hk : k < xs.length, runL xs[k] (xs.drop (k + 1)) + 1 = m := by
  obtain ⟨hk, h1, h2, h3, h4⟩ := h
  refine ⟨hk, ?_⟩
  have := runL_at xs[k] (xs.drop (k + 1)) (m - 1) (by rw [List.length_drop]; omega) (fun j hj hjm => by rw [List.getElem_drop]; exact h3 _ _ (by omega) (by omega)) (fun hj => by
    rw [List.getElem_drop]
    rw [List.length_drop] at hj
    have := h4 (by omega)
    simpa [show k + 1 + (m - 1) = k + m by omega] using this)
  omega
theorem PkAt.next {xs : List Int} {k m : Nat} {pre : List UInt8} (h : PkAt xs k pre) (hr : RunAt xs k m) (hk : k < xs.length) : PkAt xs (k + m) (pre ++ encI (xs[k] + 16 * (m : Int))) := by
  obtain ⟨hk', e⟩ := hr.eq
  obtain ⟨h1, h2⟩ := h
  obtain ⟨_, hm1, _⟩ := hr
  refine ⟨?_, ?_⟩
  · rw [← h1, List.drop_eq_getElem_cons hk, packRuns, List.append_assoc, List.drop_drop]
    rw [show (runL xs[k] (List.drop (k + 1) xs) : Int) + 1 = (m : Int) by omega, show k + 1 + runL xs[k] (List.drop (k + 1) xs) = k + m by omega]
  · have := encI_six (xs[k] + 16 * (m : Int))
    simp; omega
theorem PkAt.done {xs : List Int} {pre : List UInt8} (h : PkAt xs xs.length pre) : packRuns xs = pre := by
  obtain ⟨h1, -⟩ := h
  rw [← h1, List.drop_of_length_le (Nat.le_refl _), packRuns, List.append_nil]
theorem slice_from (W : World) (b off n cap k : Nat) (hk : k < n) (hc : n ≤ cap) : (Instr.slice 24 (.slice (some ⟨b, off, none⟩) n cap) (some (.int .i64 (k : Int))) none none).run Tryd.prog W = .ok (.slice (some ⟨b, off + k, none⟩) (n - k) (cap - k)) W := by
  obtain ⟨i0, hi, hz0, hz1, hz2⟩ := info_parts info_int
  have he : Tryd.prog.elem 24 = 3 := by kernel_rfl
  have hu : Tryd.prog.underlying 24 = some (.slice (Tryd.prog.elem 24)) := by rw [he]; exact Tryd.underlying24
  have hsz : (sizeOf (Tryd.prog.elem 24)).run Tryd.prog W = .ok 1 W := by
    rw [he]; simp [sizeOf, typeInfo, hi, hz1]
  have := run_slice_l (P := Tryd.prog) (w := W) 24 (some ⟨b, off, none⟩) n cap hu .i64 (k : Int) (by omega) (by omega)
  rw [this, hsz]
  simp only [Result.andThen, sliced, Int.toNat_natCast, Nat.mul_one]
  rw [if_neg (by omega)]
  simp [Addr.add]
set_option maxHeartbeats 1000000 in
theorem runLength_impl {w : World} {v : Value} {ys : List Int} (h : RdI w v ys) (h0 : 0 < ys.length) (hs : ys.length ≤ 1048576) :
    Calls Tryd.prog 80 #[v] w fun e w' => ∃ m : Nat, e = .returned (.int .i64 (m : Int)) ∧ RunAt ys 0 m ∧ w = w' := by
  obtain ⟨a, cap, rfl, h⟩ := h
  obtain ⟨b, off, rfl, hc⟩ := h.resolve_left (by intro e; rw [e] at h0; simp at h0)
  have c0 : w.cell? ⟨b, off, none⟩ = some (.int .i64 ys[0]) := hc 0 h0
  have hl0 : 0 < (ys.length : Int) := by omega
  have HC := Lib.hid hc
  obtain ⟨x0, hx0⟩ : ∃ x, x = ys[0] := ⟨_, rfl⟩
  rw [← hx0] at c0
  have HX0 := Lib.hid hx0
  clear hc h hx0
  go_enter Tryd.func80, Tryd.ntmps80
  go_wp2_with (fail)
  go_loop [7] (fun i => ∃ k : Nat, k ≤ ys.length ∧ i = .int .i64 (k : Int) ∧ ∀ j (hj : j < ys.length), j < k → ys[j] = x0) (fun i => ys.length - (intOf i).toNat)
  case atStart => exact ⟨0, Nat.zero_le _, rfl, fun _ _ h => by omega⟩
  case round =>
    obtain ⟨k, hk, rfl, hat⟩ := hrel
    have HA := Lib.hid hat
    clear hat
    by_cases hkl : k < ys.length
    · have c1 := HC.out k hkl
      obtain ⟨x, hx⟩ : ∃ x, x = ys[k] := ⟨_, rfl⟩
      rw [← hx] at c1
      have HX := Lib.hid hx
      have hkk : (k : Int) < (ys.length : Int) := by omega
      clear hx
      by_cases he : x = x0
      · have z1 : (x != x0) = false := by simp [he]
        have HE := Lib.hid he
        clear he
        go_wp2_with (fail)
        go_round
        case rel =>
          refine ⟨k + 1, by omega, by go_num, fun j hj hjk => ?_⟩
          by_cases e : j = k
          · subst e; rw [← HX.out]; exact HE.out
          · exact HA.out j hj (by omega)
        case measure => simp [intOf]; omega
      · have z1 : (x != x0) = true := by simp [he]
        have HE := Lib.hid he
        clear he
        have HR : Hid (RunAt ys 0 k) := Lib.hid (by
          have hk1 : 1 ≤ k := by
            rcases Nat.eq_zero_or_pos k with e | e
            · subst e; exact absurd (HX.out.trans HX0.out.symm) HE.out
            · exact e
          refine ⟨h0, hk1, by omega, fun j hj _ hjk => by rw [← HX0.out]; exact HA.out j hj (by omega), fun h2 => ?_⟩
          rw [← HX0.out]
          simp only [Nat.zero_add]
          rw [← HX.out]; exact HE.out)
        go_wp2_with (fail)
        go_ret
        exact ⟨k, rfl, HR.out, rfl⟩
    · have e : k = ys.length := by omega
      subst e
      have HR : Hid (RunAt ys 0 ys.length) := Lib.hid ⟨h0, by omega, by omega, fun j hj _ hjk => by rw [← HX0.out]; exact HA.out j hj (by omega), fun h2 => by omega⟩
      go_wp2_with (fail)
      go_ret
      exact ⟨ys.length, rfl, HR.out, rfl⟩
theorem RunAt.drop {xs : List Int} {k m : Nat} (h : RunAt (xs.drop k) 0 m) : RunAt xs k m := by
  obtain ⟨h0, h1, h2, h3, h4⟩ := h
  rw [List.length_drop] at h0 h2
  refine ⟨by omega, h1, by omega, fun j hj hkj hjm => ?_, fun h => ?_⟩
  · have := h3 (j - k) (by rw [List.length_drop]; omega) (by omega) (by omega)
    rw [List.getElem_drop, List.getElem_drop] at this
    simpa [show k + (j - k) = j by omega] using this
  · have := h4 (by rw [List.length_drop]; omega)
    rw [List.getElem_drop, List.getElem_drop] at this
    simpa using this
set_option maxHeartbeats 1000000 in
theorem packTrack_impl {w : World} {v : Value} {xs : List Int} (h : RdI w v xs) (hv : CapI v) (hs : xs.length ≤ 1099511627776) :
    Calls Tryd.prog 37 #[v] w fun e w' => e = .returned (.string ⟨(packTr xs).toArray⟩) ∧ Below w.heap.size w w' := by
  have hT := trackOk_impl h (by omega)
  obtain ⟨a, cap, rfl, h⟩ := h
  obtain ⟨a', n', c', e, hcap⟩ := hv
  simp only [Value.slice.injEq] at e
  obtain ⟨rfl, rfl, rfl⟩ := e
  cases hq : trkB xs with
  | false =>
    rw [hq] at hT
    have HF := Lib.hid (packTr_bad hq)
    clear hq
    go_enter Tryd.func37, Tryd.ntmps37
    go_wp2_with (fail)
    refine hT.mono ?_
    rintro e w1 ⟨rfl, hb1⟩
    go_wp2_with (fail)
    go_ret
    exact ⟨by rw [HF.out]; rfl, hb1⟩
  | true =>
    rw [hq] at hT
    have HF := Lib.hid (packTr_ok hq)
    obtain ⟨h400, hval⟩ := trkB_facts hq
    have HV := Lib.hid hval
    clear hq hval
    go_enter Tryd.func37, Tryd.ntmps37
    go_wp2_with (fail)
    refine hT.mono ?_
    rintro e w1 ⟨rfl, hb1⟩
    have hbld1 := Bld.fresh w1
    have hB1 := hb1.trans ((below1 w1 (.cells #[.pointer none, .slice none 0 0] 88)).mono hb1.size)
    have hsz1 := hb1.size
    go_wp2_with (fail)
    go_loopw [4] (fun i wr => ∃ (k : Nat) (pre : List UInt8), k ≤ xs.length ∧ i = .int .i64 (k : Int) ∧ PkAt xs k pre ∧ Bld wr w1.heap.size w1.heap.size pre ∧ Below w.heap.size w wr ∧ w1.heap.size < wr.heap.size) (fun i _ => xs.length - (intOf i).toNat)
    case atStart => exact ⟨0, [], Nat.zero_le _, rfl, PkAt.zero xs, hbld1, hB1, by simp⟩
    case round =>
      obtain ⟨k, pre, hk, rfl, hpk, hbl, hbel, hsz⟩ := hrel
      have hpl := hpk.2
      by_cases hkl : k < xs.length
      · obtain ⟨b, off, rfl, hc⟩ := h.resolve_left (by intro e; rw [e] at hkl; simp at hkl)
        have hlt := World.block_lt_of_cell? w _ (hc k hkl)
        have hc2 := fun j hj => (hbel.cell (World.block_lt_of_cell? w _ (hc j hj))).trans (hc j hj)
        have hdl : (xs.drop k).length = xs.length - k := List.length_drop
        have hrd : RdI wr (.slice (some ⟨b, off + k, none⟩) (xs.length - k) (cap - k)) (xs.drop k) := by
          refine ⟨_, cap - k, by rw [hdl], .inr ⟨b, off + k, rfl, fun j hj => ?_⟩⟩
          rw [List.getElem_drop, Nat.add_assoc]
          exact hc2 (k + j) (by omega)
        have hR := runLength_impl hrd (by omega) (by omega)
        have hsl := fun W => slice_from W b off xs.length cap k hkl hcap
        obtain ⟨x, hx⟩ : ∃ x, x = xs[k] := ⟨_, rfl⟩
        have c1 := hc2 k hkl
        rw [← hx] at c1
        have HX := Lib.hid hx
        have hkk : (k : Int) < (xs.length : Int) := by omega
        have hxv : 0 ≤ x ∧ x ≤ 15 := by rw [hx]; exact HV.out k hkl
        clear hc hc2 h hdl hrd hx
        go_wp2_with (fail)
        refine hR.mono ?_
        rintro e w2 ⟨m, rfl, hrun, rfl⟩
        have hrun := hrun.drop
        have hml : k + m ≤ xs.length := hrun.2.2.1
        have hm1 : 1 ≤ m := hrun.2.1
        have HN := Lib.hid (hpk.next hrun hkl)
        rw [← HX.out] at HN
        have hel := encI_six (x + 16 * (m : Int))
        clear hpk hrun
        go_wp2_with (first
          | (go_at_call 78; refine (encodeVarint_impl _ _).mono ?_; rintro e w3 ⟨rfl, hb3⟩; have hbl3 := hbl.keep hb3; have hs3 := hb3.size)
          | (go_at_call 69; refine (bld_write hbl3 _ (by omega) (by omega)).mono ?_; rintro e w4 ⟨rfl, hbl4, hb4, hk4⟩; have hs4 := hb4.size))
        go_roundw
        case rel => exact ⟨k + m, _, by omega, by go_num, HN.out, hbl4, (hbel.trans (hb3.mono (by omega))).trans (hb4.mono (by omega)), by omega⟩
        case measure => simp [intOf]; omega
      · have e : k = xs.length := by omega
        subst e
        have HD := Lib.hid hpk.done
        clear hpk
        go_wp2_with (go_at_call 72; refine (bld_string hbl (by omega)).mono ?_; rintro e w3 ⟨rfl, hbld3, hb3, hk3⟩)
        go_ret
        exact ⟨by rw [HF.out, HD.out]; rfl, hbel.trans (hb3.mono (by omega))⟩
set_option maxRecDepth 100000 in
set_option maxHeartbeats 2000000 in
theorem packTrack_spec {w : World} {v : Value} {xs : List Int} (h : RdI w v xs) (hs : xs.length ≤ 1099511627776) :
    Calls Tryd.prog 66 #[v] w fun e w' => e = .returned (.string ⟨(packTr xs).toArray⟩) ∧ Below w.heap.size w w' := by
  have hT := l03Inputs_any h (by omega)
  obtain ⟨a, cap, rfl, h⟩ := h
  have hlc : (xs.length : Int) ≤ 1099511627776 := by omega
  by_cases hl : xs.length ≤ 400
  · have z0 : decide ((400 : Int) < (xs.length : Int)) = false := by simp; omega
    cases hq : allW 0 15 xs with
    | false =>
      rw [hq] at hT
      have HF := Lib.hid (packTr_bad (xs := xs) (by unfold trkB; rw [hq]; simp))
      clear hq hl
      go_enter Tryd.func66, Tryd.ntmps66
      go_wp2_with (fail)
      refine hT.mono ?_
      rintro e w1 ⟨rfl, rfl⟩
      go_wp2_with (fail)
      go_ret
      exact ⟨by rw [HF.out]; rfl, Below.refl _ _⟩
    | true =>
      rw [hq] at hT
      have hq2 : trkB xs = true := by unfold trkB; rw [decide_eq_true hl, hq]; rfl
      have HF := Lib.hid (packTr_ok hq2)
      obtain ⟨h400, hval⟩ := trkB_facts hq2
      have HV := Lib.hid hval
      clear hq hq2 hval hl
      go_enter Tryd.func66, Tryd.ntmps66
      go_wp2_with (fail)
      refine hT.mono ?_
      rintro e w1 ⟨rfl, rfl⟩
      go_wp2_with (fail)
      go_loopw [3, 4] (fun s i wr => ∃ (k : Nat) (pre : List UInt8), k ≤ xs.length ∧ i = .int .i64 (k : Int) ∧ s = .string ⟨pre.toArray⟩ ∧ PkAt xs k pre ∧ Below w.heap.size w wr) (fun _ i _ => xs.length - (intOf i).toNat)
      case atStart => exact ⟨0, [], Nat.zero_le _, rfl, rfl, PkAt.zero xs, Below.refl _ _⟩
      case round =>
        obtain ⟨k, pre, hk, rfl, rfl, hpk, hbel⟩ := hrel
        have hpl := hpk.2
        by_cases hkl : k < xs.length
        · obtain ⟨b, off, rfl, hc⟩ := h.resolve_left (by intro e; rw [e] at hkl; simp at hkl)
          have hc2 := fun j hj => (hbel.cell (World.block_lt_of_cell? w _ (hc j hj))).trans (hc j hj)
          obtain ⟨x, hx⟩ : ∃ x, x = xs[k] := ⟨_, rfl⟩
          have c1 := hc2 k hkl
          rw [← hx] at c1
          have HX := Lib.hid hx
          have HC := Lib.hid hc2
          have hkk : (k : Int) < (xs.length : Int) := by omega
          have hxv : 0 ≤ x ∧ x ≤ 15 := by rw [hx]; exact HV.out k hkl
          have HP := Lib.hid hpk
          clear hc hc2 h hx hpk
          go_wp2_with (fail)
          go_loopw [5] (fun j wj => ∃ m : Nat, 1 ≤ m ∧ k + m ≤ xs.length ∧ j = .int .i64 (m : Int) ∧ (∀ j (hj : j < xs.length), k ≤ j → j < k + m → xs[j] = x) ∧ ∃ q, wj = wr.drewN q) (fun j _ => xs.length - (intOf j).toNat)
          case atStart => exact ⟨1, Nat.le_refl _, by omega, rfl, fun j hj h1 h2 => by (have e : j = k := (by omega)); subst e; exact HX.out.symm, 0, rfl⟩
          case round =>
            obtain ⟨m, hm1, hkm, rfl, hat, q, rfl⟩ := hrel
            have HA := Lib.hid hat
            clear hat
            by_cases hin : k + m < xs.length
            · have c2 := HC.out (k + m) hin
              obtain ⟨y, hy⟩ : ∃ y, y = xs[k + m] := ⟨_, rfl⟩
              rw [← hy] at c2
              have HY := Lib.hid hy
              have hin' : (k : Int) + (m : Int) < (xs.length : Int) := by omega
              have z2 : decide ((k : Int) + (m : Int) < (xs.length : Int)) = true := by simpa using hin'
              clear hy
              by_cases he : y = x
              · have z3 : (y == x) = true := by simp [he]
                have HE := Lib.hid he
                clear he
                go_wp2
                go_quiet (fail)
                go_wp2
                go_roundw
                case rel =>
                  refine ⟨m + 1, by omega, by omega, by go_num, fun j hj h1 h2 => ?_, _, rfl⟩
                  by_cases e : j = k + m
                  · subst e; rw [← HY.out]; exact HE.out
                  · exact HA.out j hj h1 (by omega)
                case measure => simp [intOf]; omega
              · have z3 : (y == x) = false := by simp [he]
                have HNE : Hid (∀ h2 : k + m < xs.length, ¬ xs[k + m] = x) := Lib.hid (fun h2 => by rw [← HY.out]; exact he)
                have HA' := HA
                clear he
                go_wp2
                go_quiet (fail)
                go_wp2_with (fail)
                clear HA
                have hrun : RunAt xs k m := ⟨hkl, hm1, hkm, fun j hj h1 h2 => by rw [← HX.out]; exact HA'.out j hj h1 h2, fun h2 => by rw [← HX.out]; exact HNE.out h2⟩
                have HN := Lib.hid (HP.out.next hrun hkl)
                rw [← HX.out] at HN
                have hel := encI_six (x + 16 * (m : Int))
                clear hrun HA' HNE
                go_wp2_with (go_at_call 100; refine (encodeVarint_spec _ _).mono ?_; rintro e w3 ⟨rfl, hb3⟩)
                go_roundw
                case rel => exact ⟨k + m, pre ++ encI (x + 16 * (m : Int)), by omega, by go_num, by rw [ByteArray.mk_append_mk], HN.out, (below_drewN hbel _).trans (hb3.mono (by simpa using hbel.size))⟩
                case measure => simp [intOf]; omega
            · have hin' : ¬ ((k : Int) + (m : Int) < (xs.length : Int)) := by omega
              have z2 : decide ((k : Int) + (m : Int) < (xs.length : Int)) = false := by simpa using hin'
              have HNE : Hid (∀ h2 : k + m < xs.length, ¬ xs[k + m] = x) := Lib.hid (fun h2 => absurd h2 hin)
              have HA' := HA
              go_wp2
              go_quiet (fail)
              go_wp2_with (fail)
              clear HA
              have hrun : RunAt xs k m := ⟨hkl, hm1, hkm, fun j hj h1 h2 => by rw [← HX.out]; exact HA'.out j hj h1 h2, fun h2 => by rw [← HX.out]; exact HNE.out h2⟩
              have HN := Lib.hid (HP.out.next hrun hkl)
              rw [← HX.out] at HN
              have hel := encI_six (x + 16 * (m : Int))
              clear hrun HA' HNE
              go_wp2_with (go_at_call 100; refine (encodeVarint_spec _ _).mono ?_; rintro e w3 ⟨rfl, hb3⟩)
              go_roundw
              case rel => exact ⟨k + m, pre ++ encI (x + 16 * (m : Int)), by omega, by go_num, by rw [ByteArray.mk_append_mk], HN.out, (below_drewN hbel _).trans (hb3.mono (by simpa using hbel.size))⟩
              case measure => simp [intOf]; omega
        · have e : k = xs.length := by omega
          subst e
          have HD := Lib.hid hpk.done
          clear hpk
          go_wp2_with (fail)
          go_ret
          exact ⟨by rw [HF.out, HD.out]; rfl, hbel⟩
  · have z0 : decide ((400 : Int) < (xs.length : Int)) = true := by simp; omega
    have HF := Lib.hid (packTr_bad (xs := xs) (by unfold trkB; rw [decide_eq_false hl]; rfl))
    go_enter Tryd.func66, Tryd.ntmps66
    go_wp2_with (fail)
    go_ret
    exact ⟨by rw [HF.out]; rfl, Below.refl _ _⟩
end Go.Proofs.YtecimgennncjkaaDoor
