/-
  ReplayOk: the contracts of the model and of the program. No condition but that the lists can be.
-/
import Derived.Test.YtecimgennncjkaaDoorRpG
import Derived.Test.YtecimgennncjkaaDoorColI
import Derived.Test.YtecimgennncjkaaDoorLvTi
import Derived.Test.YtecimgennncjkaaDoorLvOk
import Derived.BigQuiet
import Derived.Deep.RegionHeld3
namespace Go.Proofs.YtecimgennncjkaaDoor
open Go.RowKit
set_option linter.all false
theorem div_facts {a b : Int} (ha : 0 ≤ a) (hl : a ≤ 9223372036854775807) (hb : 1 ≤ b) : a.tdiv b = a / b ∧ 0 ≤ a / b ∧ a / b ≤ 9223372036854775807 ∧ wrap64 (a / b) = a / b := by
  have h0 : 0 ≤ a / b := Int.ediv_nonneg ha (by omega)
  have h1 : a / b ≤ a := Int.ediv_le_self _ ha
  exact ⟨Int.tdiv_eq_ediv_of_nonneg ha, h0, by omega, IntWalk.wrap64_in _ ⟨by omega, by omega⟩⟩
set_option maxRecDepth 100000 in
set_option maxHeartbeats 4000000 in
theorem replayOk_impl {w : World} {x : Rp} {vl vs vb : Value} (h : RdRp w x vl vs vb) (hs : x.sane) :
    Calls Tryd.prog 18 #[.agg (rpC x vl vs vb)] w fun e w' => e = .returned (.bool (replayB x)) ∧ Below w.heap.size w w' := by
  obtain ⟨hs1, hs2, hs3⟩ := hs
  have h0 := h
  obtain ⟨al, cl, rfl, -⟩ := id h.1
  obtain ⟨aq, cq, rfl, -⟩ := id h.2.1
  obtain ⟨ab, cb, rfl, -⟩ := id h.2.2
  unfold rpC
  obtain ⟨W0, hW, hA, hB0, hS0⟩ := rows1 w #[.slice al x.lv.length cl, .int .i64 x.players, .int .i64 x.seed, .int .i64 x.every, .slice aq x.rows.length cq, .slice ab x.keys.length cb] 44
  have cA := rowCells hA
  have hlq : (x.rows.length : Int) ≤ 9223372036854775807 := by have := hs2.1; omega
  have hlb : (x.keys.length : Int) ≤ 9223372036854775807 := by have := hs3.1; omega
  go_enter Tryd.func18, Tryd.ntmps18
  go_wp2_with (fail)
  try rw [hW]
  clear hW
  refine (levelOk_impl (h0.keep hB0).1 hs1).mono ?_
  rintro e w1 ⟨rfl, hb1⟩
  have hA1 := keepHeap hb1 hA
  have hb01 := hB0.trans (hb1.mono hB0.size)
  have h1 := h0.keep hb01
  have cA1 := rowCells hA1
  clear cA hA
  cases ql : levelB x.lv with
  | false =>
    have HF := Lib.hid (rp_l ql)
    clear ql
    go_wp2_with (fail)
    go_ret
    exact ⟨by rw [HF.out]; rfl, hb01⟩
  | true =>
  have QL := Lib.hid ql
  clear ql
  go_wp2_with (fail)
  refine (within_impl _ _ _ _).mono ?_
  rintro e w2 ⟨rfl, rfl⟩
  cases q2 : inR x.players 1 4 with
  | false =>
    have HF := Lib.hid (rp_p q2)
    clear q2
    go_wp2_with (fail)
    go_ret
    exact ⟨by rw [HF.out]; rfl, hb01⟩
  | true =>
  have hn2 := (inR_iff _ _ _).1 q2
  have Q2 := Lib.hid q2
  clear q2
  go_wp2_with (fail)
  refine (within_impl _ _ _ _).mono ?_
  rintro e w2 ⟨rfl, rfl⟩
  cases q3 : inR x.seed 0 65535 with
  | false =>
    have HF := Lib.hid (rp_s q3)
    clear q3
    go_wp2_with (fail)
    go_ret
    exact ⟨by rw [HF.out]; rfl, hb01⟩
  | true =>
  have hn3 := (inR_iff _ _ _).1 q3
  have Q3 := Lib.hid q3
  clear q3
  go_wp2_with (fail)
  refine (within_impl _ _ _ _).mono ?_
  rintro e w2 ⟨rfl, rfl⟩
  cases q4 : inR x.every 1 100 with
  | false =>
    have HF := Lib.hid (rp_e q4)
    clear q4
    go_wp2_with (fail)
    go_ret
    exact ⟨by rw [HF.out]; rfl, hb01⟩
  | true =>
  have hn4 := (inR_iff _ _ _).1 q4
  have Q4 := Lib.hid q4
  clear q4
  by_cases hl : x.rows.length ≤ 400
  · have z5 : decide ((x.rows.length : Int) ≤ 400) = true := by simp; omega
    have hRO : ∀ n, Calls Tryd.prog 51 #[.slice aq x.rows.length cq, .int .i64 x.players] (w1.drewN n) fun e w' => e = .returned (.bool (rowsB x.players x.rows)) ∧ w' = w1.drewN n := fun n => (rowsOk_impl (h1.2.1.keep (belowDrew w1 n)) hs2 _).mono fun _ _ h => ⟨h.1, h.2.symm⟩
    cases q6 : rowsB x.players x.rows with
    | false =>
      have HF := Lib.hid (rp_r q6)
      rw [q6] at hRO
      clear q6
      go_wp2_with (fail)
      go_quiet (first | (go_at_call 51; exact Calls.quiet_of_same (hRO _)))
      go_wp2_with (fail)
      go_ret
      exact ⟨by rw [HF.out]; rfl, hb01.trans (Below.mono ⟨rfl, rfl, rfl, Nat.le_refl _, fun _ _ => rfl⟩ hb01.size)⟩
    | true =>
      obtain ⟨hd0, hd1, hd2, hd3⟩ := div_facts (a := (x.rows.length : Int)) (b := x.every) (by omega) (by omega) (by omega)
      have hne : ¬ x.every = 0 := by omega
      have hHK : replayB x = decide ((x.keys.length : Int) = (x.rows.length : Int) / x.every) := rp_k QL.out Q2.out Q3.out Q4.out hl q6
      rw [q6] at hRO
      have HF := Lib.hid hHK
      clear q6 hHK
      go_wp2_with (fail)
      go_quiet (first | (go_at_call 51; exact Calls.quiet_of_same (hRO _)))
      go_wp2_with (fail)
      go_ret
      exact ⟨by rw [HF.out]; first | rfl | simp [hd3], hb01.trans (Below.mono ⟨rfl, rfl, rfl, Nat.le_refl _, fun _ _ => rfl⟩ hb01.size)⟩
  · have z5 : decide ((x.rows.length : Int) ≤ 400) = false := by simp; omega
    have HF := Lib.hid (rp_n hl)
    clear hl
    go_wp2_with (fail)
    go_quiet (fail)
    go_wp2_with (fail)
    go_ret
    exact ⟨by rw [HF.out]; rfl, hb01.trans (Below.mono ⟨rfl, rfl, rfl, Nat.le_refl _, fun _ _ => rfl⟩ hb01.size)⟩
set_option maxRecDepth 100000 in
set_option maxHeartbeats 4000000 in
theorem replayOk_spec {w : World} {x : Rp} {vl vs vb : Value} (h : RdRp w x vl vs vb) (hs : x.sane) :
    Calls Tryd.prog 16 #[.agg (rpC x vl vs vb)] w fun e w' => e = .returned (.bool (replayB x)) ∧ Below w.heap.size w w' := by
  obtain ⟨hs1, hs2, hs3⟩ := hs
  have h0 := h
  obtain ⟨al, cl, rfl, -⟩ := id h.1
  obtain ⟨aq, cq, rfl, hq9⟩ := id h.2.1
  obtain ⟨ab, cb, rfl, -⟩ := id h.2.2
  unfold rpC
  obtain ⟨W0, hW, hA, hB0, hS0⟩ := rows1 w #[.slice al x.lv.length cl, .int .i64 x.players, .int .i64 x.seed, .int .i64 x.every, .slice aq x.rows.length cq, .slice ab x.keys.length cb] 44
  have cA := rowCells hA
  have hlq : (x.rows.length : Int) ≤ 9223372036854775807 := by have := hs2.1; omega
  have hlb : (x.keys.length : Int) ≤ 9223372036854775807 := by have := hs3.1; omega
  go_enter Tryd.func16, Tryd.ntmps16
  go_wp2_with (fail)
  try rw [hW]
  clear hW
  refine (levelOk_spec (h0.keep hB0).1 hs1).mono ?_
  rintro e w1 ⟨rfl, hb1⟩
  have hA1 := keepHeap hb1 hA
  have hb01 := hB0.trans (hb1.mono hB0.size)
  have h1 := h0.keep hb01
  have cA1 := rowCells hA1
  clear cA hA
  cases ql : levelB x.lv with
  | false =>
    have HF := Lib.hid (rp_l ql)
    clear ql
    go_wp2_with (fail)
    go_ret
    exact ⟨by rw [HF.out]; rfl, hb01⟩
  | true =>
  have QL := Lib.hid ql
  clear ql
  go_wp2_with (fail)
  refine (in_spec _ _ _ _).mono ?_
  rintro e w2 ⟨rfl, rfl⟩
  cases q2 : inR x.players 1 4 with
  | false =>
    have HF := Lib.hid (rp_p q2)
    clear q2
    go_wp2_with (fail)
    go_ret
    exact ⟨by rw [HF.out]; rfl, hb01⟩
  | true =>
  have hn2 := (inR_iff _ _ _).1 q2
  have Q2 := Lib.hid q2
  clear q2
  go_wp2_with (fail)
  refine (in_spec _ _ _ _).mono ?_
  rintro e w2 ⟨rfl, rfl⟩
  cases q3 : inR x.seed 0 65535 with
  | false =>
    have HF := Lib.hid (rp_s q3)
    clear q3
    go_wp2_with (fail)
    go_ret
    exact ⟨by rw [HF.out]; rfl, hb01⟩
  | true =>
  have hn3 := (inR_iff _ _ _).1 q3
  have Q3 := Lib.hid q3
  clear q3
  go_wp2_with (fail)
  refine (in_spec _ _ _ _).mono ?_
  rintro e w2 ⟨rfl, rfl⟩
  cases q4 : inR x.every 1 100 with
  | false =>
    have HF := Lib.hid (rp_e q4)
    clear q4
    go_wp2_with (fail)
    go_ret
    exact ⟨by rw [HF.out]; rfl, hb01⟩
  | true =>
  have hn4 := (inR_iff _ _ _).1 q4
  have Q4 := Lib.hid q4
  clear q4
  by_cases hl : x.rows.length ≤ 400
  · have z5 : decide ((400 : Int) < (x.rows.length : Int)) = false := by simp; omega
    obtain ⟨hd0, hd1, hd2, hd3⟩ := div_facts (a := (x.rows.length : Int)) (b := x.every) (by omega) (by omega) (by omega)
    have hne : ¬ x.every = 0 := by omega
    have HBAD := Lib.hid (fun k (hk : k < x.rows.length) hb => rp_r (x := x) (rowsB_bad hk hb))
    have HOK : Hid ((∀ k (hk : k < x.rows.length), rokB x.players x.rows[k] = true) → replayB x = decide ((x.keys.length : Int) = (x.rows.length : Int) / x.every)) := Lib.hid (fun h => rp_k QL.out Q2.out Q3.out Q4.out hl (rowsB_ok h))
    clear Q2 Q3 Q4 QL
    go_wp2_with (fail)
    go_loopw [3] (fun i wr => ∃ k : Nat, k ≤ x.rows.length ∧ i = .int .i64 (k : Int) ∧ (∃ q, wr = w1.drewN q) ∧ Hid (∀ j (hj : j < x.rows.length), j < k → rokB x.players x.rows[j] = true)) (fun i _ => x.rows.length - (intOf i).toNat)
    case atStart => exact ⟨0, Nat.zero_le _, rfl, ⟨0, rfl⟩, Lib.hid (fun j hj hl => by omega)⟩
    case round =>
      obtain ⟨k, hk, rfl, ⟨q, rfl⟩, HA⟩ := hrel
      by_cases hkl : k < x.rows.length
      · obtain ⟨b, off, rfl, hc⟩ := hq9.resolve_left (by intro e; rw [e] at hkl; simp at hkl)
        obtain ⟨u, c0, r0⟩ := hc k hkl
        have c1 := (hb01.cell (World.block_lt_of_cell? w _ c0)).trans c0
        have R := r0.keep hb01
        have hx3 := hs2.2 x.rows[k] (List.getElem_mem _)
        have HB1 := Lib.hid (HBAD.out k hkl)
        have hl1 : (k : Int) < (x.rows.length : Int) := by omega
        have d4 : ∀ n, (w1.drewN n).cell? ⟨w.heap.size, 4, none⟩ = some (.slice (some ⟨b, off, none⟩) x.rows.length cq) := fun _ => cA1 4
        have d1 : ∀ n, (w1.drewN n).cell? ⟨w.heap.size, 1, none⟩ = some (.int .i64 x.players) := fun _ => cA1 1
        obtain ⟨y, hy⟩ : ∃ y, y = x.rows[k] := ⟨_, rfl⟩
        rw [← hy] at R hx3 HB1
        have HY := Lib.hid hy
        obtain ⟨ax, cx, rfl, -⟩ := id R
        have hR : ∀ m, Calls Tryd.prog 47 #[.slice ax y.length cx, .int .i64 x.players] (w1.drewN m) fun e w' => e = .returned (.bool (rokB x.players y)) ∧ w' = w1.drewN m := fun m => (l02RowOk_any (R.keep (belowDrew w1 m)) hx3 x.players).mono fun _ _ h => ⟨h.1, h.2.symm⟩
        clear hc c0 r0 hy
        cases hq : rokB x.players y with
        | true =>
          rw [hq] at hR
          have HQ : Hid (rokB x.players x.rows[k] = true) := Lib.hid (by rw [← HY.out]; exact hq)
          clear hq HB1
          go_wp2_with (fail)
          go_region_held3 (fun w' => (∀ j, w'.cell? ⟨w.heap.size, j, none⟩ = #[Value.slice al x.lv.length cl, .int .i64 x.players, .int .i64 x.seed, .int .i64 x.every, .slice (some ⟨b, off, none⟩) x.rows.length cq, .slice ab x.keys.length cb][j]?) ∧ w'.cell? ⟨b, off + k, none⟩ = some (.slice ax y.length cx)) (first | go_keep | exact ⟨cA1, c1⟩)
            (first | (go_at_call 47; refine (hR _).mono ?_; rintro e w3 ⟨rfl, rfl⟩))
          go_wp2_with (fail)
          go_roundw
          case rel =>
            refine ⟨k + 1, by omega, by go_num, ⟨_, rfl⟩, Lib.hid (fun j hj hjk => ?_)⟩
            by_cases e : j = k
            · subst e; exact HQ.out
            · exact HA.out j hj (by omega)
          case measure => simp [intOf]; omega
        | false =>
          rw [hq] at hR
          have HF := Lib.hid (HB1.out hq)
          clear hq HB1
          go_wp2_with (fail)
          go_region_held3 (fun w' => (∀ j, w'.cell? ⟨w.heap.size, j, none⟩ = #[Value.slice al x.lv.length cl, .int .i64 x.players, .int .i64 x.seed, .int .i64 x.every, .slice (some ⟨b, off, none⟩) x.rows.length cq, .slice ab x.keys.length cb][j]?) ∧ w'.cell? ⟨b, off + k, none⟩ = some (.slice ax y.length cx)) (first | go_keep | exact ⟨cA1, c1⟩)
            (first | (go_at_call 47; refine (hR _).mono ?_; rintro e w3 ⟨rfl, rfl⟩))
          go_wp2_with (fail)
          go_ret
          exact ⟨by rw [HF.out]; rfl, hb01.trans (Below.mono ⟨rfl, rfl, rfl, Nat.le_refl _, fun _ _ => rfl⟩ hb01.size)⟩
      · have HF := Lib.hid (HOK.out (fun j hj => HA.out j hj (by omega)))
        go_wp2_with (fail)
        go_quiet (fail)
        go_wp2_with (fail)
        go_ret
        exact ⟨by rw [HF.out]; first | rfl | simp [hd3], hb01.trans (Below.mono ⟨rfl, rfl, rfl, Nat.le_refl _, fun _ _ => rfl⟩ hb01.size)⟩
  · have z5 : decide ((400 : Int) < (x.rows.length : Int)) = true := by simp; omega
    have HF := Lib.hid (rp_n hl)
    clear hl
    go_wp2_with (fail)
    go_ret
    exact ⟨by rw [HF.out]; rfl, hb01⟩
end Go.Proofs.YtecimgennncjkaaDoor
