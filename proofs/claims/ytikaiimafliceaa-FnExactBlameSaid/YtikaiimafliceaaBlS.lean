/-
  Blame of the model; the law. Lists of at most 2^20.
-/
import Derived.Test.YtikaiimafliceaaBlI
import Derived.Test.YtikaiimafliceaaRowL
namespace Go.Proofs.Ytikaiimafliceaa
open Go.RowKit Go.Joins Go.ChangeShapes Go.WideShapes Go.Deep
set_option linter.all false
/-- How far the model's inner look has come. -/
def upToB (l : List Int) (u : Int) (m i : Nat) : Bool := !(l.getD m 0 == u) && (List.range i).all (fun j => j == m || l.getD j 0 == u)
theorem upToB_all (l : List Int) (u : Int) (m : Nat) : upToB l u m l.length = aloneB l u m := rfl
theorem upToB_zero (l : List Int) (u : Int) (m : Nat) : upToB l u m 0 = (l.getD m 0 != u) := by unfold upToB; simp [bne]
theorem upToB_keep {l : List Int} {u : Int} {m i : Nat} (h : i = m ∨ l.getD i 0 = u) : upToB l u m (i + 1) = upToB l u m i := by
  unfold upToB
  rw [List.range_succ, List.all_append]
  have : ([i].all fun j => j == m || l.getD j 0 == u) = true := by
    rcases h with h | h
    · simp [h]
    · simp only [List.all_cons, List.all_nil, Bool.and_true, Bool.or_eq_true, beq_iff_eq]; exact .inr h
  rw [this, Bool.and_true]
theorem upToB_not {l : List Int} {u : Int} {m i : Nat} (h1 : i ≠ m) (h2 : l.getD i 0 ≠ u) : upToB l u m (i + 1) = false := by
  unfold upToB
  rw [List.range_succ, List.all_append]
  have : ([i].all fun j => j == m || l.getD j 0 == u) = false := by
    simp only [List.all_cons, List.all_nil, Bool.and_true, Bool.or_eq_false_iff, beq_eq_false_iff_ne]; exact ⟨h1, h2⟩
  rw [this]; simp
/-- The rows as the model reads them: each one's slice, and its number at t. -/
def AtT (w : World) (b off n t : Nat) (l : List Int) : Prop := ∀ j, j < n → ∃ (bu ou cu m : Nat), w.cell? ⟨b, off + j, none⟩ = some (.slice (some ⟨bu, ou, none⟩) m cu) ∧ t < m ∧ m ≤ 1048576 ∧ w.cell? ⟨bu, ou + t, none⟩ = some (.int .i64 (l.getD j 0))
theorem next_facts {k n : Nat} (hk : k < n) (hn : n ≤ 1048576) : ∃ m : Nat, m = (k + 1) % n ∧ m < n ∧ ((k : Int) + 1) % (n : Int) = (m : Int) ∧ ((k : Int) + 1).tmod (n : Int) = (m : Int) := by
  have e : ((k : Int) + 1) % (n : Int) = (((k + 1) % n : Nat) : Int) := by norm_cast
  exact ⟨(k + 1) % n, rfl, Nat.mod_lt _ (by omega), e, by rw [Int.tmod_eq_emod_of_nonneg (by omega)]; exact e⟩
set_option maxHeartbeats 4000000 in
theorem blame_spec {w : World} {v : Value} {X : Rowi} (h : RdR w v X) (hn : X.length ≤ 1048576) (hi : ∀ x ∈ X, x.length ≤ 1048576) (t : Int) :
    Calls Try.prog 31 #[v, .int .i64 t] w fun e w' => e = .returned (.int .i64 (blameI X t)) ∧ Below w.heap.size w w' := by
  obtain ⟨a, cap, rfl, h⟩ := h
  have hlc : (X.length : Int) ≤ 1048576 := by omega
  by_cases h3 : 3 ≤ X.length
  case neg =>
    have z1 : decide ((X.length : Int) < 3) = true := by simp; omega
    have HF : Hid (blameI X t = -1) := Lib.hid (blameI_few h3)
    go_enter Try.func31, Try.ntmps31
    go_wp2_with (fail)
    go_ret
    exact ⟨by rw [HF.out]; rfl, Below.refl _ _⟩
  have z1 : decide ((X.length : Int) < 3) = false := by simp; omega
  obtain ⟨b, off, rfl, hc⟩ := h.resolve_left (by intro e; rw [e] at h3; simp at h3)
  by_cases ht : t < 0
  · have z2 : decide (t < 0) = true := by simpa using ht
    have HF : Hid (blameI X t = -1) := Lib.hid (blameI_bad (haveB_bad (k := 0) (by omega) (by omega)))
    clear hc h hi
    go_enter Try.func31, Try.ntmps31
    go_wp2_with (fail)
    go_ret
    exact ⟨by rw [HF.out]; rfl, Below.refl _ _⟩
  have z2 : decide (t < 0) = false := by simpa using ht
  obtain ⟨tn, rfl⟩ : ∃ tn : Nat, t = tn := ⟨t.toNat, by omega⟩
  have HC := Lib.hid hc
  have HI := Lib.hid hi
  have H3 := Lib.hid h3
  clear h hc hi h3 ht
  go_enter Try.func31, Try.ntmps31
  go_wp2_with (fail)
  clear z1 z2
  go_loopw [5] (fun i wr => ∃ k : Nat, k ≤ X.length ∧ i = .int .i64 (k : Int) ∧ wr = w ∧ Hid (∀ j (hj : j < X.length), j < k → tn < X[j].length)) (fun i _ => X.length - (intOf i).toNat)
  case atStart => exact ⟨0, Nat.zero_le _, rfl, by simp, Lib.hid (fun j hj hl => by omega)⟩
  case round =>
    obtain ⟨k, hk, rfl, rfl, HA⟩ := hrel
    by_cases hkl : k < X.length
    · have hkk : (k : Int) < (X.length : Int) := by omega
      obtain ⟨u, c1, r1⟩ := HC.out k hkl
      have hxl := HI.out X[k] (List.getElem_mem _)
      have HB : Hid (¬ tn < X[k].length → haveB X tn = false) := Lib.hid (fun hh => haveB_bad hkl (by omega))
      have HG : Hid (tn < X[k].length → ∀ j (hj : j < X.length), j < k + 1 → tn < X[j].length) := Lib.hid (fun hk' j hj hl => by
        by_cases e : j = k
        · subst e; exact hk'
        · exact HA.out j hj (by omega))
      generalize X[k] = x at *
      obtain ⟨au, cu, rfl, -⟩ := id r1
      clear r1
      by_cases hx : tn < x.length
      · have z3 : decide ((x.length : Int) ≤ (tn : Int)) = false := by simp; omega
        have HG2 := Lib.hid (HG.out hx)
        go_wp2_with (fail)
        go_roundw
        case rel => exact ⟨k + 1, by omega, by go_num, by first | rfl | trivial, HG2⟩
        case measure => simp [intOf]; omega
      · have z3 : decide ((x.length : Int) ≤ (tn : Int)) = true := by simp; omega
        have HF : Hid (blameI X tn = -1) := Lib.hid (blameI_bad (HB.out hx))
        go_wp2_with (fail)
        go_ret
        exact ⟨by rw [HF.out]; rfl, Below.refl _ _⟩
    · have HV : Hid (haveB X tn = true) := Lib.hid (haveB_ok (fun j hj => by have := HA.out j hj (by omega); omega))
      obtain ⟨l, hl⟩ : ∃ l, l = pickI X tn := ⟨_, rfl⟩
      have hll : l.length = X.length := by rw [hl, pickI_len]
      have HAT : Hid (AtT wr b off X.length tn l) := Lib.hid (fun j hj => by
        obtain ⟨u, c1, au, cu, rfl, hcc⟩ := HC.out j hj
        have hlt := HA.out j hj (by omega)
        obtain ⟨bu, ou, rfl, hcu⟩ := hcc.resolve_left (by intro e; rw [e] at hlt; simp at hlt)
        refine ⟨bu, ou, cu, X[j].length, c1, hlt, HI.out _ (List.getElem_mem _), ?_⟩
        rw [hcu tn hlt, hl, pickI_at hj]
        simp [hlt])
      have HF : Hid (blameI X tn = oddI l) := Lib.hid (by rw [hl]; exact blameI_ok H3.out HV.out)
      have hl3 : 3 ≤ l.length := by rw [hll]; exact H3.out
      have H3L := Lib.hid hl3
      have HLL := Lib.hid hll
      clear hl hll hl3 HV HA HC HI hk
      have h3n : 3 ≤ X.length := H3.out
      have hz : ((X.length : Int) == 0) = false := beq_eq_false_iff_ne.2 (by omega)
      have hn4 : IntKind.i64.wrap (X.length : Int) = (X.length : Int) := IntWalk.i64_in _ (by omega)
      go_wp2_with (fail)
      go_loopw [6] (fun i wq => ∃ k m : Nat, k ≤ X.length ∧ i = .int .i64 (k : Int) ∧ wq = wr.drewN m ∧ Hid (∀ j, j < k → aloneB l (usualI l) j = false)) (fun i _ => X.length - (intOf i).toNat)
      case atStart => exact ⟨0, 0, Nat.zero_le _, rfl, rfl, Lib.hid (fun j hl => by omega)⟩
      case round =>
        obtain ⟨k, m, hk, rfl, rfl, HO⟩ := hrel
        by_cases hkn : k < X.length
        · have hkk : (k : Int) < (X.length : Int) := by omega
          obtain ⟨q, hq, hqn, eq1, eq2⟩ := next_facts hkn hn
          have hqq : (q : Int) < (X.length : Int) := by omega
          have HNX : Hid (nextC l k = l.getD q 0) := Lib.hid (by unfold nextC; rw [HLL.out, hq])
          have hq4 : IntKind.i64.wrap (q : Int) = (q : Int) := IntWalk.i64_in _ (by omega)
          have hp0 : 0 ≤ (k : Int) + 1 := by omega
          obtain ⟨b1, o1, cp1, m1, c1, t1, s1, d1⟩ := HAT.out q hqn
          obtain ⟨b2, o2, cp2, m2, c2, t2, s2, d2⟩ := HAT.out k hkn
          have t1' : (tn : Int) < (m1 : Int) := by omega
          have t2' : (tn : Int) < (m2 : Int) := by omega
          have HZ : Hid (upToB l (l.getD q 0) k 0 = (l.getD k 0 != l.getD q 0)) := Lib.hid (upToB_zero _ _ _)
          clear hq
          obtain ⟨c, hcq⟩ : ∃ c, c = l.getD q 0 := ⟨_, rfl⟩
          obtain ⟨y, hy⟩ : ∃ y, y = l.getD k 0 := ⟨_, rfl⟩
          rw [← hcq] at d1 HZ HNX
          rw [← hy] at d2 HZ
          clear hcq hy
          obtain ⟨g, hg⟩ : ∃ g, (y != c) = g := ⟨_, rfl⟩
          rw [hg] at HZ
          go_wp2_with (fail)
          clear c1 d1 c2 d2 hg eq1 eq2
          go_loopw [9, 8] (fun i x wq => ∃ (j m' : Nat) , j ≤ X.length ∧ i = .int .i64 (j : Int) ∧ x = .bool (upToB l c k j) ∧ wq = wr.drewN m') (fun i _ _ => X.length - (intOf i).toNat)
          case atStart => exact ⟨0, _, Nat.zero_le _, rfl, by rw [HZ.out], rfl⟩
          case round =>
            obtain ⟨j, m', hj, rfl, rfl, rfl⟩ := hrel
            by_cases hjn : j < X.length
            · have hjj : (j : Int) < (X.length : Int) := by omega
              by_cases hjk : j = k
              · have z4 : ((j : Int) != (k : Int)) = false := by simp [hjk]
                have HK : Hid (upToB l c k (j + 1) = upToB l c k j) := Lib.hid (upToB_keep (.inl hjk))
                generalize upToB l c k j = g0 at *
                clear hjk
                go_wp2_with (fail)
                go_roundw
                case rel => exact ⟨j + 1, _, by omega, by go_num, by rw [HK.out], rfl⟩
                case measure => simp [intOf]; omega
              · have z4 : ((j : Int) != (k : Int)) = true := by simp; omega
                obtain ⟨b3, o3, cp3, m3, c3, t3, s3, d3⟩ := HAT.out j hjn
                have t3' : (tn : Int) < (m3 : Int) := by omega
                by_cases hjc : l.getD j 0 = c
                · have HK : Hid (upToB l c k (j + 1) = upToB l c k j) := Lib.hid (upToB_keep (.inr hjc))
                  rw [hjc] at d3
                  generalize upToB l c k j = g0 at *
                  clear hjk hjc
                  go_wp2_with (fail)
                  go_roundw
                  case rel => exact ⟨j + 1, _, by omega, by go_num, by rw [HK.out], rfl⟩
                  case measure => simp [intOf]; omega
                · have HK : Hid (upToB l c k (j + 1) = false) := Lib.hid (upToB_not hjk hjc)
                  have z5 : (l.getD j 0 != c) = true := by simpa using hjc
                  generalize l.getD j 0 = y3 at *
                  generalize upToB l c k j = g0 at *
                  clear hjk hjc
                  go_wp2_with (fail)
                  go_roundw
                  case rel => exact ⟨j + 1, _, by omega, by go_num, by rw [HK.out], rfl⟩
                  case measure => simp [intOf]; omega
            · have ej : j = X.length := by omega
              have HE : Hid (upToB l c k j = aloneB l (usualI l) k) := Lib.hid (by rw [ej, ← HLL.out, upToB_all, ← HNX.out]; exact alone_next H3L.out (by rw [HLL.out]; exact hkn))
              rw [HE.out]
              clear ej
              cases hal : aloneB l (usualI l) k with
              | true =>
                have HR : Hid (oddI l = (k : Int)) := Lib.hid (oddI_yes (by rw [HLL.out]; exact hkn) hal)
                clear hal HE
                go_wp2_with (fail)
                go_ret
                exact ⟨by rw [HF.out, HR.out]; rfl, belowDrew _ _⟩
              | false =>
                have HO2 : Hid (∀ j, j < k + 1 → aloneB l (usualI l) j = false) := Lib.hid (fun j hl => by
                  by_cases e : j = k
                  · rw [e]; exact hal
                  · exact HO.out j (by omega))
                clear hal HE
                go_wp2_with (fail)
                go_roundw
                case rel => exact ⟨k + 1, _, by omega, by go_num, rfl, HO2⟩
                case measure => simp [intOf]; omega
        · have HR : Hid (oddI l = -1) := Lib.hid (oddI_no (fun j hj => HO.out j (by have := HLL.out; omega)))
          go_wp2_with (fail)
          go_ret
          exact ⟨by rw [HF.out, HR.out]; rfl, belowDrew _ _⟩
set_option maxHeartbeats 1000000 in
theorem lawBlame {w : World} (v : Value) (X : Rowi) (h : RdR w v X) (hs : SaneR X) (t : Int) (wt : (Lit.int .i64 t).wf = true) :
    Calls Try.prog 10 #[v, .int .i64 t] w fun e w' => e = .returned (.bool true) ∧ Below w.heap.size w w' := by
  have hS := szIntSS_any h hs 1048576 (by omega) (by omega)
  obtain ⟨a, cap, rfl, -⟩ := id h
  go_enter Try.func10, Try.ntmps10
  go_wp2_with (fail)
  refine hS.mono ?_
  rintro e w1 ⟨r, rfl, hr, hb1⟩
  rcases hr with rfl | ⟨hr0, hr1⟩
  · go_wp2_with (fail)
    go_ret
    exact ⟨rfl, hb1⟩
  have z1 : decide (r < 0) = false := by simpa using hr0
  have hn : X.length ≤ 1048576 := by omega
  have hi : ∀ x ∈ X, x.length ≤ 1048576 := fun x hx => by have := totalR_mem hx; omega
  clear hr1
  go_wp2_with (fail)
  refine (toIntSS_any (h.keep hb1) hn hi).mono ?_
  rintro e w2 ⟨v2, rfl, o2, hb2⟩
  have r2 := o2.rd
  have hb02 := hb1.trans (hb2.mono hb1.size)
  obtain ⟨a2, c2, rfl, -⟩ := id r2
  go_wp2_with (fail)
  refine (blame_spec r2 hn hi t).mono ?_
  rintro e w3 ⟨rfl, hb3⟩
  have hb03 := hb02.trans (hb3.mono hb02.size)
  go_wp2_with (fail)
  refine (toIntSS_any (h.keep hb03) hn hi).mono ?_
  rintro e w4 ⟨v4, rfl, o4, hb4⟩
  have r4 := o4.rd
  have hb04 := hb03.trans (hb4.mono hb03.size)
  obtain ⟨a4, c4, rfl, -⟩ := id r4
  go_wp2_with (fail)
  refine (blame_impl r4 hn hi t).mono ?_
  rintro e w5 ⟨rfl, hb5⟩
  have hb05 := hb04.trans (hb5.mono hb04.size)
  have r5 := r4.keep hb5
  generalize blameI X t = B at *
  go_wp2_with (fail)
  refine (toIntSS_any (h.keep hb05) hn hi).mono ?_
  rintro e w6 ⟨v6, rfl, o6, hb6⟩
  have r6 := o6.rd
  have hb06 := hb05.trans (hb6.mono hb05.size)
  have r56 := r5.keep hb6
  obtain ⟨a6, c6, rfl, -⟩ := id r6
  go_wp2_with (fail)
  refine (eqIntSS_rows r56 r6 hn hi).mono ?_
  rintro e w7 ⟨rfl, hb7⟩
  go_wp2_with (fail)
  go_ret
  exact ⟨rfl, hb06.trans (hb7.mono hb06.size)⟩
end Go.Proofs.Ytikaiimafliceaa
