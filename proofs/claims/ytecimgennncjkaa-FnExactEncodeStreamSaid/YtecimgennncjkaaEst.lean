/-
  EncodeStream: the plain mathematics; the contracts of the model and of the program. Lists of at most 2^20 rows and numbers.
-/
import Derived.Test.YtecimgennncjkaaColS
import Derived.Test.YtecimgennncjkaaNum
import Derived.Test.YtecimgennncjkaaSealB
import Derived.Laws.Concat
import Derived.Deep.RegionHeld3
namespace Go.Proofs.Ytecimgennncjkaa
open Go.RowKit
set_option linter.all false
/-- How many inputs the first row has. -/
def fstN (X : Rowi) : Nat := (X.headD []).length
theorem fstN_at {X : Rowi} (h : 0 < X.length) : X[0].length = fstN X := by
  unfold fstN
  cases X with
  | nil => simp at h
  | cons x X => rfl
def strB (f : Int) (X : Rowi) : Bool := inR f 0 400 && (inR (X.length : Int) 1 20 && (inR (fstN X : Int) 1 4 && rowsB (fstN X : Int) X))
def strL (f : Int) (X : Rowi) : List UInt8 := if strB f X then sealL (packI [f, (X.length : Int), (fstN X : Int)] ++ colsT X (fstN X)) else []
theorem str_f {f : Int} {X : Rowi} (h : inR f 0 400 = false) : strL f X = [] := by unfold strL strB; rw [h]; rfl
theorem str_n {f : Int} {X : Rowi} (h : inR (X.length : Int) 1 20 = false) : strL f X = [] := by unfold strL strB; rw [h]; simp
theorem str_p {f : Int} {X : Rowi} (h : inR (fstN X : Int) 1 4 = false) : strL f X = [] := by unfold strL strB; rw [h]; simp
theorem str_r {f : Int} {X : Rowi} (h : rowsB (fstN X : Int) X = false) : strL f X = [] := by unfold strL strB; rw [h]; simp
theorem str_ok {f : Int} {X : Rowi} (h1 : inR f 0 400 = true) (h2 : inR (X.length : Int) 1 20 = true) (h3 : inR (fstN X : Int) 1 4 = true) (h4 : rowsB (fstN X : Int) X = true) : strL f X = sealL (packI [f, (X.length : Int), (fstN X : Int)] ++ colsT X (fstN X)) := by unfold strL strB; rw [h1, h2, h3, h4]; rfl
theorem RdI.three (W : World) (a b c : Int) (t : TypeId) : RdI (W.alloc (.cells #[.int .i64 a, .int .i64 b, .int .i64 c] t)) (.slice (some ⟨W.heap.size, 0, none⟩) 3 3) [a, b, c] := RdI.fresh _ _ rfl rfl
set_option maxRecDepth 100000 in
set_option maxHeartbeats 4000000 in
theorem encodeStream_impl {w : World} {v : Value} {X : Rowi} (h : RdR w v X) (hn : X.length ≤ 1048576) (hi : ∀ x ∈ X, x.length ≤ 1048576) (f : Int) :
    Calls Try.prog 9 #[.int .i64 f, v] w fun e w' => e = .returned (.string ⟨(strL f X).toArray⟩) ∧ Below w.heap.size w w' := by
  have h0 := h
  obtain ⟨a, cap, rfl, h⟩ := h
  cases q1 : inR f 0 400 with
  | false =>
    have HF := Lib.hid (str_f (X := X) q1)
    have Q1 := Lib.hid q1
    clear q1
    go_enter Try.func9, Try.ntmps9
    go_wp2_with (fail)
    refine (within_impl _ _ _ _).mono ?_
    rintro e w1 ⟨rfl, rfl⟩
    rw [Q1.out]
    go_wp2_with (fail)
    go_ret
    exact ⟨by rw [HF.out]; rfl, Below.refl _ _⟩
  | true =>
  have Q1 := Lib.hid q1
  cases q2 : inR (X.length : Int) 1 20 with
  | false =>
    have HF := Lib.hid (str_n (f := f) q2)
    have Q2 := Lib.hid q2
    clear q1 q2
    go_enter Try.func9, Try.ntmps9
    go_wp2_with (fail)
    refine (within_impl _ _ _ _).mono ?_
    rintro e w1 ⟨rfl, rfl⟩
    rw [Q1.out]
    go_wp2_with (fail)
    refine (within_impl _ _ _ _).mono ?_
    rintro e w1 ⟨rfl, rfl⟩
    rw [Q2.out]
    go_wp2_with (fail)
    go_ret
    exact ⟨by rw [HF.out]; rfl, Below.refl _ _⟩
  | true =>
  have Q2 := Lib.hid q2
  have hn20 := (inR_iff _ _ _).1 q2
  have hpos : 0 < X.length := by omega
  obtain ⟨b, off, rfl, hc⟩ := h.resolve_left (by intro e; rw [e] at hpos; simp at hpos)
  obtain ⟨u, c1, r1⟩ := hc 0 hpos
  obtain ⟨ax, cx, rfl, -⟩ := id r1
  rw [fstN_at hpos, Nat.add_zero] at c1
  have hpos' : (0 : Int) < (X.length : Int) := by omega
  have hlc : (X.length : Int) ≤ 9223372036854775807 := by omega
  have hR := rowsOk_impl h0 ⟨by omega, fun x hx => by have := hi x hx; omega⟩ (fstN X : Int)
  cases q3 : inR (fstN X : Int) 1 4 with
  | false =>
    have HF := Lib.hid (str_p (f := f) q3)
    have Q3 := Lib.hid q3
    clear q1 q2 q3 hc r1 hR h0
    go_enter Try.func9, Try.ntmps9
    go_wp2_with (fail)
    refine (within_impl _ _ _ _).mono ?_
    rintro e w1 ⟨rfl, rfl⟩
    rw [Q1.out]
    go_wp2_with (fail)
    refine (within_impl _ _ _ _).mono ?_
    rintro e w1 ⟨rfl, rfl⟩
    rw [Q2.out]
    go_wp2_with (fail)
    refine (within_impl _ _ _ _).mono ?_
    rintro e w1 ⟨rfl, rfl⟩
    rw [Q3.out]
    go_wp2_with (fail)
    go_ret
    exact ⟨by rw [HF.out]; rfl, Below.refl _ _⟩
  | true =>
  have Q3 := Lib.hid q3
  have hn4 := (inR_iff _ _ _).1 q3
  cases q4 : rowsB (fstN X : Int) X with
  | false =>
    have HF := Lib.hid (str_r (f := f) q4)
    rw [q4] at hR
    clear q1 q2 q3 q4 hc r1 h0
    go_enter Try.func9, Try.ntmps9
    go_wp2_with (fail)
    refine (within_impl _ _ _ _).mono ?_
    rintro e w1 ⟨rfl, rfl⟩
    rw [Q1.out]
    go_wp2_with (fail)
    refine (within_impl _ _ _ _).mono ?_
    rintro e w1 ⟨rfl, rfl⟩
    rw [Q2.out]
    go_wp2_with (fail)
    refine (within_impl _ _ _ _).mono ?_
    rintro e w1 ⟨rfl, rfl⟩
    rw [Q3.out]
    go_wp2_with (fail)
    refine hR.mono ?_
    rintro e w1 ⟨rfl, rfl⟩
    go_wp2_with (fail)
    go_ret
    exact ⟨by rw [HF.out]; rfl, Below.refl _ _⟩
  | true =>
  have HF := str_ok q1 q2 q3 q4
  rw [q4] at hR
  have hpk : ∀ k (hk : k < X.length), fstN X ≤ X[k].length := fun k hk => by have := (rokB_facts (rowsB_at q4 hk)).1; omega
  have n1 := packI_len [f, (X.length : Int), (fstN X : Int)]
  have n2 : (colsT X (fstN X)).length ≤ 504 := by
    have h1 := colsT_len X (fstN X)
    have h2 : fstN X * (6 * X.length + 6) ≤ 4 * (6 * 20 + 6) := Nat.mul_le_mul (by omega) (by omega)
    omega
  simp only [List.length_cons, List.length_nil] at n1
  have hP := fun (W : World) (hb : Below w.heap.size w W) => packRows_impl (h0.keep hb) (by omega) (fstN X) (by omega) hpk hi
  have hnum := packNumbers_impl (RdI.three w f (X.length : Int) (fstN X : Int) 3) (by simp)
  have hb1 := below1 w (.cells #[.int .i64 f, .int .i64 (X.length : Int), .int .i64 (fstN X : Int)] 3)
  obtain ⟨L1, e1⟩ : ∃ l, packI [f, (X.length : Int), (fstN X : Int)] = l := ⟨_, rfl⟩
  rw [e1] at HF n1 hnum
  obtain ⟨L2, e2⟩ : ∃ l, colsT X (fstN X) = l := ⟨_, rfl⟩
  rw [e2] at HF n2 hP
  obtain ⟨L3, e3⟩ : ∃ l, L1 ++ L2 = l := ⟨_, rfl⟩
  rw [e3] at HF
  have n3 : L3.length ≤ 600 := by rw [← e3]; simp; omega
  have hc1 : ∀ W, (Op.stringOp .add ⟨L1.toArray⟩ ⟨L2.toArray⟩).run Try.prog W = .ok (.string ⟨L3.toArray⟩) W := fun W => by rw [run_string_add_lists W _ _ (by omega) (by omega), e3]
  have HF := Lib.hid HF
  clear e1 e2 e3 q1 q2 q3 q4 hc r1 h0 hpk
  go_enter Try.func9, Try.ntmps9
  go_wp2_with (fail)
  refine (within_impl _ _ _ _).mono ?_
  rintro e w1 ⟨rfl, rfl⟩
  rw [Q1.out]
  go_wp2_with (fail)
  refine (within_impl _ _ _ _).mono ?_
  rintro e w1 ⟨rfl, rfl⟩
  rw [Q2.out]
  go_wp2_with (fail)
  refine (within_impl _ _ _ _).mono ?_
  rintro e w1 ⟨rfl, rfl⟩
  rw [Q3.out]
  go_wp2_with (fail)
  refine hR.mono ?_
  rintro e w1 ⟨rfl, rfl⟩
  go_wp2_with (fail)
  refine hnum.mono ?_
  rintro e w2 ⟨rfl, hb2⟩
  have hb02 := hb1.trans (hb2.mono hb1.size)
  have hP2 := hP w2 hb02
  go_wp2_with (fail)
  refine hP2.mono ?_
  rintro e w3 ⟨rfl, hb3⟩
  have hb03 := hb02.trans (hb3.mono hb02.size)
  go_wp2_with (fail)
  refine (sealText_impl L3 _ (by omega)).mono ?_
  rintro e w4 ⟨rfl, hb4⟩
  go_wp2_with (fail)
  go_ret
  exact ⟨by rw [HF.out]; rfl, hb03.trans (hb4.mono hb03.size)⟩
set_option maxRecDepth 100000 in
set_option maxHeartbeats 4000000 in
theorem encodeStream_spec {w : World} {v : Value} {X : Rowi} (h : RdR w v X) (hn : X.length ≤ 1048576) (hi : ∀ x ∈ X, x.length ≤ 1048576) (f : Int) :
    Calls Try.prog 7 #[.int .i64 f, v] w fun e w' => e = .returned (.string ⟨(strL f X).toArray⟩) ∧ Below w.heap.size w w' := by
  have h0 := h
  obtain ⟨a, cap, rfl, h⟩ := h
  cases q1 : inR f 0 400 with
  | false =>
    have HF := Lib.hid (str_f (X := X) q1)
    have Q1 := Lib.hid q1
    clear q1
    go_enter Try.func7, Try.ntmps7
    go_wp2_with (fail)
    refine (in_spec _ _ _ _).mono ?_
    rintro e w1 ⟨rfl, rfl⟩
    rw [Q1.out]
    go_wp2_with (fail)
    go_ret
    exact ⟨by rw [HF.out]; rfl, Below.refl _ _⟩
  | true =>
  have Q1 := Lib.hid q1
  cases q2 : inR (X.length : Int) 1 20 with
  | false =>
    have HF := Lib.hid (str_n (f := f) q2)
    have Q2 := Lib.hid q2
    clear q1 q2
    go_enter Try.func7, Try.ntmps7
    go_wp2_with (fail)
    refine (in_spec _ _ _ _).mono ?_
    rintro e w1 ⟨rfl, rfl⟩
    rw [Q1.out]
    go_wp2_with (fail)
    refine (in_spec _ _ _ _).mono ?_
    rintro e w1 ⟨rfl, rfl⟩
    rw [Q2.out]
    go_wp2_with (fail)
    go_ret
    exact ⟨by rw [HF.out]; rfl, Below.refl _ _⟩
  | true =>
  have Q2 := Lib.hid q2
  have hn20 := (inR_iff _ _ _).1 q2
  have hpos : 0 < X.length := by omega
  obtain ⟨b, off, rfl, hc⟩ := h.resolve_left (by intro e; rw [e] at hpos; simp at hpos)
  obtain ⟨u, c1, r1⟩ := hc 0 hpos
  obtain ⟨ax, cx, rfl, -⟩ := id r1
  rw [fstN_at hpos, Nat.add_zero] at c1
  have hpos' : (0 : Int) < (X.length : Int) := by omega
  have hlc : (X.length : Int) ≤ 9223372036854775807 := by omega
  cases q3 : inR (fstN X : Int) 1 4 with
  | false =>
    have HF := Lib.hid (str_p (f := f) q3)
    have Q3 := Lib.hid q3
    clear q1 q2 q3 hc r1 h0
    go_enter Try.func7, Try.ntmps7
    go_wp2_with (fail)
    refine (in_spec _ _ _ _).mono ?_
    rintro e w1 ⟨rfl, rfl⟩
    rw [Q1.out]
    go_wp2_with (fail)
    refine (in_spec _ _ _ _).mono ?_
    rintro e w1 ⟨rfl, rfl⟩
    rw [Q2.out]
    go_wp2_with (fail)
    refine (in_spec _ _ _ _).mono ?_
    rintro e w1 ⟨rfl, rfl⟩
    rw [Q3.out]
    go_wp2_with (fail)
    go_ret
    exact ⟨by rw [HF.out]; rfl, Below.refl _ _⟩
  | true =>
  have Q3 := Lib.hid q3
  have hn4 := (inR_iff _ _ _).1 q3
  have HBAD := Lib.hid (fun k (hk : k < X.length) hb => str_r (f := f) (X := X) (rowsB_bad hk hb))
  have HOK := Lib.hid (fun (hr : ∀ k (hk : k < X.length), rokB (fstN X : Int) X[k] = true) => str_ok (f := f) q1 q2 q3 (rowsB_ok hr))
  have n1 := packI_len [f, (X.length : Int), (fstN X : Int)]
  simp only [List.length_cons, List.length_nil] at n1
  obtain ⟨L1, e1⟩ : ∃ l, packI [f, (X.length : Int), (fstN X : Int)] = l := ⟨_, rfl⟩
  rw [e1] at HOK n1
  have E1 := Lib.hid e1
  obtain ⟨n, hnn⟩ : ∃ n, n = fstN X := ⟨_, rfl⟩
  rw [← hnn] at c1 hn4 HBAD HOK E1 Q3
  generalize strL f X = t at HBAD HOK ⊢
  have hnl : n ≤ 4 := by omega
  clear q1 q2 q3 e1 hnn r1 h
  go_enter Try.func7, Try.ntmps7
  go_wp2_with (fail)
  refine (in_spec _ _ _ _).mono ?_
  rintro e w1 ⟨rfl, rfl⟩
  rw [Q1.out]
  go_wp2_with (fail)
  refine (in_spec _ _ _ _).mono ?_
  rintro e w1 ⟨rfl, rfl⟩
  rw [Q2.out]
  go_wp2_with (fail)
  refine (in_spec _ _ _ _).mono ?_
  rintro e w1 ⟨rfl, rfl⟩
  rw [Q3.out]
  go_wp2_with (fail)
  go_loopw [5] (fun i wr => ∃ k : Nat, k ≤ X.length ∧ i = .int .i64 (k : Int) ∧ (∃ q, wr = w.drewN q) ∧ Hid (∀ j (hj : j < X.length), j < k → rokB (n : Int) X[j] = true)) (fun i _ => X.length - (intOf i).toNat)
  case atStart => exact ⟨0, Nat.zero_le _, rfl, ⟨0, rfl⟩, Lib.hid (fun j hj hl => by omega)⟩
  case round =>
    obtain ⟨k, hk, rfl, ⟨q, rfl⟩, HA⟩ := hrel
    by_cases hkl : k < X.length
    · obtain ⟨u, c2, R⟩ := hc k hkl
      have hx3 := hi X[k] (List.getElem_mem _)
      have HB1 := Lib.hid (HBAD.out k hkl)
      have hl1 : (k : Int) < (X.length : Int) := by omega
      obtain ⟨y, hy⟩ : ∃ y, y = X[k] := ⟨_, rfl⟩
      rw [← hy] at R hx3 HB1
      have HY := Lib.hid hy
      have hR := fun m => l02RowOk_any (R.keep (belowDrew w m)) (by omega) (n : Int)
      obtain ⟨ay, cy, rfl, -⟩ := id R
      clear hc hy
      cases hq : rokB (n : Int) y with
      | true =>
        rw [hq] at hR
        have HQ : Hid (rokB (n : Int) X[k] = true) := Lib.hid (by rw [← HY.out]; exact hq)
        clear hq HB1
        go_wp2_with (fail)
        go_region_held3 (fun w' => w'.cell? ⟨b, off + k, none⟩ = some (.slice ay y.length cy) ∧ w'.cell? ⟨b, off, none⟩ = some (.slice ax n cx)) (first | go_keep | exact ⟨c2, c1⟩)
          (first | (go_at_call 22; refine (hR _).mono ?_; rintro e w3 ⟨rfl, rfl⟩))
        go_wp2_with (fail)
        go_roundw
        case rel =>
          refine ⟨k + 1, by omega, by go_num, ⟨_, rfl⟩, Lib.hid (fun j hj hjk => ?_)⟩
          by_cases e : j = k
          · subst e; exact HQ.out
          · exact HA.out j hj (by omega)
        case measure => simp [intOf]; omega
      | false =>
        rw [hq] at hR
        have HF := Lib.hid (HB1.out hq)
        clear hq HB1
        go_wp2_with (fail)
        go_region_held3 (fun w' => w'.cell? ⟨b, off + k, none⟩ = some (.slice ay y.length cy) ∧ w'.cell? ⟨b, off, none⟩ = some (.slice ax n cx)) (first | go_keep | exact ⟨c2, c1⟩)
          (first | (go_at_call 22; refine (hR _).mono ?_; rintro e w3 ⟨rfl, rfl⟩))
        go_wp2_with (fail)
        go_ret
        exact ⟨by rw [HF.out]; rfl, ⟨rfl, rfl, rfl, Nat.le_refl _, fun _ _ => rfl⟩⟩
    · have hall := fun j hj => HA.out j hj (by omega)
      have HT := Lib.hid (HOK.out hall)
      have hpk : ∀ k (hk : k < X.length), n ≤ X[k].length := fun k hk => by have := (rokB_facts (hall k hk)).1; omega
      have HPK := Lib.hid hpk
      have hb0 := belowDrew w q
      have hnum := packInts_spec (RdI.three (w.drewN q) f (X.length : Int) (n : Int) 3) (by simp)
      rw [E1.out] at hnum
      have hb1 := hb0.trans ((below1 (w.drewN q) (.cells #[.int .i64 f, .int .i64 (X.length : Int), .int .i64 (n : Int)] 3)).mono hb0.size)
      clear hpk hall HOK HBAD HA
      go_wp2_with (fail)
      refine hnum.mono ?_
      rintro e w2 ⟨rfl, hb2⟩
      have hb02 := hb1.trans (hb2.mono hb1.size)
      go_wp2_with (fail)
      go_loopw [6, 7] (fun s i wr => ∃ k : Nat, k ≤ n ∧ i = .int .i64 (k : Int) ∧ s = .string ⟨(L1 ++ colsT X k).toArray⟩ ∧ Below w.heap.size w wr) (fun _ i _ => n - (intOf i).toNat)
      case atStart => exact ⟨0, Nat.zero_le _, rfl, by rw [colsT_zero, List.append_nil], hb02⟩
      case round =>
        clear hb02 hb2 hb1 hb0 hnum
        obtain ⟨k, hk, rfl, rfl, hbel⟩ := hrel
        have c1r := (hbel.cell (World.block_lt_of_cell? w _ c1)).trans c1
        have hlen : (colsT X k).length ≤ 504 := by
          have h1 := colsT_len X k
          have h2 : k * (6 * X.length + 6) ≤ 4 * (6 * 20 + 6) := Nat.mul_le_mul (by omega) (by omega)
          omega
        by_cases hkn : k < n
        · have hkn' : (k : Int) < (n : Int) := by omega
          have hC := l07Column_any (h0.keep hbel) hn k (fun j hj => by have := HPK.out j hj; omega) hi
          have HS := colsT_succ X k
          have hct := colT_len X k
          have hpk : (packTr (colL X k)).length ≤ 120 := by have := packTr_len (colL X k); rw [colL_len] at this; omega
          unfold colT at HS hct
          have hcol := colL_len X k
          generalize colL X k = C at *
          obtain ⟨P, eP⟩ : ∃ l, packTr C = l := ⟨_, rfl⟩
          rw [eP] at HS hct hpk
          have hPL : P.length ≤ 120 := hpk
          have EP := Lib.hid eP
          clear eP
          obtain ⟨A1, ea⟩ : ∃ l, L1 ++ colsT X k = l := ⟨_, rfl⟩
          have HS2 : Hid (A1 ++ packT P = L1 ++ colsT X (k + 1)) := Lib.hid (by rw [HS, ← ea, List.append_assoc])
          have hA1 : A1.length ≤ 600 := by rw [← ea]; simp; omega
          rw [ea]
          have hc1 : ∀ W, (Op.stringOp .add ⟨A1.toArray⟩ ⟨(packT P).toArray⟩).run Try.prog W = .ok (.string ⟨(A1 ++ packT P).toArray⟩) W := fun W => by rw [run_string_add_lists W _ _ (by omega) (by omega)]
          have hcl : C.length ≤ 1099511627776 := by omega
          clear HS ea hcol hct hpk
          go_wp2_with (fail)
          refine hC.mono ?_
          rintro e w3 ⟨v3, rfl, hrd3, -, hb3⟩
          have hb03 := hbel.trans (hb3.mono hbel.size)
          have hT := packTrack_spec hrd3 hcl
          rw [EP.out] at hT
          obtain ⟨a3, c3, rfl, -⟩ := id hrd3
          go_wp2_with (fail)
          refine hT.mono ?_
          rintro e w4 ⟨rfl, hb4⟩
          have hb04 := hb03.trans (hb4.mono hb03.size)
          go_wp2_with (fail)
          refine (packText_spec P _ (by omega)).mono ?_
          rintro e w5 ⟨rfl, hb5⟩
          have hb05 := hb04.trans (hb5.mono hb04.size)
          go_wp2_with (fail)
          go_roundw
          case rel => exact ⟨k + 1, by omega, by go_num, by rw [HS2.out], hb05⟩
          case measure => simp [intOf]; omega
        · have e : k = n := by omega
          subst e
          obtain ⟨A1, ea⟩ : ∃ l, L1 ++ colsT X k = l := ⟨_, rfl⟩
          rw [ea] at HT
          have hA1 : A1.length ≤ 600 := by rw [← ea]; simp; omega
          rw [ea]
          clear ea
          go_wp2_with (fail)
          refine (sealText_spec A1 _ (by omega)).mono ?_
          rintro e w4 ⟨rfl, hb4⟩
          go_wp2_with (fail)
          go_ret
          exact ⟨by rw [HT.out]; rfl, hbel.trans (hb4.mono hbel.size)⟩
end Go.Proofs.Ytecimgennncjkaa
