/-
  AddInputs: the model's contract. Lists of at most 2^20 numbers.
-/
import Derived.Test.YtnjjpeblbfomoaaAddP
import Derived.Test.YtnjjpeblbfomoaaCpy
import Derived.Test.YtnjjpeblbfomoaaStI
import Derived.Test.YtnjjpeblbfomoaaSlide
namespace Go.Proofs.Ytnjjpeblbfomoaa
open Go.RowKit
set_option linter.all false
theorem OwnR.wr {w : World} {B : Nat} {v : Value} {xs : List Int} (h : OwnR w B v xs) : OwnI w B v xs := h.own
theorem addS_rel {w w5 : World} {B0 p n k cap : Nat} {xs ys L1 : List Int} {a a5 : Option Addr} {c5 : Nat} {cs : Value} (hkl : k < ys.length) (hl : ¬ n + k < xs.length) (hp : w.heap.size + 1 < p)
    (HM : ∀ j (hj : j < ys.length) (hl : n + j < xs.length), j < k → xs[n + j] = ys[j])
    (hA5 : w5.heap[w.heap.size]? = some (.cells #[.slice a xs.length cap] 26 (0, 0))) (hB5 : w5.heap[w.heap.size + 1]? = some (.cells #[.slice none 0 0] 26 (0, 0))) (hC5 : w5.heap[p]? = some (.cells #[cs] 26 (0, 0)))
    (hown5 : OwnR w5 B0 (.slice a5 L1.length c5) L1) (hne5 : (Value.slice a5 L1.length c5).ownBlock ≠ some p) (hb05 : Below w.heap.size w w5) (hL : L1 = addAt xs n ys (k + 1)) (hps : p < w5.heap.size) :
    ∃ (k1 : Nat) (v : Value), k1 ≤ ys.length ∧ Value.int .i64 ((k : Int) + 1) = .int .i64 (k1 : Int) ∧ Hid (∀ j (hj : j < ys.length) (hl : n + j < xs.length), j < k1 → xs[n + j] = ys[j]) ∧ (w5.setCell ⟨p, 0, none⟩ (.slice a5 L1.length c5)).heap[w.heap.size]? = some (.cells #[.slice a xs.length cap] 26 (0, 0)) ∧ (w5.setCell ⟨p, 0, none⟩ (.slice a5 L1.length c5)).heap[w.heap.size + 1]? = some (.cells #[.slice none 0 0] 26 (0, 0)) ∧ (w5.setCell ⟨p, 0, none⟩ (.slice a5 L1.length c5)).heap[p]? = some (.cells #[v] 26 (0, 0)) ∧ OwnR (w5.setCell ⟨p, 0, none⟩ (.slice a5 L1.length c5)) B0 v (addAt xs n ys k1) ∧ Below w.heap.size w (w5.setCell ⟨p, 0, none⟩ (.slice a5 L1.length c5)) ∧ p < (w5.setCell ⟨p, 0, none⟩ (.slice a5 L1.length c5)).heap.size := by
  refine ⟨k + 1, .slice a5 L1.length c5, by omega, by congr 1, Lib.hid (fun j hj hl2 hjk => ?_), farHeap hA5 (by show w.heap.size ≠ p; omega) _, farHeap hB5 (by show w.heap.size + 1 ≠ p; omega) _, setHeap hC5, ?_, hb05.setCell (p := ⟨p, 0, none⟩) (by show w.heap.size ≤ p; omega) _, ?_⟩
  · by_cases e : j = k
    · subst e; exact absurd hl2 hl
    · exact HM j hj hl2 (by omega)
  · rw [← hL]; exact hown5.aside (p := ⟨p, 0, none⟩) hne5 _
  · simpa using hps
set_option maxRecDepth 100000 in
set_option maxHeartbeats 16000000 in
theorem addInputs_spec {w : World} {v u : Value} {xs ys : List Int} (h : RdI w v xs) (h' : RdI w u ys) (hx : xs.length ≤ 1048576) (hy : ys.length ≤ 1048576) (f : Int) :
    Calls Try.prog 10 #[.agg #[v], .int .i64 f, u] w (RetAd w xs f ys) := by
  obtain ⟨a, cap, rfl, -⟩ := id h
  obtain ⟨au, cu, rfl, hu0⟩ := id h'
  obtain ⟨W0, hW, hA, hB, hB0, hS0⟩ := rows2 w #[.slice a xs.length cap] #[.slice none 0 0] 26 26
  have cA := rowCells hA
  have hcp := l03Copy_spec (h.keep hB0) (by omega)
  go_enter Try.func10, Try.ntmps10
  go_wp2_with (fail)
  refine hcp.mono ?_
  rintro e w1 ⟨u1, rfl, hO1, hb1⟩
  obtain ⟨a1, c1, rfl, -⟩ := id hO1.own.rd
  have hA1 := keepHeap (below1 w1 (.cells #[.slice none 0 0] 26)) (keepHeap hb1 hA)
  have hB1 := keepHeap (below1 w1 (.cells #[.slice none 0 0] 26)) (keepHeap hb1 hB)
  have hC1 := heap_alloc_new w1 (.cells #[.slice none 0 0] 26)
  have hs1 := hb1.size
  have hO1' : OwnR (w1.alloc (.cells #[.slice none 0 0] 26)) W0.heap.size (.slice a1 xs.length c1) xs := World.ownsRow.alloc hO1 _
  have hne := hO1'.notBox hC1 (by decide)
  obtain ⟨p, hp⟩ : ∃ p, p = w1.heap.size := ⟨_, rfl⟩
  rw [← hp] at hC1 hne
  obtain ⟨W2, hW2⟩ : ∃ W2, (w1.alloc (.cells #[.slice none 0 0] 26)).setCell ⟨p, 0, none⟩ (.slice a1 xs.length c1) = W2 := ⟨_, rfl⟩
  have hA2 : W2.heap[w.heap.size]? = some (.cells #[.slice a xs.length cap] 26 (0, 0)) := by rw [← hW2]; exact farHeap hA1 (by simp; omega) _
  have hB2 : W2.heap[w.heap.size + 1]? = some (.cells #[.slice none 0 0] 26 (0, 0)) := by rw [← hW2]; exact farHeap hB1 (by simp; omega) _
  have hC2 : W2.heap[p]? = some (.cells #[.slice a1 xs.length c1] 26 (0, 0)) := by rw [← hW2]; exact setHeap hC1
  have hO2 : OwnR W2 W0.heap.size (.slice a1 xs.length c1) xs := by rw [← hW2]; exact hO1'.aside hne _
  have hb2 : Below w.heap.size w W2 := by rw [← hW2]; exact ((hB0.trans (hb1.mono (by omega))).alloc (by omega) _).setCell (by simp; omega) _
  have hs2 : p < W2.heap.size := by rw [← hW2]; simp; omega
  have hpW : W0.heap.size ≤ p := by omega
  have cA2 := rowCells hA2
  have cB2 := rowCells hB2
  have cC2 := rowCells hC2
  have fB2 := frozenHeap hB2 0
  subst hp
  clear hO1 hO1' hA1 hB1 hC1 hne cA
  go_wp2_with (fail)
  refine (trackOk_spec (h.keep hb2) (by omega)).mono ?_
  rintro e w3 ⟨rfl, hb3⟩
  have hA3 := keepHeap hb3 hA2
  have hB3 := keepHeap hb3 hB2
  have hC3 := keepHeap hb3 hC2
  have hO3 := hO2.keep hb3 (Nat.le_refl _)
  have hs3 := hb3.size
  have hb03 := hb2.trans (hb3.mono hb2.size)
  have cA3 := rowCells hA3
  have cB3 := rowCells hB3
  have cC3 := rowCells hC3
  have fB3 := frozenHeap hB3 0
  have fC3 := frozenHeap hC3 0
  clear cA2 cB2 cC2 fB2 hW2
  have hcl : ∀ l, ((w3.setCell ⟨w.heap.size + 1, 0, none⟩ (.slice a1 l c1)).cell? ⟨w.heap.size + 1, 0, none⟩) = some (.slice a1 l c1) := fun l => rowCells (setHeap hB3) 0
  cases ht : trkB xs with
  | false =>
    have HB := Lib.hid (addB_track (f := f) (ys := ys) ht)
    have HT := Lib.hid (addT_no HB.out)
    clear ht
    go_wp2_with (fail)
    have c9 := hcl xs.length
    refine bodyPost_ret (v := .tuple #[.agg #[.slice a1 xs.length c1], .bool false]) (by simp [results, Try.results10, go_sem, c9]) rfl ⟨.slice a1 xs.length c1, ?_, ?_, ?_⟩
    · rw [HB.out]
    · rw [HT.out]; exact ((hO3.far (p := ⟨w.heap.size + 1, 0, none⟩) (by show w.heap.size + 1 < _; omega) _).low (by omega)).wr
    · exact hb03.setCell (p := ⟨w.heap.size + 1, 0, none⟩) (by show w.heap.size ≤ w.heap.size + 1; omega) _
  | true =>
    have HT0 := Lib.hid ht
    clear ht
    go_wp2_with (fail)
    refine (in_spec f 0 (xs.length : Int) w3).mono ?_
    rintro e w4 ⟨rfl, rfl⟩
    cases hr : inR f 0 (xs.length : Int) with
    | false =>
      have HB := Lib.hid (addB_range (ys := ys) hr)
      have HT := Lib.hid (addT_no HB.out)
      clear hr
      go_wp2_with (fail)
      have c9 := hcl xs.length
      refine bodyPost_ret (v := .tuple #[.agg #[.slice a1 xs.length c1], .bool false]) (by simp [results, Try.results10, go_sem, c9]) rfl ⟨.slice a1 xs.length c1, ?_, ?_, ?_⟩
      · rw [HB.out]
      · rw [HT.out]; exact ((hO3.far (p := ⟨w.heap.size + 1, 0, none⟩) (by show w.heap.size + 1 < _; omega) _).low (by omega)).wr
      · exact hb03.setCell (p := ⟨w.heap.size + 1, 0, none⟩) (by show w.heap.size ≤ w.heap.size + 1; omega) _
    | true =>
      obtain ⟨hf0, hf1⟩ := (inR_iff _ _ _).1 hr
      obtain ⟨n, rfl⟩ : ∃ n : Nat, f = (n : Int) := ⟨f.toNat, by omega⟩
      have HR := Lib.hid hr
      clear hr
      go_wp2_with (fail)
      have hnx : n ≤ xs.length := by omega
      clear cA3 cB3 cC3 fB3 fC3 hcl
      obtain ⟨p, hp⟩ : ∃ p, p = w1.heap.size := ⟨_, rfl⟩
      rw [← hp]
      rw [← hp] at hC3 hpW
      have hpw3 : p < w3.heap.size := by omega
      clear hp
      go_loopw [9] (fun i wr => ∃ (k : Nat) (v : Value), k ≤ ys.length ∧ i = .int .i64 (k : Int) ∧ Hid (∀ j (hj : j < ys.length) (hl : n + j < xs.length), j < k → xs[n + j] = ys[j]) ∧ wr.heap[w.heap.size]? = some (.cells #[.slice a xs.length cap] 26 (0, 0)) ∧ wr.heap[w.heap.size + 1]? = some (.cells #[.slice none 0 0] 26 (0, 0)) ∧ wr.heap[p]? = some (.cells #[v] 26 (0, 0)) ∧ OwnR wr W0.heap.size v (addAt xs n ys k) ∧ Below w.heap.size w wr ∧ p < wr.heap.size) (fun i _ => ys.length - (intOf i).toNat)
      case atStart => exact ⟨0, _, Nat.zero_le _, rfl, Lib.hid (fun j _ _ hj => absurd hj (by omega)), hA3, hB3, hC3, by rw [addAt_zero]; exact hO3, hb03, hpw3⟩
      case round =>
        obtain ⟨k, v, hk, rfl, HM, hAr, hBr, hCr, hown, hbel, hpr⟩ := hrel
        have cA := rowCells hAr
        have cB := rowCells hBr
        have cC := rowCells hCr
        have fB := frozenHeap hBr 0
        have fC := frozenHeap hCr 0
        have hlen := addAt_len (ys := ys) hnx hk
        have hne := hown.notBox hCr (by decide)
        have hrd := h'.keep hbel
        have hra := h.keep hbel
        by_cases hkl : k < ys.length
        · have hk1 : (k : Int) < (ys.length : Int) := by omega
          obtain ⟨bu, ou, rfl, hcu⟩ := hu0.resolve_left (by intro e; subst e; simp at hkl)
          obtain ⟨y, hy0⟩ : ∃ y, y = ys[k] := ⟨_, rfl⟩
          have cY0 := hcu k hkl
          rw [← hy0] at cY0
          have cY : wr.cell? ⟨bu, ou + k, none⟩ = some (.int .i64 y) := (hbel.cell (World.block_lt_of_cell? w _ cY0)).trans cY0
          by_cases hl : n + k < xs.length
          · obtain ⟨hix, hxr⟩ := addAt_read (xs := xs) (f := n) (ys := ys) (k := k) hl
            obtain ⟨x, hx0⟩ : ∃ x, x = xs[n + k] := ⟨_, rfl⟩
            rw [← hx0] at hxr
            have hold := addAt_old hnx hkl hl
            have hro := hown.own.rd
            obtain ⟨av, cv, rfl, hv0⟩ := id hro
            obtain ⟨bv, ov, rfl, hcv⟩ := hv0.resolve_left (by intro e; rw [e] at hix; simp at hix)
            have cX := hcv (n + k) hix
            rw [hxr] at cX
            have hn1 : (n : Int) + (k : Int) < ((addAt xs n ys k).length : Int) := by omega
            have HX := Lib.hid hx0
            have HY := Lib.hid hy0
            have HD := Lib.hid hold
            have HW := Lib.hid hown
            have hcpW := fun W (hb : Below wr.heap.size wr W) => l03Copy_spec (hra.keep hb) (by omega)
            clear hx0 hy0 hold hxr hcv hcu hv0 hu0 hown hlen hne
            by_cases he : x = y
            · have z3 : (x == y) = true := by simp [he]
              have z4 : (x != y) = false := by simp [he]
              have HE := Lib.hid he
              clear he
              go_wp2_with (fail)
              go_quiet (fail)
              go_wp2_with (fail)
              go_roundw
              case rel =>
                refine ⟨k + 1, _, by omega, by go_num, Lib.hid (fun j hj hl2 hjk => ?_), keepHeap (below_drewN (Below.refl _ _) _) hAr, keepHeap (below_drewN (Below.refl _ _) _) hBr, keepHeap (below_drewN (Below.refl _ _) _) hCr, ?_, below_drewN hbel _, ?_⟩
                · by_cases e : j = k
                  · subst e; rw [← HX.out, ← HY.out]; exact HE.out
                  · exact HM.out j hj hl2 (by omega)
                · rw [HD.out]; exact HW.out.keep (below_drewN (Below.refl _ _) _) (Nat.le_refl _)
                · exact Nat.lt_of_lt_of_le hpr (below_drewN (Below.refl wr.heap.size wr) _).size
              case measure => simp [intOf]; omega
            · have z3 : (x == y) = false := by simp [he]
              have z4 : (x != y) = true := by simp [he]
              have HB := Lib.hid (addB_other (xs := xs) (f := (n : Int)) (ys := ys) (by rw [Int.toNat_natCast]; exact addSame_bad hkl hl (by rw [← HX.out, ← HY.out]; exact he)))
              have HT := Lib.hid (addT_no HB.out)
              clear he
              go_wp2_with (fail)
              go_quiet (fail)
              go_wp2_with (fail)
              refine (hcpW _ (below_drewN (Below.refl _ _) _)).mono ?_
              rintro e w6 ⟨u6, rfl, hO6, hb6⟩
              obtain ⟨a6, c6, rfl, -⟩ := id hO6.own.rd
              have hB6 := keepHeap hb6 (keepHeap (below_drewN (Below.refl wr.heap.size wr) _) hBr)
              have hb06 := (below_drewN hbel _).trans (hb6.mono (below_drewN hbel _).size)
              have cB6 := rowCells hB6
              have fB6 := frozenHeap hB6 0
              have hsz6 := hbel.size
              go_wp2_with (fail)
              have c9 := rowCells (setHeap (k := 0) (v := .slice a6 xs.length c6) hB6) 0
              refine bodyPost_ret (v := .tuple #[.agg #[.slice a6 xs.length c6], .bool false]) (by simp [results, Try.results10, go_sem, c9]) rfl ⟨.slice a6 xs.length c6, ?_, ?_, ?_⟩
              · rw [HB.out]
              · rw [HT.out]; exact (((hO6.low (C := w.heap.size + 2) (by show w.heap.size + 2 ≤ wr.heap.size; omega)).far (p := ⟨w.heap.size + 1, 0, none⟩) (by show w.heap.size + 1 < _; omega) _).low (by omega)).wr
              · exact hb06.setCell (p := ⟨w.heap.size + 1, 0, none⟩) (by show w.heap.size ≤ w.heap.size + 1; omega) _
          · have hnew := addAt_new hnx hkl hl
            rw [← hy0] at hnew
            obtain ⟨L1, hL1⟩ : ∃ L1, L1 = addAt xs n ys (k + 1) := ⟨_, rfl⟩
            rw [← hL1] at hnew
            have HL1 := Lib.hid hL1
            clear hL1
            have hro := hown.own.rd
            obtain ⟨av, cv, rfl, -⟩ := id hro
            have hn1 : ¬ ((n : Int) + (k : Int) < ((addAt xs n ys k).length : Int)) := by omega
            have z1 : decide ((n : Int) + (k : Int) < ((addAt xs n ys k).length : Int)) = false := by simpa using hn1
            have HY := Lib.hid hy0
            have HD := Lib.hid hnew
            have HW := Lib.hid hown
            have hl400 : (addAt xs n ys k).length ≤ 4194304 := by omega
            clear hnew hown hlen hy0 hcu hu0
            have cX1 : (wr.alloc (.cells #[.int .i64 y] 3)).cell? ⟨p, 0, none⟩ = some (.slice av (addAt xs n ys k).length cv) := rowCells (keepHeap (below1 wr _) hCr) 0
            have hsb := hbel.size
            go_wp2_with (fail)
            go_region_law (refine step_int rfl (.tmp 52) (.tmp 57) rfl W0.heap.size _ (addAt xs n ys k) rfl (World.ownsRow.alloc (World.ownsRow.drew HW.out) _) wr.heap.size y rfl (World.cell?_alloc_mark _ _ _ (0, 0) 0) (by omega) (by simp; omega) ?_; intro v1 w5 hown5 hb5 hg5; rw [← HD.out] at hown5; obtain ⟨a5, c5, rfl, -⟩ := id hown5.own.rd; have hC5 := OwnR.box (World.ownsRow.alloc (World.ownsRow.drew HW.out) _) hg5 (by simp; omega) hne (keepHeap (below1 wr.drew _) hCr); have hB5 := (hb5.block (w.heap.size + 1) (by omega)).trans (keepHeap (below1 wr.drew _) hBr); have hA5 := (hb5.block w.heap.size (by omega)).trans (keepHeap (below1 wr.drew _) hAr); have cC5 := rowCells hC5; have fC5 := frozenHeap hC5 0)
            all_goals
              have hne5 := hown5.notBox hC5 (by decide)
              have hb05 : Below w.heap.size w w5 := (hbel.trans ((below1 wr _).mono hbel.size).drew).trans (hb5.mono (show w.heap.size ≤ W0.heap.size by omega))
              have hs5 := hb5.size
              go_wp2_with (fail)
              go_roundw
              case measure => simp [intOf]; omega
              exact addS_rel hkl hl (by omega) HM.out hA5 hB5 hC5 hown5 hne5 hb05 HL1.out (by simp at hs5; omega)
        · obtain rfl : k = ys.length := by omega
          rw [addAt_all (Nat.le_refl _)] at hown hlen
          have HS := Lib.hid (addSame_ok hnx (fun j hj hl => HM.out j hj hl hj))
          obtain ⟨l, hl⟩ : ∃ l, l = addAll xs n ys := ⟨_, rfl⟩
          rw [← hl] at hown hlen
          have HL := Lib.hid hl
          have hro := hown.own.rd
          obtain ⟨av, cv, rfl, -⟩ := id hro
          have hll : l.length ≤ 4194304 := by omega
          clear hk hlen hl hne hu0 HM
          go_wp2_with (fail)
          refine (trackOk_spec hro (by omega)).mono ?_
          rintro e w5 ⟨rfl, hb5⟩
          have hA5 := keepHeap hb5 hAr
          have hB5 := keepHeap hb5 hBr
          have hC5 := keepHeap hb5 hCr
          have hO5 := hown.keep hb5 (Nat.le_refl _)
          have hb05 := hbel.trans (hb5.mono hbel.size)
          have hra5 := h.keep hb05
          have cA5 := rowCells hA5
          have cB5 := rowCells hB5
          have cC5 := rowCells hC5
          have fB5 := frozenHeap hB5 0
          have hs5 := hb5.size
          have hs05 := hb05.size
          clear cA cB cC fB fC
          cases ht : trkB l with
          | false =>
            have HB := Lib.hid (addB_far (xs := xs) (f := (n : Int)) (ys := ys) (by rw [Int.toNat_natCast, ← HL.out]; exact ht))
            have HT := Lib.hid (addT_no HB.out)
            have hcp5 := l03Copy_spec hra5 (by omega)
            clear ht
            go_wp2_with (fail)
            refine hcp5.mono ?_
            rintro e w6 ⟨u6, rfl, hO6, hb6⟩
            obtain ⟨a6, c6, rfl, -⟩ := id hO6.own.rd
            have hB6 := keepHeap hb6 hB5
            have cB6 := rowCells hB6
            have fB6 := frozenHeap hB6 0
            clear cA5 cB5 cC5 fB5
            go_wp2_with (fail)
            have c9 := rowCells (setHeap (k := 0) (v := .slice a6 xs.length c6) hB6) 0
            refine bodyPost_ret (v := .tuple #[.agg #[.slice a6 xs.length c6], .bool false]) (by simp [results, Try.results10, go_sem, c9]) rfl ⟨.slice a6 xs.length c6, ?_, ?_, ?_⟩
            · rw [HB.out]
            · rw [HT.out]; exact ((hO6.far (p := ⟨w.heap.size + 1, 0, none⟩) (by show w.heap.size + 1 < _; omega) _).low (by omega)).wr
            · exact (hb05.trans (hb6.mono hs05)).setCell (p := ⟨w.heap.size + 1, 0, none⟩) (by show w.heap.size ≤ w.heap.size + 1; omega) _
          | true =>
            have HB := Lib.hid (addB_good (xs := xs) (f := (n : Int)) (ys := ys) HT0.out HR.out (by rw [Int.toNat_natCast]; exact HS.out) (by rw [Int.toNat_natCast, ← HL.out]; exact ht))
            have HT := Lib.hid (addT_yes HB.out)
            clear ht
            go_wp2_with (fail)
            have c9 := rowCells (setHeap (k := 0) (v := .slice av l.length cv) hB5) 0
            refine bodyPost_ret (v := .tuple #[.agg #[.slice av l.length cv], .bool true]) (by simp [results, Try.results10, go_sem, c9]) rfl ⟨.slice av l.length cv, ?_, ?_, ?_⟩
            · rw [HB.out]
            · rw [HT.out, Int.toNat_natCast, ← HL.out]; exact ((hO5.far (p := ⟨w.heap.size + 1, 0, none⟩) (by show w.heap.size + 1 < _; omega) _).low (by omega)).wr
            · exact hb05.setCell (p := ⟨w.heap.size + 1, 0, none⟩) (by show w.heap.size ≤ w.heap.size + 1; omega) _
end Go.Proofs.Ytnjjpeblbfomoaa
