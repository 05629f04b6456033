/-
  SameTrack, and the laws on TrackOk, Predict, SameTrack. No condition.
-/
import Derived.Test.YtbimlnffjhckcaaTrP
import Derived.BigQuiet
namespace Go.Proofs.Ytbimlnffjhckcaa
open Go.RowKit
set_option linter.all false
def sameB (xs ys : List Int) : Bool := decide (xs = ys)
theorem same_len {xs ys : List Int} (h : ¬ xs.length = ys.length) : sameB xs ys = false := by unfold sameB; rw [decide_eq_false_iff_not]; intro e; exact h (by rw [e])
theorem same_bad {xs ys : List Int} {k : Nat} (h1 : k < xs.length) (h2 : k < ys.length) (h : ¬ xs[k] = ys[k]) : sameB xs ys = false := by unfold sameB; rw [decide_eq_false_iff_not]; intro e; subst e; exact h rfl
theorem same_ok {xs ys : List Int} (hl : xs.length = ys.length) (h : ∀ k (h1 : k < xs.length) (h2 : k < ys.length), xs[k] = ys[k]) : sameB xs ys = true := by unfold sameB; rw [decide_eq_true_eq]; exact List.ext_getElem hl h
set_option maxHeartbeats 1000000 in
theorem equalI_any {w : World} {v v' : Value} {xs ys : List Int} (h : RdI w v xs) (h' : RdI w v' ys) (hs : xs.length ≤ 9223372036854775807) (hs' : ys.length ≤ 9223372036854775807) :
    Calls Try.prog 69 #[v, v'] w fun e w' => e = .returned (.bool (sameB xs ys)) ∧ Below w.heap.size w w' := by
  obtain ⟨a, cap, rfl, h⟩ := h
  obtain ⟨a', cap', rfl, h'⟩ := h'
  have hlc : (xs.length : Int) ≤ 9223372036854775807 := by omega
  have hlc' : (ys.length : Int) ≤ 9223372036854775807 := by omega
  by_cases hl : xs.length = ys.length
  · have hl' : (xs.length : Int) = (ys.length : Int) := by omega
    have HL := Lib.hid hl
    have z1 : ((xs.length : Int) != (ys.length : Int)) = false := by simp [hl']
    clear hl hl'
    go_enter Try.func69, Try.ntmps69
    go_wp2_with (fail)
    go_loopw [13] (fun i wr => ∃ k n : Nat, k ≤ xs.length ∧ i = .int .i64 (k : Int) ∧ wr = w.drewN n ∧ ∀ j (h1 : j < xs.length) (h2 : j < ys.length), j < k → xs[j] = ys[j]) (fun i _ => xs.length - (intOf i).toNat)
    case atStart => exact ⟨0, 0, Nat.zero_le _, rfl, rfl, fun _ _ _ h => by omega⟩
    case round =>
      obtain ⟨k, n, hk, rfl, rfl, hat⟩ := hrel
      have HA := Lib.hid hat
      clear hat
      by_cases hkl : k < xs.length
      · have hkl2 : k < ys.length := by rw [← HL.out]; exact hkl
        obtain ⟨b, off, rfl, hc⟩ := h.resolve_left (by intro e; rw [e] at hkl; simp at hkl)
        obtain ⟨b', off', rfl, hc'⟩ := h'.resolve_left (by intro e; rw [e] at hkl2; simp at hkl2)
        obtain ⟨x, hx⟩ : ∃ x, x = xs[k] := ⟨_, rfl⟩
        obtain ⟨y, hy⟩ : ∃ y, y = ys[k] := ⟨_, rfl⟩
        have c1 : w.cell? ⟨b, off + k, none⟩ = some (.int .i64 x) := by rw [hx]; exact hc k hkl
        have c2 : w.cell? ⟨b', off' + k, none⟩ = some (.int .i64 y) := by rw [hy]; exact hc' k hkl2
        have hl1 : (k : Int) < (xs.length : Int) := by omega
        have hl2 : (k : Int) < (ys.length : Int) := by omega
        by_cases he : x = y
        · have HE : Hid (xs[k] = ys[k]) := Lib.hid (by rw [← hx, ← hy]; exact he)
          subst he
          clear h h' hc hc' hx hy
          go_wp2
          go_quiet (fail)
          go_wp2
          go_roundw
          case rel =>
            refine ⟨k + 1, _, by omega, by go_num, rfl, fun j h1 h2 hjk => ?_⟩
            by_cases e : j = k
            · subst e; exact HE.out
            · exact HA.out j h1 h2 (by omega)
          case measure => simp [intOf]; omega
        · have HF := Lib.hid (same_bad hkl hkl2 (by rw [← hx, ← hy]; exact he))
          have z2 : (x != y) = true := by simp [he]
          clear h h' hc hc' hx hy
          go_wp2
          go_quiet (fail)
          go_wp2
          go_ret
          exact ⟨by rw [HF.out]; rfl, ⟨rfl, rfl, rfl, Nat.le_refl _, fun _ _ => rfl⟩⟩
      · have HF := Lib.hid (same_ok HL.out (fun j h1 h2 => HA.out j h1 h2 (by omega)))
        go_wp2
        go_ret
        exact ⟨by rw [HF.out]; rfl, belowDrew _ _⟩
  · have hl' : ¬ (xs.length : Int) = (ys.length : Int) := by omega
    have HF := Lib.hid (same_len hl)
    have z1 : ((xs.length : Int) != (ys.length : Int)) = true := by simp; omega
    go_enter Try.func69, Try.ntmps69
    go_wp2_with (fail)
    go_ret
    exact ⟨by rw [HF.out]; rfl, Below.refl _ _⟩
set_option maxHeartbeats 1000000 in
theorem l02Ints_any {w : World} {v v' : Value} {xs ys : List Int} (h : RdI w v xs) (h' : RdI w v' ys) (hs : xs.length ≤ 9223372036854775807) (hs' : ys.length ≤ 9223372036854775807) :
    Calls Try.prog 70 #[v, v'] w fun e w' => e = .returned (.bool (sameB xs ys)) ∧ Below w.heap.size w w' := by
  obtain ⟨a, cap, rfl, h⟩ := h
  obtain ⟨a', cap', rfl, h'⟩ := h'
  have hlc : (xs.length : Int) ≤ 9223372036854775807 := by omega
  have hlc' : (ys.length : Int) ≤ 9223372036854775807 := by omega
  by_cases hl : xs.length = ys.length
  · have hl' : (xs.length : Int) = (ys.length : Int) := by omega
    have HL := Lib.hid hl
    have z1 : ((xs.length : Int) != (ys.length : Int)) = false := by simp [hl']
    clear hl hl'
    go_enter Try.func70, Try.ntmps70
    go_wp2_with (fail)
    go_loopw [5] (fun i wr => ∃ k n : Nat, k ≤ xs.length ∧ i = .int .i64 (k : Int) ∧ wr = w.drewN n ∧ ∀ j (h1 : j < xs.length) (h2 : j < ys.length), j < k → xs[j] = ys[j]) (fun i _ => xs.length - (intOf i).toNat)
    case atStart => exact ⟨0, 0, Nat.zero_le _, rfl, rfl, fun _ _ _ h => by omega⟩
    case round =>
      obtain ⟨k, n, hk, rfl, rfl, hat⟩ := hrel
      have HA := Lib.hid hat
      clear hat
      by_cases hkl : k < xs.length
      · have hkl2 : k < ys.length := by rw [← HL.out]; exact hkl
        obtain ⟨b, off, rfl, hc⟩ := h.resolve_left (by intro e; rw [e] at hkl; simp at hkl)
        obtain ⟨b', off', rfl, hc'⟩ := h'.resolve_left (by intro e; rw [e] at hkl2; simp at hkl2)
        obtain ⟨x, hx⟩ : ∃ x, x = xs[k] := ⟨_, rfl⟩
        obtain ⟨y, hy⟩ : ∃ y, y = ys[k] := ⟨_, rfl⟩
        have c1 : w.cell? ⟨b, off + k, none⟩ = some (.int .i64 x) := by rw [hx]; exact hc k hkl
        have c2 : w.cell? ⟨b', off' + k, none⟩ = some (.int .i64 y) := by rw [hy]; exact hc' k hkl2
        have hl1 : (k : Int) < (xs.length : Int) := by omega
        have hl2 : (k : Int) < (ys.length : Int) := by omega
        by_cases he : x = y
        · have HE : Hid (xs[k] = ys[k]) := Lib.hid (by rw [← hx, ← hy]; exact he)
          subst he
          clear h h' hc hc' hx hy
          go_wp2
          go_quiet (fail)
          go_wp2
          go_roundw
          case rel =>
            refine ⟨k + 1, _, by omega, by go_num, rfl, fun j h1 h2 hjk => ?_⟩
            by_cases e : j = k
            · subst e; exact HE.out
            · exact HA.out j h1 h2 (by omega)
          case measure => simp [intOf]; omega
        · have HF := Lib.hid (same_bad hkl hkl2 (by rw [← hx, ← hy]; exact he))
          have z2 : (x != y) = true := by simp [he]
          clear h h' hc hc' hx hy
          go_wp2
          go_quiet (fail)
          go_wp2
          go_ret
          exact ⟨by rw [HF.out]; rfl, ⟨rfl, rfl, rfl, Nat.le_refl _, fun _ _ => rfl⟩⟩
      · have HF := Lib.hid (same_ok HL.out (fun j h1 h2 => HA.out j h1 h2 (by omega)))
        go_wp2
        go_ret
        exact ⟨by rw [HF.out]; rfl, belowDrew _ _⟩
  · have hl' : ¬ (xs.length : Int) = (ys.length : Int) := by omega
    have HF := Lib.hid (same_len hl)
    have z1 : ((xs.length : Int) != (ys.length : Int)) = true := by simp; omega
    go_enter Try.func70, Try.ntmps70
    go_wp2_with (fail)
    go_ret
    exact ⟨by rw [HF.out]; rfl, Below.refl _ _⟩
set_option maxHeartbeats 1000000 in
theorem sameTrack_impl {w : World} {v v' : Value} {xs ys : List Int} (h : RdI w v xs) (h' : RdI w v' ys) (hs : xs.length ≤ 9223372036854775807) (hs' : ys.length ≤ 9223372036854775807) :
    Calls Try.prog 46 #[.agg #[v], .agg #[v']] w fun e w' => e = .returned (.bool (sameB xs ys)) ∧ Below w.heap.size w w' := by
  obtain ⟨a, cap, rfl, -⟩ := id h
  obtain ⟨a', cap', rfl, -⟩ := id h'
  obtain ⟨W0, hW, hA, hB, hB0, hS0⟩ := rows2 w #[.slice a xs.length cap] #[.slice a' ys.length cap'] 27 27
  have cA := rowCells hA
  have cB := rowCells hB
  have hE := equalI_any (h.keep hB0) (h'.keep hB0) hs hs'
  go_enter Try.func46, Try.ntmps46
  go_wp2_with (fail)
  clear hW
  refine hE.mono ?_
  rintro e w1 ⟨rfl, hb1⟩
  go_wp2_with (fail)
  go_ret
  exact ⟨rfl, hB0.trans (hb1.mono hB0.size)⟩
set_option maxHeartbeats 1000000 in
theorem sameTrack_spec {w : World} {v v' : Value} {xs ys : List Int} (h : RdI w v xs) (h' : RdI w v' ys) (hs : xs.length ≤ 9223372036854775807) (hs' : ys.length ≤ 9223372036854775807) :
    Calls Try.prog 45 #[.agg #[v], .agg #[v']] w fun e w' => e = .returned (.bool (sameB xs ys)) ∧ Below w.heap.size w w' := by
  obtain ⟨a, cap, rfl, -⟩ := id h
  obtain ⟨a', cap', rfl, -⟩ := id h'
  obtain ⟨W0, hW, hA, hB, hB0, hS0⟩ := rows2 w #[.slice a xs.length cap] #[.slice a' ys.length cap'] 27 27
  have cA := rowCells hA
  have cB := rowCells hB
  have hE := l02Ints_any (h.keep hB0) (h'.keep hB0) hs hs'
  go_enter Try.func45, Try.ntmps45
  go_wp2_with (fail)
  clear hW
  refine hE.mono ?_
  rintro e w1 ⟨rfl, hb1⟩
  go_wp2_with (fail)
  go_ret
  exact ⟨rfl, hB0.trans (hb1.mono hB0.size)⟩
set_option maxHeartbeats 4000000 in
theorem lawTrackOk {w : World} (v : Value) (ls : List Int) (h : RdI w v ls) (hs : ls.length ≤ 9223372036854775807) :
    Calls Try.prog 3 #[.agg #[v]] w fun e w' => e = .returned (.bool true) ∧ Below w.heap.size w w' := by
  obtain ⟨a, cap, rfl, -⟩ := id h
  obtain ⟨W1, hW, hA1, hb1, -⟩ := rows1 w #[.slice a ls.length cap] 24
  have cA1 := rowCells hA1
  have r1 := h.keep hb1
  go_enter Try.func3, Try.ntmps3
  go_wp2_with (fail)
  clear hW
  refine (szTrack_any r1 hs 1048576 (by omega) (by omega)).mono ?_
  rintro e w2 ⟨r, rfl, hr, hb2⟩
  have hs1 := hb1.size
  have hb12 := hb1.trans (hb2.mono hs1)
  have hA2 := keepHeap hb2 hA1
  have cA2 := rowCells hA2
  have r2 := h.keep hb12
  clear r1 cA1 hA1 hb1 hb2 hs1
  rcases hr with rfl | ⟨hr0, hr1⟩
  · go_wp2_with (fail)
    go_ret
    exact ⟨rfl, hb12⟩
  · have zr : decide (r < 0) = false := by simpa using hr0
    have hn : ls.length ≤ 1048576 := by omega
    clear hr1
    go_wp2_with (fail)
    refine (toTrack_any r2 (by omega)).mono ?_
    rintro e w3 ⟨v3, rfl, wr3, hb3⟩
    have hs2 := hb12.size
    have hb13 := hb12.trans (hb3.mono hs2)
    have hA3 := keepHeap hb3 hA2
    have rd3 := wr3.rd
    obtain ⟨a3, c3, rfl, -⟩ := id rd3
    clear cA2 hA2 r2 hb12 hb3 hs2 wr3
    go_wp2_with (fail)
    refine ( trackOk_spec rd3 hs).mono ?_
    rintro e w4 ⟨rfl, hb4⟩
    have hs3 := hb13.size
    have hb14 := hb13.trans (hb4.mono hs3)
    have hA4 := keepHeap hb4 hA3
    have cA4 := rowCells hA4
    have r4 := h.keep hb14
    clear hb13 hb4 hs3 hA3 rd3
    go_wp2_with (fail)
    refine (toTrack_any r4 (by omega)).mono ?_
    rintro e w5 ⟨v5, rfl, wr5, hb5⟩
    have hs4 := hb14.size
    have hb15 := hb14.trans (hb5.mono hs4)
    have hA5 := keepHeap hb5 hA4
    have rd5 := wr5.rd
    obtain ⟨a5, c5, rfl, -⟩ := id rd5
    clear hb14 hb5 hs4 hA4 cA4 r4 wr5
    have hs5 := hb15.size
    obtain ⟨W6, hW6, hA6, hX6, hb6, hb16⟩ : ∃ W6, w5.alloc (.cells #[.slice a5 ls.length c5] 27) = W6 ∧ W6.heap[w.heap.size]? = some (.cells #[.slice a ls.length cap] 24 (0, 0)) ∧ W6.heap[w5.heap.size]? = some (.cells #[.slice a5 ls.length c5] 27 (0, 0)) ∧ Below w5.heap.size w5 W6 ∧ Below w.heap.size w W6 :=
      ⟨_, rfl, keepHeap (below1 _ _) hA5, heap_alloc_new _ _, below1 _ _, hb15.trans ((below1 _ _).mono hs5)⟩
    have cX6 := rowCells hX6
    have rd6 := rd5.keep hb6
    go_wp2_with (fail)
    clear hW6
    refine ( trackOk_impl rd6 hs).mono ?_
    rintro e w7 ⟨rfl, hb7⟩
    have hs6 := hb16.size
    have hb17 := hb16.trans (hb7.mono hs6)
    have hA7 := keepHeap hb7 hA6
    have hX7 := keepHeap hb7 hX6
    have rd7 := rd6.keep hb7
    have r7 := h.keep hb17
    have cA7 := rowCells hA7
    have cX7 := rowCells hX7
    have hs7 := hb17.size
    have hxlt : w5.heap.size < w7.heap.size := (Array.getElem?_eq_some_iff.1 hX7).1
    clear hb15 hb6 hb16 hb7 hs5 hs6 hA5 hA6 hX6 cX6 rd5 rd6
    go_wp2_with (fail)
    go_region_held3 (fun w' => (∀ j, w'.cell? ⟨w.heap.size, j, none⟩ = #[Value.slice a ls.length cap][j]?) ∧ (∀ j, w'.cell? ⟨w5.heap.size, j, none⟩ = #[Value.slice a5 ls.length c5][j]?)) (first | go_keep | (exact ⟨cA8, cX8⟩) | exact ⟨cA9, cX9⟩)
      (first
      | (go_at_call 17; refine (toTrack_any (RdI.keep r7 (belowDrew _ 1)) (by omega)).mono ?_; rintro e w8 ⟨v8, rfl, wr8, hb8⟩; have hA8 := keepHeap hb8 hA7; have hX8 := keepHeap hb8 hX7; have cA8 := rowCells hA8; have cX8 := rowCells hX8; have rd8 := wr8.rd; obtain ⟨a8, c8, rfl, -⟩ := id rd8; have rdx8 := (RdI.keep rd7 (belowDrew _ 1)).keep hb8; have hb18 := (hb17.trans ((belowDrew w7 1).mono hs7)).trans (hb8.mono (by simp; omega)))
      | (go_at_call 19; refine (eqTrack_same rdx8 rd8 (by omega)).mono ?_; rintro e w9 ⟨rfl, hb9⟩; have hA9 := keepHeap hb9 hA8; have hX9 := keepHeap hb9 hX8; have cA9 := rowCells hA9; have cX9 := rowCells hX9; have hb19 := hb18.trans (hb9.mono (by have := hb8.size; simp at this; omega))))
    go_wp2_with (fail)
    go_ret
    exact ⟨rfl, hb19⟩
set_option maxHeartbeats 4000000 in
theorem lawPredict {w : World} (v : Value) (ls : List Int) (h : RdI w v ls) (hs : ls.length ≤ 9223372036854775807) (t : Int) (wt : (Lit.int .i64 t).wf = true) :
    Calls Try.prog 6 #[.agg #[v], .int .i64 t] w fun e w' => e = .returned (.bool true) ∧ Below w.heap.size w w' := by
  obtain ⟨a, cap, rfl, -⟩ := id h
  obtain ⟨W1, hW, hA1, hb1, -⟩ := rows1 w #[.slice a ls.length cap] 24
  have cA1 := rowCells hA1
  have r1 := h.keep hb1
  go_enter Try.func6, Try.ntmps6
  go_wp2_with (fail)
  clear hW
  refine (szTrack_any r1 hs 1048576 (by omega) (by omega)).mono ?_
  rintro e w2 ⟨r, rfl, hr, hb2⟩
  have hs1 := hb1.size
  have hb12 := hb1.trans (hb2.mono hs1)
  have hA2 := keepHeap hb2 hA1
  have cA2 := rowCells hA2
  have r2 := h.keep hb12
  clear r1 cA1 hA1 hb1 hb2 hs1
  rcases hr with rfl | ⟨hr0, hr1⟩
  · go_wp2_with (fail)
    go_ret
    exact ⟨rfl, hb12⟩
  · have zr : decide (r < 0) = false := by simpa using hr0
    have hn : ls.length ≤ 1048576 := by omega
    clear hr1
    go_wp2_with (fail)
    refine (toTrack_any r2 (by omega)).mono ?_
    rintro e w3 ⟨v3, rfl, wr3, hb3⟩
    have hs2 := hb12.size
    have hb13 := hb12.trans (hb3.mono hs2)
    have hA3 := keepHeap hb3 hA2
    have rd3 := wr3.rd
    obtain ⟨a3, c3, rfl, -⟩ := id rd3
    clear cA2 hA2 r2 hb12 hb3 hs2 wr3
    go_wp2_with (fail)
    refine (predict_spec rd3 (by omega) t).mono ?_
    rintro e w4 ⟨rfl, hb4⟩
    have hs3 := hb13.size
    have hb14 := hb13.trans (hb4.mono hs3)
    have hA4 := keepHeap hb4 hA3
    have cA4 := rowCells hA4
    have r4 := h.keep hb14
    clear hb13 hb4 hs3 hA3 rd3
    go_wp2_with (fail)
    refine (toTrack_any r4 (by omega)).mono ?_
    rintro e w5 ⟨v5, rfl, wr5, hb5⟩
    have hs4 := hb14.size
    have hb15 := hb14.trans (hb5.mono hs4)
    have hA5 := keepHeap hb5 hA4
    have rd5 := wr5.rd
    obtain ⟨a5, c5, rfl, -⟩ := id rd5
    clear hb14 hb5 hs4 hA4 cA4 r4 wr5
    have hs5 := hb15.size
    obtain ⟨W6, hW6, hA6, hX6, hb6, hb16⟩ : ∃ W6, w5.alloc (.cells #[.slice a5 ls.length c5] 27) = W6 ∧ W6.heap[w.heap.size]? = some (.cells #[.slice a ls.length cap] 24 (0, 0)) ∧ W6.heap[w5.heap.size]? = some (.cells #[.slice a5 ls.length c5] 27 (0, 0)) ∧ Below w5.heap.size w5 W6 ∧ Below w.heap.size w W6 :=
      ⟨_, rfl, keepHeap (below1 _ _) hA5, heap_alloc_new _ _, below1 _ _, hb15.trans ((below1 _ _).mono hs5)⟩
    have cX6 := rowCells hX6
    have rd6 := rd5.keep hb6
    go_wp2_with (fail)
    clear hW6
    refine (predict_impl rd6 (by omega) t).mono ?_
    rintro e w7 ⟨rfl, hb7⟩
    have hs6 := hb16.size
    have hb17 := hb16.trans (hb7.mono hs6)
    have hA7 := keepHeap hb7 hA6
    have hX7 := keepHeap hb7 hX6
    have rd7 := rd6.keep hb7
    have r7 := h.keep hb17
    have cA7 := rowCells hA7
    have cX7 := rowCells hX7
    have hs7 := hb17.size
    have hxlt : w5.heap.size < w7.heap.size := (Array.getElem?_eq_some_iff.1 hX7).1
    clear hb15 hb6 hb16 hb7 hs5 hs6 hA5 hA6 hX6 cX6 rd5 rd6
    go_wp2_with (fail)
    go_region_held3 (fun w' => (∀ j, w'.cell? ⟨w.heap.size, j, none⟩ = #[Value.slice a ls.length cap][j]?) ∧ (∀ j, w'.cell? ⟨w5.heap.size, j, none⟩ = #[Value.slice a5 ls.length c5][j]?)) (first | go_keep | (exact ⟨cA8, cX8⟩) | exact ⟨cA9, cX9⟩)
      (first
      | (go_at_call 17; refine (toTrack_any (RdI.keep r7 (belowDrew _ 1)) (by omega)).mono ?_; rintro e w8 ⟨v8, rfl, wr8, hb8⟩; have hA8 := keepHeap hb8 hA7; have hX8 := keepHeap hb8 hX7; have cA8 := rowCells hA8; have cX8 := rowCells hX8; have rd8 := wr8.rd; obtain ⟨a8, c8, rfl, -⟩ := id rd8; have rdx8 := (RdI.keep rd7 (belowDrew _ 1)).keep hb8; have hb18 := (hb17.trans ((belowDrew w7 1).mono hs7)).trans (hb8.mono (by simp; omega)))
      | (go_at_call 19; refine (eqTrack_same rdx8 rd8 (by omega)).mono ?_; rintro e w9 ⟨rfl, hb9⟩; have hA9 := keepHeap hb9 hA8; have hX9 := keepHeap hb9 hX8; have cA9 := rowCells hA9; have cX9 := rowCells hX9; have hb19 := hb18.trans (hb9.mono (by have := hb8.size; simp at this; omega))))
    go_wp2_with (fail)
    go_ret
    exact ⟨rfl, hb19⟩
set_option maxHeartbeats 4000000 in
theorem lawSameTrack {w : World} (v : Value) (ls : List Int) (h : RdI w v ls) (hs : ls.length ≤ 9223372036854775807) (v' : Value) (ls' : List Int) (h' : RdI w v' ls') (hs' : ls'.length ≤ 9223372036854775807) :
    Calls Try.prog 10 #[.agg #[v], .agg #[v']] w fun e w' => e = .returned (.bool true) ∧ Below w.heap.size w w' := by
  obtain ⟨a, cap, rfl, -⟩ := id h
  obtain ⟨a', cap', rfl, -⟩ := id h'
  obtain ⟨W1, hW, hA1, hB1, hb1, -⟩ := rows2 w #[.slice a ls.length cap] #[.slice a' ls'.length cap'] 24 24
  have cA1 := rowCells hA1
  have cB1 := rowCells hB1
  have r1 := h.keep hb1
  go_enter Try.func10, Try.ntmps10
  go_wp2_with (fail)
  clear hW
  refine (szTrack_any r1 hs 1048576 (by omega) (by omega)).mono ?_
  rintro e w2 ⟨r, rfl, hr, hb2⟩
  have hs1 := hb1.size
  have hb12 := hb1.trans (hb2.mono hs1)
  have hA2 := keepHeap hb2 hA1
  have hB2 := keepHeap hb2 hB1
  have cA2 := rowCells hA2
  have cB2 := rowCells hB2
  have r2 := h'.keep hb12
  clear r1 cA1 cB1 hA1 hB1 hb1 hb2 hs1
  rcases hr with rfl | ⟨hr0, hr1⟩
  · go_wp2_with (fail)
    go_ret
    exact ⟨rfl, hb12⟩
  have zr : decide (r < 0) = false := by simpa using hr0
  have hn : ls.length ≤ 1048576 := by omega
  have hrr : r ≤ 1048576 := by omega
  clear hr1
  go_wp2_with (fail)
  refine (szTrack_any r2 hs' r hr0 hrr).mono ?_
  rintro e w3 ⟨q, rfl, hq, hb3⟩
  have hs2 := hb12.size
  have hb13 := hb12.trans (hb3.mono hs2)
  have hA3 := keepHeap hb3 hA2
  have hB3 := keepHeap hb3 hB2
  have cA3 := rowCells hA3
  have cB3 := rowCells hB3
  clear r2 cA2 cB2 hA2 hB2 hb12 hb3 hs2
  rcases hq with rfl | ⟨hq0, hq1⟩
  · go_wp2_with (fail)
    go_ret
    exact ⟨rfl, hb13⟩
  have zq : decide (q < 0) = false := by simpa using hq0
  have hn' : ls'.length ≤ 1048576 := by omega
  have hs3 := hb13.size
  have r3 := h.keep hb13
  have q3 := h'.keep hb13
  clear hq1
  go_wp2_with (fail)
  go_region_held3 (fun w' => (∀ j, w'.cell? ⟨w.heap.size, j, none⟩ = #[Value.slice a ls.length cap][j]?) ∧ (∀ j, w'.cell? ⟨w.heap.size + 1, j, none⟩ = #[Value.slice a' ls'.length cap'][j]?)) (first | go_keep | (exact ⟨cA4, cB4⟩) | (exact ⟨cA5, cB5⟩) | exact ⟨cA6, cB6⟩)
    (first
    | (go_at_call_of 17 (Value.slice a ls.length cap); refine (toTrack_any (RdI.keep r3 (belowDrew _ 1)) (by omega)).mono ?_; rintro e w4 ⟨v4, rfl, wr4, hb4⟩; have hA4 := keepHeap hb4 hA3; have hB4 := keepHeap hb4 hB3; have cA4 := rowCells hA4; have cB4 := rowCells hB4; have rd4 := wr4.rd; obtain ⟨a4, c4, rfl, -⟩ := id rd4; have hb14 := (hb13.trans ((belowDrew w3 1).mono hs3)).trans (hb4.mono (by simp; omega)))
    | (go_at_call_of 17 (Value.slice a' ls'.length cap'); refine (toTrack_any (h'.keep hb14) (by omega)).mono ?_; rintro e w5 ⟨v5, rfl, wr5, hb5⟩; have hA5 := keepHeap hb5 hA4; have hB5 := keepHeap hb5 hB4; have cA5 := rowCells hA5; have cB5 := rowCells hB5; have rd5 := wr5.rd; have rd45 := rd4.keep hb5; obtain ⟨a5, c5, rfl, -⟩ := id rd5; have hb15 := hb14.trans (hb5.mono hb14.size))
    | (go_at_call 45; refine (sameTrack_spec rd45 rd5 (by omega) (by omega)).mono ?_; rintro e w6 ⟨rfl, hb6⟩; have hA6 := keepHeap hb6 hA5; have hB6 := keepHeap hb6 hB5; have cA6 := rowCells hA6; have cB6 := rowCells hB6; have hb16 := hb15.trans (hb6.mono hb15.size)))
  have r6 := h.keep hb16
  clear hA3 hB3 cA3 cB3 hA4 hB4 cA4 cB4 hA5 hB5 cA5 cB5
  go_wp2_with (fail)
  refine (toTrack_any r6 (by omega)).mono ?_
  rintro e w7 ⟨v7, rfl, wr7, hb7⟩
  have hb17 := hb16.trans (hb7.mono hb16.size)
  have hA7 := keepHeap hb7 hA6
  have hB7 := keepHeap hb7 hB6
  have rd7 := wr7.rd
  obtain ⟨a7, c7, rfl, -⟩ := id rd7
  clear hA6 hB6 cA6 cB6 wr7 r6
  have hs7 := hb17.size
  obtain ⟨W8, hW8, hA8, hB8, hX8, hb8, hb18⟩ : ∃ W8, w7.alloc (.cells #[.slice a7 ls.length c7] 27) = W8 ∧ W8.heap[w.heap.size]? = some (.cells #[.slice a ls.length cap] 24 (0, 0)) ∧ W8.heap[w.heap.size + 1]? = some (.cells #[.slice a' ls'.length cap'] 24 (0, 0)) ∧ W8.heap[w7.heap.size]? = some (.cells #[.slice a7 ls.length c7] 27 (0, 0)) ∧ Below w7.heap.size w7 W8 ∧ Below w.heap.size w W8 :=
    ⟨_, rfl, keepHeap (below1 _ _) hA7, keepHeap (below1 _ _) hB7, heap_alloc_new _ _, below1 _ _, hb17.trans ((below1 _ _).mono hs7)⟩
  have rd8 := rd7.keep hb8
  have r8 := h'.keep hb18
  have cB8 := rowCells hB8
  clear hA7 hB7 hb17
  go_wp2_with (fail)
  clear hW8
  refine (toTrack_any r8 (by omega)).mono ?_
  rintro e w9 ⟨v9, rfl, wr9, hb9⟩
  have hb19 := hb18.trans (hb9.mono hb18.size)
  have hA9 := keepHeap hb9 hA8
  have hB9 := keepHeap hb9 hB8
  have hX9 := keepHeap hb9 hX8
  have rdx9 := rd8.keep hb9
  have rd9 := wr9.rd
  obtain ⟨a9, c9, rfl, -⟩ := id rd9
  clear hA8 hB8 hX8 cB8 wr9 r8 rd8 rd7 hb8
  have hs9 := hb19.size
  obtain ⟨W10, hW10, hA10, hB10, hX10, hY10, hb10, hb110⟩ : ∃ W10, w9.alloc (.cells #[.slice a9 ls'.length c9] 27) = W10 ∧ W10.heap[w.heap.size]? = some (.cells #[.slice a ls.length cap] 24 (0, 0)) ∧ W10.heap[w.heap.size + 1]? = some (.cells #[.slice a' ls'.length cap'] 24 (0, 0)) ∧ W10.heap[w7.heap.size]? = some (.cells #[.slice a7 ls.length c7] 27 (0, 0)) ∧ W10.heap[w9.heap.size]? = some (.cells #[.slice a9 ls'.length c9] 27 (0, 0)) ∧ Below w9.heap.size w9 W10 ∧ Below w.heap.size w W10 :=
    ⟨_, rfl, keepHeap (below1 _ _) hA9, keepHeap (below1 _ _) hB9, keepHeap (below1 _ _) hX9, heap_alloc_new _ _, below1 _ _, hb19.trans ((below1 _ _).mono hs9)⟩
  have rdx10 := rdx9.keep hb10
  have rdy10 := rd9.keep hb10
  have cX10 := rowCells hX10
  have cY10 := rowCells hY10
  clear hA9 hB9 hX9 hb19 hb10 rdx9 rd9
  go_wp2_with (fail)
  clear hW10
  refine (sameTrack_impl rdx10 rdy10 (by omega) (by omega)).mono ?_
  rintro e w11 ⟨rfl, hb11⟩
  have hb111 := hb110.trans (hb11.mono hb110.size)
  have hA11 := keepHeap hb11 hA10
  have hB11 := keepHeap hb11 hB10
  have hX11 := keepHeap hb11 hX10
  have hY11 := keepHeap hb11 hY10
  have rdx11 := rdx10.keep hb11
  have rdy11 := rdy10.keep hb11
  have cA11 := rowCells hA11
  have cB11 := rowCells hB11
  have cX11 := rowCells hX11
  have cY11 := rowCells hY11
  have r11 := h.keep hb111
  have hs11 := hb111.size
  have hz11 : w7.heap.size < w11.heap.size := (Array.getElem?_eq_some_iff.1 hX11).1
  clear hA10 hB10 hX10 hY10 cX10 cY10 rdx10 rdy10 hb110 hb11
  go_wp2_with (fail)
  go_region_held3 (fun w' => (∀ j, w'.cell? ⟨w.heap.size, j, none⟩ = #[Value.slice a ls.length cap][j]?) ∧ (∀ j, w'.cell? ⟨w7.heap.size, j, none⟩ = #[Value.slice a7 ls.length c7][j]?)) (first | go_keep | (exact ⟨cA12, cX12⟩) | exact ⟨cA13, cX13⟩)
    (first
    | (go_at_call 17; refine (toTrack_any (RdI.keep r11 (belowDrew _ 1)) (by omega)).mono ?_; rintro e w12 ⟨v12, rfl, wr12, hb12⟩; have hA12 := keepHeap hb12 hA11; have hB12 := keepHeap hb12 hB11; have hX12 := keepHeap hb12 hX11; have hY12 := keepHeap hb12 hY11; have cA12 := rowCells hA12; have cX12 := rowCells hX12; have rd12 := wr12.rd; obtain ⟨a12, c12, rfl, -⟩ := id rd12; have rdx12 := (RdI.keep rdx11 (belowDrew _ 1)).keep hb12; have rdy12 := (RdI.keep rdy11 (belowDrew _ 1)).keep hb12; have hb112 := (hb111.trans ((belowDrew w11 1).mono hs11)).trans (hb12.mono (by simp; omega)))
    | (go_at_call 19; refine (eqTrack_same rdx12 rd12 (by omega)).mono ?_; rintro e w13 ⟨rfl, hb13⟩; have hA13 := keepHeap hb13 hA12; have hB13 := keepHeap hb13 hB12; have hX13 := keepHeap hb13 hX12; have hY13 := keepHeap hb13 hY12; have cA13 := rowCells hA13; have cX13 := rowCells hX13; have cB13 := rowCells hB13; have cY13 := rowCells hY13; have rdy13 := rdy12.keep hb13; have hb113 := hb112.trans (hb13.mono hb112.size)))
  have r13 := h'.keep hb113
  have hs13 := hb113.size
  clear hA11 hB11 hX11 hY11 cA11 cB11 cX11 cY11 cA12 cX12 hA12 hX12
  go_wp2_with (fail)
  go_region_held3 (fun w' => (∀ j, w'.cell? ⟨w.heap.size + 1, j, none⟩ = #[Value.slice a' ls'.length cap'][j]?) ∧ (∀ j, w'.cell? ⟨w9.heap.size, j, none⟩ = #[Value.slice a9 ls'.length c9][j]?)) (first | go_keep | (exact ⟨cB14, cY14⟩) | exact ⟨cB15, cY15⟩)
    (first
    | (go_at_call 17; refine (toTrack_any (RdI.keep r13 (belowDrew _ 1)) (by omega)).mono ?_; rintro e w14 ⟨v14, rfl, wr14, hb14⟩; have hB14 := keepHeap hb14 hB13; have hY14 := keepHeap hb14 hY13; have cB14 := rowCells hB14; have cY14 := rowCells hY14; have rd14 := wr14.rd; obtain ⟨a14, c14, rfl, -⟩ := id rd14; have rdy14 := (RdI.keep rdy13 (belowDrew _ 1)).keep hb14; have hb114 := (hb113.trans ((belowDrew w13 1).mono hs13)).trans (hb14.mono (by simp; omega)))
    | (go_at_call 19; refine (eqTrack_same rdy14 rd14 (by omega)).mono ?_; rintro e w15 ⟨rfl, hb15⟩; have hB15 := keepHeap hb15 hB14; have hY15 := keepHeap hb15 hY14; have cB15 := rowCells hB15; have cY15 := rowCells hY15; have hb115 := hb114.trans (hb15.mono hb114.size)))
  go_wp2_with (fail)
  go_ret
  exact ⟨rfl, hb115⟩
end Go.Proofs.Ytbimlnffjhckcaa
