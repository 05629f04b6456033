/-
  The laws on FormatAlarm and ParseAlarm. Condition: the listed tables hold what they hold; internal/bytealg.MaxLen's cell holds some int.
-/
import Derived.Test.YtikaiimafliceaaDoorAlaI
import Derived.Test.YtikaiimafliceaaDoorAlaF
namespace Go.Proofs.YtikaiimafliceaaDoor
open Go.RowKit
set_option linter.all false
theorem cellKeep {w w' : World} {a : Addr} {m : Int} (hb : Below w.heap.size w w') (h : w.cell? a = some (.int .i64 m)) : w'.cell? a = some (.int .i64 m) := (hb.cell (World.block_lt_of_cell? w _ h)).trans h
set_option maxHeartbeats 4000000 in
theorem lawFormatAlarm {w : World} (t : Int) (v : Value) (ls : List (List UInt8)) (wt : (Lit.int .i64 t).wf = true) (h : RdS w v ls) (hs : Sane ls) (hL : laidMetH Tryd.prog Rows.fnExactFormatAlarmRow.laid w) :
    Calls Tryd.prog 4 #[.agg (alC t v)] w fun e w' => e = .returned (.bool true) ∧ Below w.heap.size w w' := by
  have hb : -9223372036854775808 ≤ t ∧ t ≤ 9223372036854775807 := by
    have h := wt
    simp only [Lit.wf, Bool.and_eq_true, decide_eq_true_eq] at h
    exact ⟨h.1, h.2⟩
  obtain ⟨h0, h1⟩ := hb
  rw [MakeChecks.laidMetH_plain _ _ _ (by kernel_rfl)] at hL
  have hT0 : laidMet Tryd.prog [("math/bits.deBruijn32tab", Rows.laid_math_bits_deBruijn32tab), ("math/bits.deBruijn64tab", Rows.laid_math_bits_deBruijn64tab), ("internal/strconv.uint64pow10", Rows.laid_internal_strconv_uint64pow10)] w := hL
  have hT := Tab.mk hT0.tail.tail
  clear hT0 hL wt
  obtain ⟨a, cap, rfl, -⟩ := id h
  unfold alC
  obtain ⟨W1, hW, hA1, hb1⟩ : ∃ W1, w.alloc (.cells #[.int .i64 t, .slice a ls.length cap] 32) = W1 ∧ W1.heap[w.heap.size]? = some (.cells #[.int .i64 t, .slice a ls.length cap] 32 (0, 0)) ∧ Below w.heap.size w W1 := ⟨_, rfl, heap_alloc_new w _, below1 _ _⟩
  have cA1 := rowCells hA1
  have r1 := h.keep hb1
  go_enter Tryd.func4, Tryd.ntmps4
  go_wp2_with (fail)
  try rw [hW]
  clear hW
  refine (szAlarm_any (t := t) r1 hs 1048576 (by omega) (by omega)).mono ?_
  rintro e w2 ⟨r, rfl, hr, hb2⟩
  have hs1 := hb1.size
  have hb12 := hb1.trans (hb2.mono hs1)
  have hA2 := keepHeap hb2 hA1
  have cA2 := rowCells hA2
  have r2 := h.keep hb12
  clear r1 cA1 hA1 hb1 hb2 hs1
  rcases hr with rfl | ⟨hr0, hr1⟩
  · go_wp2_with (fail)
    go_ret
    exact ⟨rfl, hb12⟩
  have zr : decide (r < 0) = false := by simpa using hr0
  have hn : ls.length ≤ 1048576 := by omega
  have htot : totalS ls ≤ 1048576 := by omega
  have hn2 : ls.length ≤ 1099511627776 := by omega
  clear hr1
  have hFS := fun {W : World} {v : Value} (h : RdS W v ls) => formatAlarm_spec (t := t) h hn htot h0 h1
  have hFI := fun {W : World} {v : Value} (hb : Below w.heap.size w W) (h : RdS W v ls) (hc : CapOk v) => formatAlarm_impl (t := t) h hn htot hc h0 h1 (hT.below hb)
  generalize fmtA t ls = F at hFS hFI
  unfold alC at hFS hFI
  clear hT
  go_wp2_with (fail)
  refine (toAlarm_any (t := t) r2 hn2).mono ?_
  rintro e w3 ⟨v3, rfl, wr3, hb3, -⟩
  have hs2 := hb12.size
  have hb13 := hb12.trans (hb3.mono hs2)
  have hA3 := keepHeap hb3 hA2
  have rd3 := wr3.rd
  obtain ⟨a3, c3, rfl, -⟩ := id rd3
  unfold alC
  clear cA2 hA2 r2 hb12 hb3 hs2 wr3
  go_wp2_with (fail)
  refine (hFS rd3).mono ?_
  rintro e w4 ⟨rfl, hb4⟩
  have hs3 := hb13.size
  have hb14 := hb13.trans (hb4.mono hs3)
  have hA4 := keepHeap hb4 hA3
  have cA4 := rowCells hA4
  have r4 := h.keep hb14
  clear hb13 hb4 hs3 hA3 rd3
  go_wp2_with (fail)
  refine (toAlarm_any (t := t) r4 hn2).mono ?_
  rintro e w5 ⟨v5, rfl, wr5, hb5, cp5⟩
  have hs4 := hb14.size
  have hb15 := hb14.trans (hb5.mono hs4)
  have hA5 := keepHeap hb5 hA4
  have rd5 := wr5.rd
  obtain ⟨a5, c5, rfl, -⟩ := id rd5
  unfold alC
  clear hb14 hb5 hs4 hA4 cA4 r4 wr5
  have hs5 := hb15.size
  obtain ⟨W6, hW6, hA6, hX6, hb6, hb16⟩ : ∃ W6, w5.alloc (.cells #[.int .i64 t, .slice a5 ls.length c5] 27) = W6 ∧ W6.heap[w.heap.size]? = some (.cells #[.int .i64 t, .slice a ls.length cap] 32 (0, 0)) ∧ W6.heap[w5.heap.size]? = some (.cells #[.int .i64 t, .slice a5 ls.length c5] 27 (0, 0)) ∧ Below w5.heap.size w5 W6 ∧ Below w.heap.size w W6 :=
    ⟨_, rfl, keepHeap (below1 _ _) hA5, heap_alloc_new _ _, below1 _ _, hb15.trans ((below1 _ _).mono hs5)⟩
  have cX6 := rowCells hX6
  have rd6 := rd5.keep hb6
  go_wp2_with (fail)
  try rw [hW6]
  clear hW6
  refine (hFI hb16 rd6 cp5).mono ?_
  rintro e w7 ⟨rfl, hb7⟩
  have hs6 := hb16.size
  have hb17 := hb16.trans (hb7.mono hs6)
  have hA7 := keepHeap hb7 hA6
  have hX7 := keepHeap hb7 hX6
  have rd7 := rd6.keep hb7
  have r7 := h.keep hb17
  have cA7 := rowCells hA7
  have cX7 := rowCells hX7
  have hs7 := hb17.size
  have hxlt : w5.heap.size < w7.heap.size := (Array.getElem?_eq_some_iff.1 hX7).1
  clear hb15 hb6 hb16 hb7 hs5 hs6 hA5 hA6 hX6 cX6 rd5 rd6
  go_wp2_with (fail)
  go_region_held3 (fun w' => (∀ j, w'.cell? ⟨w.heap.size, j, none⟩ = #[Value.int .i64 t, Value.slice a ls.length cap][j]?) ∧ (∀ j, w'.cell? ⟨w5.heap.size, j, none⟩ = #[Value.int .i64 t, Value.slice a5 ls.length c5][j]?)) (first | go_keep | (exact ⟨cA8, cX8⟩) | exact ⟨cA9, cX9⟩)
    (first
    | (go_at_call 13; refine (toAlarm_any (t := t) (RdS.keep r7 (belowDrew _ 1)) hn2).mono ?_; rintro e w8 ⟨v8, rfl, wr8, hb8, -⟩; have hA8 := keepHeap hb8 hA7; have hX8 := keepHeap hb8 hX7; have cA8 := rowCells hA8; have cX8 := rowCells hX8; have rd8 := wr8.rd; obtain ⟨a8, c8, rfl, -⟩ := id rd8; have rdx8 := (RdS.keep rd7 (belowDrew _ 1)).keep hb8; have hb18 := (hb17.trans ((belowDrew w7 1).mono hs7)).trans (hb8.mono (by simp; omega)); unfold alC)
    | (go_at_call 14; refine (eqAlarm_same (t := t) rdx8 rd8 hn2).mono ?_; rintro e w9 ⟨rfl, hb9⟩; have hA9 := keepHeap hb9 hA8; have hX9 := keepHeap hb9 hX8; have cA9 := rowCells hA9; have cX9 := rowCells hX9; have hb19 := hb18.trans (hb9.mono (by have := hb8.size; simp at this; omega))))
  go_wp2_with (fail)
  go_ret
  exact ⟨rfl, hb19⟩
set_option maxHeartbeats 4000000 in
theorem lawParseAlarm (s : ByteArray) (hs : s.size ≤ maxLen) (w : World) (hL : laidMetH Tryd.prog Rows.fnExactParseAlarmRow.laid w) (hm : ∃ m, w.cell? ⟨0, 0, none⟩ = some (.int .i64 m)) :
    Calls Tryd.prog 5 #[.string s] w fun e w' => e = .returned (.bool true) ∧ Below w.heap.size w w' := by
  obtain ⟨m, hm⟩ := hm
  rw [MakeChecks.laidMetH_plain _ _ _ (by kernel_rfl)] at hL
  have hT0 : laidMet Tryd.prog [("math/bits.deBruijn32tab", Rows.laid_math_bits_deBruijn32tab), ("math/bits.deBruijn64tab", Rows.laid_math_bits_deBruijn64tab), ("internal/strconv.uint64pow10", Rows.laid_internal_strconv_uint64pow10), ("unicode/utf8.acceptRanges", Rows.laid_unicode_utf8_acceptRanges), ("strconv.ErrRange", Rows.laid_strconv_ErrRange), ("strconv.ErrSyntax", Rows.laid_strconv_ErrSyntax), ("unicode/utf8.first", Rows.laid_unicode_utf8_first)] w := hL
  have hT := Tab.mk hT0.tail.tail
  have hE := Errs.mk hT0.tail.tail.tail.tail
  clear hT0 hL
  obtain ⟨l, rfl⟩ : ∃ l : List UInt8, s = ⟨l.toArray⟩ := ⟨s.data.toList, rfl⟩
  have hs' : l.length ≤ 9223372036854775807 := hs
  have hsz : (ByteArray.mk l.toArray).size = l.length := by simp [ByteArray.size]
  clear hs
  by_cases h : 1048576 < l.length
  · go_enter Tryd.func5, Tryd.ntmps5
    go_wp2_with (fail)
    go_ret
    exact ⟨rfl, Below.refl _ _⟩
  · have h' : l.length ≤ 1048576 := by omega
    clear h
    have hlen : (alP l).length ≤ 1048577 := by
      unfold alP alarmP
      cases colonA l with
      | none => simp
      | some k =>
        dsimp only
        cases puL (l.take k) with
        | none => simp
        | some n =>
          dsimp only
          unfold partsA
          split
          · simp
          · have h1 := spltA_len (l.drop (k + 1)) [] []
            unfold cutA
            simp at h1 ⊢; omega
    have P1 := fun W => parseAlarm_spec l W h'
    have P2 := fun {W : World} (hb : Below w.heap.size w W) => parseAlarm_impl l W h' (hT.below hb) (hE.below hb) m (cellKeep hb hm)
    unfold AlPost alC at P1 P2
    generalize alP l = ls at hlen P1 P2
    generalize alT l = T at P1 P2
    generalize (alarmP l).isSome = ok at P1 P2
    clear hT hE
    go_enter Tryd.func5, Tryd.ntmps5
    go_wp2_with (fail)
    refine (P1 _).mono ?_
    rintro e w1 ⟨v0, rfl, o0, hb1⟩
    obtain ⟨a0, c0, rfl, -⟩ := id o0
    obtain ⟨W1, hW1, hA1, hb1'⟩ : ∃ W1, w1.alloc (.cells #[.int .i64 T, .slice a0 ls.length c0] 27) = W1 ∧ W1.heap[w1.heap.size]? = some (.cells #[.int .i64 T, .slice a0 ls.length c0] 27 (0, 0)) ∧ Below w1.heap.size w1 W1 := ⟨_, rfl, heap_alloc_new w1 _, below1 _ _⟩
    have hs1 := hb1.size
    have b01 := hb1.trans (hb1'.mono hs1)
    have r0 := o0.rd.keep hb1'
    have z01 := b01.size
    go_wp2_with (fail)
    clear hW1
    refine (P2 b01).mono ?_
    rintro e w2 ⟨v1, rfl, o1, hb2⟩
    obtain ⟨a1, c1, rfl, -⟩ := id o1
    obtain ⟨W2, hW2, hB2, hb2'⟩ : ∃ W2, w2.alloc (.cells #[.int .i64 T, .slice a1 ls.length c1] 27) = W2 ∧ W2.heap[w2.heap.size]? = some (.cells #[.int .i64 T, .slice a1 ls.length c1] 27 (0, 0)) ∧ Below w2.heap.size w2 W2 := ⟨_, rfl, heap_alloc_new w2 _, below1 _ _⟩
    have hlow := o1.low
    have hs2 := hb2.size
    have zz2 := hb2'.size
    have b12 := hb2.trans (hb2'.mono hs2)
    have b02 := b01.trans (b12.mono z01)
    have hA2 := keepHeap b12 hA1
    have cA2 := rowCells hA2
    have cB2 := rowCells hB2
    have r02 := r0.keep b12
    have wr1 := o1.keep hb2'
    go_wp2_with (fail)
    clear hW2
    refine (eqAlarm_same (t := T) wr1.rd r02 (by omega)).mono ?_
    rintro e w3 ⟨rfl, hb3⟩
    have b13 := b12.trans (hb3.mono b12.size)
    have b03 := b01.trans (b13.mono z01)
    have hA3 := keepHeap hb3 hA2
    have hB3 := keepHeap hb3 hB2
    have cB3 := rowCells hB3
    have wr3 := wr1.keep hb3
    have r03 := r02.keep hb3
    have zz3 := hb3.size
    have z13 := b13.size
    have hsT : w2.heap.size ≤ w3.heap.size := by omega
    have hltB : w2.heap.size < w3.heap.size := (Array.getElem?_eq_some_iff.1 hB3).1
    have hltA : w1.heap.size < W1.heap.size := (Array.getElem?_eq_some_iff.1 hA1).1
    clear cA2 cB2 r02 wr1 hA1 hB2 o0 o1
    have r0W := r0
    clear r0
    cases ok
    all_goals
      go_wp2_with (fail)
      refine (markAlarm_far (t := T) wr3 hlow hsT z13 (by omega) 1 (by omega) (by omega)).mono ?_
      rintro e w4 ⟨rfl, m4, hb4, hf4⟩
      have b14 := b13.trans hb4
      have b04 := b01.trans (b14.mono z01)
      have hA4 : w4.heap[w1.heap.size]? = some (.cells #[.int .i64 T, .slice a0 ls.length c0] 27 (0, 0)) := heapUp hb4 hltA hA3
      have hB4 := (hf4 w2.heap.size (Nat.le_refl _) hltB).trans hB3
      have cB4 := rowCells hB4
      have e4 : ((1 + ls.length : Nat) : Int) = 1 + (ls.length : Int) := by omega
      have hlen4 : (ls.length : Int) ≤ 1048577 := by omega
      have H4 := heldAlarm_any (t := T) ls.length 1 m4.rd (by omega) (by omega) (by omega)
      go_wp2_with (fail)
      refine H4.mono ?_
      rintro e w5 ⟨rfl, hb5⟩
      have m5 := m4.keep hb5
      have z14 := b14.size
      have b15 := b14.trans (hb5.mono z14)
      have b05 := b01.trans (b15.mono z01)
      have hA5 := keepHeap hb5 hA4
      have hB5 := keepHeap hb5 hB4
      have r05 := (r0W.keep b15)
      have z05 := b05.size
      go_wp2_with (fail)
      refine (P2 b05).mono ?_
      rintro e w6 ⟨v2, rfl, o2, hb6⟩
      obtain ⟨a2, c2, rfl, -⟩ := id o2
      obtain ⟨W6, hW6, hC6, hb6'⟩ : ∃ W6, w6.alloc (.cells #[.int .i64 T, .slice a2 ls.length c2] 27) = W6 ∧ W6.heap[w6.heap.size]? = some (.cells #[.int .i64 T, .slice a2 ls.length c2] 27 (0, 0)) ∧ Below w6.heap.size w6 W6 := ⟨_, rfl, heap_alloc_new w6 _, below1 _ _⟩
      have z6 := hb6.size
      have b56 := hb6.trans (hb6'.mono z6)
      have b06 := b05.trans (b56.mono z05)
      have hA6 := keepHeap b56 hA5
      have hB6 := keepHeap b56 hB5
      have cA6 := rowCells hA6
      have cB6 := rowCells hB6
      have cC6 := rowCells hC6
      have r06 := r05.keep b56
      have r26 := o2.rd.keep hb6'
      have m6 := m5.keep b56
      clear cB4
      go_wp2_with (fail)
      clear hW6
      refine (eqAlarm_same (t := T) r26 r06 (by omega)).mono ?_
      rintro e w7 ⟨rfl, hb7⟩
      have z06 := b06.size
      have b07 := b06.trans (hb7.mono z06)
      have m7 := m6.keep hb7
      have cB7 := rowCells (keepHeap hb7 hB6)
      have H7 := heldAlarm_any (t := T) ls.length 1 m7.rd (by omega) (by omega) (by omega)
      clear cA6 cB6 cC6
      go_wp2_with (fail)
      refine H7.mono ?_
      rintro e w8 ⟨rfl, hb8⟩
      have b08 := b07.trans (hb8.mono b07.size)
      go_wp2_with (fail)
      go_ret
      exact ⟨rfl, b08⟩
end Go.Proofs.YtikaiimafliceaaDoor
