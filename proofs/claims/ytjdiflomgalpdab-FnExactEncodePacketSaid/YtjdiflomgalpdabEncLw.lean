/-
  The law on EncodePacket. No condition.
-/
import Derived.Test.YtjdiflomgalpdabEnc
import Derived.BigQuiet
namespace Go.Proofs.Ytjdiflomgalpdab
open Go.RowKit
set_option linter.all false
set_option maxRecDepth 100000 in
set_option maxHeartbeats 4000000 in
theorem lawEncodePacket {w : World} (p : Pk) (vi va : Value) (h : RdP w p vi va) (hs : p.sane) :
    Calls Try.prog 3 #[.agg (pkC p vi va)] w fun e w' => e = .returned (.bool true) ∧ Below w.heap.size w w' := by
  obtain ⟨ai, ci, rfl, -⟩ := id h.1
  obtain ⟨aa, ca, rfl, -⟩ := id h.2
  obtain ⟨W1, hW, hA1, hb1, -⟩ := rows1 w #[.int .i64 p.fr, .int .i64 p.tick, .int .i64 p.first, (.slice ai p.ins.length ci), (.slice aa p.acks.length ca), .int .i64 p.sumTick, .int .i64 p.sum, .int .i64 p.time, .int .i64 p.echo] 24
  have cA1 := rowCells hA1
  have r1 := h.keep hb1
  unfold pkC
  go_enter Try.func3, Try.ntmps3
  go_wp2_with (fail)
  try rw [hW]
  clear hW
  refine (szPacket_any r1 hs 1048576 (by omega) (by omega)).mono ?_
  rintro e w2 ⟨r, rfl, hr, hb2⟩
  have hs1 := hb1.size
  have hb12 := hb1.trans (hb2.mono hs1)
  have hA2 := keepHeap hb2 hA1
  have cA2 := rowCells hA2
  have r2 := h.keep hb12
  clear r1 cA1 hA1 hb1 hb2 hs1
  rcases hr with rfl | ⟨hr0, hr1⟩
  · go_wp2_with (fail)
    go_ret
    exact ⟨rfl, hb12⟩
  · have zr : decide (r < 0) = false := by simpa using hr0
    have hn : p.few := ⟨by omega, by omega⟩
    clear hr1
    go_wp2_with (fail)
    refine (toPacket_any r2 hn).mono ?_
    rintro e w3 ⟨vi3, va3, rfl, oi3, -, oa3, -, hb3⟩
    have hs2 := hb12.size
    have hb13 := hb12.trans (hb3.mono hs2)
    have hA3 := keepHeap hb3 hA2
    have rd3 : RdP w3 p vi3 va3 := ⟨oi3.rd, oa3.rd⟩
    obtain ⟨ai3, ci3, rfl, -⟩ := id rd3.1
    obtain ⟨aa3, ca3, rfl, -⟩ := id rd3.2
    clear cA2 hA2 r2 hb12 hb3 hs2 oi3 oa3
    unfold pkC
    go_wp2_with (fail)
    refine (encodePacket_spec rd3 hn).mono ?_
    rintro e w4 ⟨rfl, hb4⟩
    have hs3 := hb13.size
    have hb14 := hb13.trans (hb4.mono hs3)
    have hA4 := keepHeap hb4 hA3
    have cA4 := rowCells hA4
    have r4 := h.keep hb14
    clear hb13 hb4 hs3 hA3 rd3
    go_wp2_with (fail)
    refine (toPacket_any r4 hn).mono ?_
    rintro e w5 ⟨vi5, va5, rfl, oi5, hc5, oa5, -, hb5⟩
    have hs4 := hb14.size
    have hb15 := hb14.trans (hb5.mono hs4)
    have hA5 := keepHeap hb5 hA4
    have rd5 : RdP w5 p vi5 va5 := ⟨oi5.rd, oa5.rd⟩
    obtain ⟨ai5, ci5, rfl, -⟩ := id rd5.1
    obtain ⟨aa5, ca5, rfl, -⟩ := id rd5.2
    clear hb14 hb5 hs4 hA4 cA4 r4 oi5 oa5
    have hs5 := hb15.size
    unfold pkC
    obtain ⟨W6, hW6, hA6, hX6, hb6, hb16⟩ : ∃ W6, w5.alloc (.cells #[.int .i64 p.fr, .int .i64 p.tick, .int .i64 p.first, (.slice ai5 p.ins.length ci5), (.slice aa5 p.acks.length ca5), .int .i64 p.sumTick, .int .i64 p.sum, .int .i64 p.time, .int .i64 p.echo] 27) = W6 ∧ W6.heap[w.heap.size]? = some (.cells #[.int .i64 p.fr, .int .i64 p.tick, .int .i64 p.first, (.slice ai p.ins.length ci), (.slice aa p.acks.length ca), .int .i64 p.sumTick, .int .i64 p.sum, .int .i64 p.time, .int .i64 p.echo] 24 (0, 0)) ∧ W6.heap[w5.heap.size]? = some (.cells #[.int .i64 p.fr, .int .i64 p.tick, .int .i64 p.first, (.slice ai5 p.ins.length ci5), (.slice aa5 p.acks.length ca5), .int .i64 p.sumTick, .int .i64 p.sum, .int .i64 p.time, .int .i64 p.echo] 27 (0, 0)) ∧ Below w5.heap.size w5 W6 ∧ Below w.heap.size w W6 :=
      ⟨_, rfl, keepHeap (below1 _ _) hA5, heap_alloc_new _ _, below1 _ _, hb15.trans ((below1 _ _).mono hs5)⟩
    have cX6 := rowCells hX6
    have rd6 := rd5.keep hb6
    go_wp2_with (fail)
    try rw [hW6]
    clear hW6
    refine (encodePacket_impl rd6 hn hc5).mono ?_
    rintro e w7 ⟨rfl, hb7⟩
    have hs6 := hb16.size
    have hb17 := hb16.trans (hb7.mono hs6)
    have hA7 := keepHeap hb7 hA6
    have hX7 := keepHeap hb7 hX6
    have rd7 := rd6.keep hb7
    have r7 := h.keep hb17
    have cA7 := rowCells hA7
    have cX7 := rowCells hX7
    have hs7 := hb17.size
    have hxlt : w5.heap.size < w7.heap.size := (Array.getElem?_eq_some_iff.1 hX7).1
    clear hb15 hb6 hb16 hb7 hs5 hs6 hA5 hA6 hX6 cX6 rd5 rd6
    go_wp2_with (fail)
    go_region_held3 (fun w' => (∀ j, w'.cell? ⟨w.heap.size, j, none⟩ = #[Value.int .i64 p.fr, .int .i64 p.tick, .int .i64 p.first, (.slice ai p.ins.length ci), (.slice aa p.acks.length ca), .int .i64 p.sumTick, .int .i64 p.sum, .int .i64 p.time, .int .i64 p.echo][j]?) ∧ (∀ j, w'.cell? ⟨w5.heap.size, j, none⟩ = #[Value.int .i64 p.fr, .int .i64 p.tick, .int .i64 p.first, (.slice ai5 p.ins.length ci5), (.slice aa5 p.acks.length ca5), .int .i64 p.sumTick, .int .i64 p.sum, .int .i64 p.time, .int .i64 p.echo][j]?)) (first | go_keep | (exact ⟨cA8, cX8⟩) | exact ⟨cA9, cX9⟩)
      (first
      | (go_at_call 8; refine (toPacket_any (RdP.keep r7 (belowDrew _ 1)) hn).mono ?_; rintro e w8 ⟨vi8, va8, rfl, oi8, -, oa8, -, hb8⟩; have hA8 := keepHeap hb8 hA7; have hX8 := keepHeap hb8 hX7; have cA8 := rowCells hA8; have cX8 := rowCells hX8; have rd8 : RdP w8 p vi8 va8 := ⟨oi8.rd, oa8.rd⟩; obtain ⟨ai8, ci8, rfl, -⟩ := id rd8.1; obtain ⟨aa8, ca8, rfl, -⟩ := id rd8.2; have rdx8 := (RdP.keep rd7 (belowDrew _ 1)).keep hb8; have hb18 := (hb17.trans ((belowDrew w7 1).mono hs7)).trans (hb8.mono (by simp; omega)); unfold pkC)
      | (go_at_call 10; refine (eqPacket_same rdx8 rd8 hn).mono ?_; rintro e w9 ⟨rfl, hb9⟩; have hA9 := keepHeap hb9 hA8; have hX9 := keepHeap hb9 hX8; have cA9 := rowCells hA9; have cX9 := rowCells hX9; have hb19 := hb18.trans (hb9.mono (by have := hb8.size; simp at this; omega))))
    go_wp2_with (fail)
    go_ret
    exact ⟨rfl, hb19⟩
end Go.Proofs.Ytjdiflomgalpdab
