/-
  The law on ParseLevel. Condition: internal/bytealg.MaxLen's cell holds some int.
-/
import Derived.Test.YthnjfafeiichgaaDoorParseL
import Derived.Test.YthnjfafeiichgaaDoorMarkL
namespace Go.Proofs.YthnjfafeiichgaaDoor
open Go.RowKit
set_option linter.all false
theorem cellKeep {w w' : World} {a : Addr} {m : Int} (hb : Below w.heap.size w w') (h : w.cell? a = some (.int .i64 m)) : w'.cell? a = some (.int .i64 m) := (hb.cell (World.block_lt_of_cell? w _ h)).trans h
set_option maxHeartbeats 4000000 in
theorem lawParseLevel (s : ByteArray) (hs : s.size ≤ maxLen) (w : World) (hm : ∃ m, w.cell? ⟨0, 0, none⟩ = some (.int .i64 m)) :
    Calls Tryd.prog 10 #[.string s] w fun e w' => e = .returned (.bool true) ∧ Below w.heap.size w w' := by
  obtain ⟨m, hm⟩ := hm
  obtain ⟨l, rfl⟩ : ∃ l : List UInt8, s = ⟨l.toArray⟩ := ⟨s.data.toList, rfl⟩
  have hs' : l.length ≤ 9223372036854775807 := hs
  have hsz : (ByteArray.mk l.toArray).size = l.length := by simp [ByteArray.size]
  clear hs
  by_cases h : 1048576 < l.length
  · go_enter Tryd.func10, Tryd.ntmps10
    go_wp2_with (fail)
    go_ret
    exact ⟨rfl, Below.refl _ _⟩
  · have h' : l.length ≤ 1048576 := by omega
    clear h
    have hlen : (if levelB (cutS l) then cutS l else []).length ≤ 1048577 := by
      have h1 := splt_len l [] []
      unfold cutS; split
      · simp at h1; omega
      · simp
    have P1 := fun W => parseLevel_spec l W h'
    have P2 := fun W m hm => parseLevel_impl l W h' m hm
    unfold ParsePost at P1 P2
    generalize (if levelB (cutS l) then cutS l else []) = ls at hlen P1 P2
    generalize levelB (cutS l) = ok at P1 P2
    go_enter Tryd.func10, Tryd.ntmps10
    go_wp2_with (fail)
    refine (P1 _).mono ?_
    rintro e w1 ⟨v0, rfl, o0, hb1⟩
    obtain ⟨a0, c0, rfl, -⟩ := id o0
    obtain ⟨W1, hW1, hA1, hb1'⟩ : ∃ W1, w1.alloc (.cells #[.slice a0 ls.length c0] 26) = W1 ∧ W1.heap[w1.heap.size]? = some (.cells #[.slice a0 ls.length c0] 26 (0, 0)) ∧ Below w1.heap.size w1 W1 := ⟨_, rfl, heap_alloc_new w1 _, below1 _ _⟩
    have hs1 := hb1.size
    have b01 := hb1.trans (hb1'.mono hs1)
    have r0 := o0.rd.keep hb1'
    have hm1 := cellKeep b01 hm
    have z01 := b01.size
    go_wp2_with (fail)
    clear hW1
    refine (P2 _ m hm1).mono ?_
    rintro e w2 ⟨v1, rfl, o1, hb2⟩
    obtain ⟨a1, c1, rfl, -⟩ := id o1
    obtain ⟨W2, hW2, hB2, hb2'⟩ : ∃ W2, w2.alloc (.cells #[.slice a1 ls.length c1] 26) = W2 ∧ W2.heap[w2.heap.size]? = some (.cells #[.slice a1 ls.length c1] 26 (0, 0)) ∧ Below w2.heap.size w2 W2 := ⟨_, rfl, heap_alloc_new w2 _, below1 _ _⟩
    have hlow := o1.low
    have hs2 := hb2.size
    have zz2 := hb2'.size
    have b12 := hb2.trans (hb2'.mono hs2)
    have b02 := b01.trans (b12.mono z01)
    have hA2 := keepHeap b12 hA1
    have cA2 := rowCells hA2
    have cB2 := rowCells hB2
    have r02 := r0.keep b12
    have wr1 := o1.keep hb2'
    go_wp2_with (fail)
    clear hW2
    refine (eqLevel_same wr1.rd r02 (by omega)).mono ?_
    rintro e w3 ⟨rfl, hb3⟩
    have b13 := b12.trans (hb3.mono b12.size)
    have b03 := b01.trans (b13.mono z01)
    have hA3 := keepHeap hb3 hA2
    have hB3 := keepHeap hb3 hB2
    have cB3 := rowCells hB3
    have wr3 := wr1.keep hb3
    have r03 := r02.keep hb3
    have zz3 := hb3.size
    have z13 := b13.size
    have hsT : w2.heap.size ≤ w3.heap.size := by omega
    have hltB : w2.heap.size < w3.heap.size := (Array.getElem?_eq_some_iff.1 hB3).1
    have hltA : w1.heap.size < W1.heap.size := (Array.getElem?_eq_some_iff.1 hA1).1
    clear cA2 cB2 r02 wr1 hA1 hB2 o0 o1
    have r0W := r0
    clear r0
    cases ok
    all_goals
      go_wp2_with (fail)
      refine (markLevel_far wr3 hlow hsT z13 (by omega) 1 (by omega) (by omega)).mono ?_
      rintro e w4 ⟨rfl, m4, hb4, hf4⟩
      have b14 := b13.trans hb4
      have b04 := b01.trans (b14.mono z01)
      have hA4 : w4.heap[w1.heap.size]? = some (.cells #[.slice a0 ls.length c0] 26 (0, 0)) := heapUp hb4 hltA hA3
      have hB4 := (hf4 w2.heap.size (Nat.le_refl _) hltB).trans hB3
      have cB4 := rowCells hB4
      have e4 : ((1 + ls.length : Nat) : Int) = 1 + (ls.length : Int) := by omega
      have hlen4 : (ls.length : Int) ≤ 1048577 := by omega
      have H4 := heldLevel_any ls.length 1 m4.rd (by omega) (by omega) (by omega)
      go_wp2_with (fail)
      refine H4.mono ?_
      rintro e w5 ⟨rfl, hb5⟩
      have m5 := m4.keep hb5
      have z14 := b14.size
      have b15 := b14.trans (hb5.mono z14)
      have b05 := b01.trans (b15.mono z01)
      have hA5 := keepHeap hb5 hA4
      have hB5 := keepHeap hb5 hB4
      have r05 := (r0W.keep b15)
      have hm5 := cellKeep b05 hm
      have z05 := b05.size
      go_wp2_with (fail)
      refine (P2 _ m hm5).mono ?_
      rintro e w6 ⟨v2, rfl, o2, hb6⟩
      obtain ⟨a2, c2, rfl, -⟩ := id o2
      obtain ⟨W6, hW6, hC6, hb6'⟩ : ∃ W6, w6.alloc (.cells #[.slice a2 ls.length c2] 26) = W6 ∧ W6.heap[w6.heap.size]? = some (.cells #[.slice a2 ls.length c2] 26 (0, 0)) ∧ Below w6.heap.size w6 W6 := ⟨_, rfl, heap_alloc_new w6 _, below1 _ _⟩
      have z6 := hb6.size
      have b56 := hb6.trans (hb6'.mono z6)
      have b06 := b05.trans (b56.mono z05)
      have hA6 := keepHeap b56 hA5
      have hB6 := keepHeap b56 hB5
      have cA6 := rowCells hA6
      have cB6 := rowCells hB6
      have cC6 := rowCells hC6
      have r06 := r05.keep b56
      have r26 := o2.rd.keep hb6'
      have m6 := m5.keep b56
      clear cB4
      go_wp2_with (fail)
      clear hW6
      refine (eqLevel_same r26 r06 (by omega)).mono ?_
      rintro e w7 ⟨rfl, hb7⟩
      have z06 := b06.size
      have b07 := b06.trans (hb7.mono z06)
      have m7 := m6.keep hb7
      have cB7 := rowCells (keepHeap hb7 hB6)
      have H7 := heldLevel_any ls.length 1 m7.rd (by omega) (by omega) (by omega)
      clear cA6 cB6 cC6
      go_wp2_with (fail)
      refine H7.mono ?_
      rintro e w8 ⟨rfl, hb8⟩
      have b08 := b07.trans (hb8.mono b07.size)
      go_wp2_with (fail)
      go_ret
      exact ⟨rfl, b08⟩
end Go.Proofs.YthnjfafeiichgaaDoor
