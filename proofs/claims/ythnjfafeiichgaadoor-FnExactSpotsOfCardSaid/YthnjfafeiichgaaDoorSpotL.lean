/-
  The law on SpotsOf. No condition.
-/
import Derived.Test.YthnjfafeiichgaaDoorSpotI
import Derived.Test.YthnjfafeiichgaaDoorMarkP
import Derived.Test.YthnjfafeiichgaaDoorMarkL
import Derived.Test.YthnjfafeiichgaaDoorLvLaw
namespace Go.Proofs.YthnjfafeiichgaaDoor
open Go.RowKit
set_option linter.all false
theorem spR_len (r : Nat) (l : List UInt8) : ∀ c, (spR r l c).length ≤ l.length := by
  induction l with
  | nil => intro c; simp [spR]
  | cons a l ih => intro c; rw [spR]; split <;> simp <;> have := ih (c + 1) <;> omega
theorem spL_len (L : Rowz) : ∀ r, (∀ row ∈ L, row.length ≤ 20) → (spL L r).length ≤ 20 * L.length := by
  induction L with
  | nil => intro r _; simp [spL]
  | cons row L ih =>
    intro r h
    rw [spL, List.length_append]
    have h1 := spR_len r row 0
    have h2 := h row (by simp)
    have h3 := ih (r + 1) (fun x hx => h x (by simp [hx]))
    simp; omega
theorem spotsP_len (L : Rowz) : (spotsP L).length ≤ 240 := by
  unfold spotsP
  split
  · rename_i hl
    have hg : Good L := levelB_facts hl
    have := spL_len L 0 (fun row hr => by have := hg.2.2.2.2 row hr; have := hg.2.2.2.1; omega)
    have := hg.2.1
    omega
  · simp
theorem OwnP.stay {w w' : World} {B : Nat} {v : Value} {ps : Pairs} (h : OwnP w B v ps) (hs : w.heap.size ≤ w'.heap.size) (hk : ∀ j, B ≤ j → j < w.heap.size → w'.heap[j]? = w.heap[j]?) : OwnP w' B v ps := by
  obtain ⟨bs, hi, ho⟩ := h
  refine ⟨bs, hi.keep hs fun b hb => hk b (hi.2.2.1 b hb).1 (hi.2.2.1 b hb).2, ?_⟩
  obtain ⟨h1, h2⟩ := ho
  refine ⟨h1, ?_⟩
  rcases h2 with h2 | ⟨g, cap, cur, rfl, hB, hg, r⟩
  · exact .inl h2
  · exact .inr ⟨g, cap, cur, rfl, hB, by rw [hk g hB (Array.getElem?_eq_some_iff.1 hg).1]; exact hg, r⟩
set_option maxHeartbeats 4000000 in
theorem lawSpotsOf (v : Value) (ls : Rowz) (w : World) (h : RdS w v ls) (hs : Sane ls) :
    Calls Tryd.prog 12 #[.agg #[v]] w fun e w' => e = .returned (.bool true) ∧ Below w.heap.size w w' := by
  have hlen := spotsP_len ls
  have P1 := fun W (v : Value) (hr : RdS W v ls) => spotsOf_spec hr hs
  have P2 := fun W (v : Value) (hr : RdS W v ls) => spotsOf_impl hr hs
  unfold RetP at P1 P2
  generalize spotsP ls = ps at hlen P1 P2
  obtain ⟨a, cap, rfl, -⟩ := id h
  obtain ⟨W1, hW, hA1, hb1⟩ : ∃ W1, w.alloc (.cells #[.slice a ls.length cap] 58) = W1 ∧ W1.heap[w.heap.size]? = some (.cells #[.slice a ls.length cap] 58 (0, 0)) ∧ Below w.heap.size w W1 := ⟨_, rfl, heap_alloc_new w _, below1 _ _⟩
  have cA1 := rowCells hA1
  have r1 := h.keep hb1
  go_enter Tryd.func12, Tryd.ntmps12
  go_wp2_with (fail)
  clear hW
  refine (szLevel_any r1 hs 1048576 (by omega) (by omega)).mono ?_
  rintro e w2 ⟨r, rfl, hr, hb2⟩
  have hs1 := hb1.size
  have hb12 := hb1.trans (hb2.mono hs1)
  have hA2 := keepHeap hb2 hA1
  have cA2 := rowCells hA2
  have r2 := h.keep hb12
  clear r1 cA1 hA1 hb1 hb2 hs1
  rcases hr with rfl | ⟨hr0, hr1⟩
  · go_wp2_with (fail)
    go_ret
    exact ⟨rfl, hb12⟩
  · have zr : decide (r < 0) = false := by simpa using hr0
    obtain ⟨hn, -⟩ := Sane.small hr0 hr1
    clear hr1
    go_wp2_with (fail)
    refine (toLevel_any r2 (by omega)).mono ?_
    rintro e w3 ⟨v3, rfl, wr3, hb3⟩
    have hs2 := hb12.size
    have hb13 := hb12.trans (hb3.mono hs2)
    have hA3 := keepHeap hb3 hA2
    have rd3 := wr3.rd
    obtain ⟨a3, c3, rfl, -⟩ := id rd3
    clear cA2 hA2 r2 hb12 hb3 hs2 wr3
    go_wp2_with (fail)
    refine (P1 _ _ rd3).mono ?_
    rintro e w4 ⟨v0, rfl, o4, hb4⟩
    have hs3 := hb13.size
    have hb14 := hb13.trans (hb4.mono hs3)
    have hA4 := keepHeap hb4 hA3
    have cA4 := rowCells hA4
    have halt : w.heap.size < w4.heap.size := (Array.getElem?_eq_some_iff.1 hA4).1
    have r4 := h.keep hb14
    clear hb13 hb4 hs3 hA3 rd3
    go_wp2_with (fail)
    refine (toLevel_any r4 (by omega)).mono ?_
    rintro e w5 ⟨v5, rfl, wr5, hb5⟩
    have hs4 := hb14.size
    have hb15 := hb14.trans (hb5.mono hs4)
    have hA5 := keepHeap hb5 hA4
    have rd5 := wr5.rd
    have low5 := wr5.low
    obtain ⟨a5, c5, rfl, -⟩ := id rd5
    clear hb14 hA4 cA4 r4
    have hs5 := hb15.size
    have hz5 := hb5.size
    obtain ⟨W6, hW6, hA6, hX6, hb6, hb16⟩ : ∃ W6, w5.alloc (.cells #[.slice a5 ls.length c5] 26) = W6 ∧ W6.heap[w.heap.size]? = some (.cells #[.slice a ls.length cap] 58 (0, 0)) ∧ W6.heap[w5.heap.size]? = some (.cells #[.slice a5 ls.length c5] 26 (0, 0)) ∧ Below w5.heap.size w5 W6 ∧ Below w.heap.size w W6 :=
      ⟨_, rfl, keepHeap (below1 _ _) hA5, heap_alloc_new _ _, below1 _ _, hb15.trans ((below1 _ _).mono hs5)⟩
    have cX6 := rowCells hX6
    have rd6 := rd5.keep hb6
    have b46 := hb5.trans (hb6.mono hz5)
    have wr6 := wr5.keep hb6
    have hxl : w5.heap.size < W6.heap.size := (Array.getElem?_eq_some_iff.1 hX6).1
    go_wp2_with (fail)
    clear hW6
    refine (P2 _ _ rd6).mono ?_
    rintro e w7 ⟨v1, rfl, o7, hb7⟩
    have hs6 := hb16.size
    have z46 := b46.size
    have hb17 := hb16.trans (hb7.mono hs6)
    have b47 := b46.trans (hb7.mono z46)
    have hA7 := keepHeap hb7 hA6
    have hX7 := keepHeap hb7 hX6
    have o47 := o4.of_below b47 (Nat.le_refl _)
    have wr7 := wr6.keep hb7
    clear hb15 hb5 hb6 hb16 hA5 hA6 hX6 cX6 rd5 rd6 wr5 wr6
    have z67 := hb7.size
    go_wp2_with (fail)
    refine (eqIntSS_same o7 o47 (by omega)).mono ?_
    rintro e w8 ⟨rfl, hb8⟩
    have z47 := b47.size
    have hs7 := hb17.size
    have hb18 := hb17.trans (hb8.mono hs7)
    have b48 := b47.trans (hb8.mono z47)
    have hA8 := keepHeap hb8 hA7
    have hX8 := keepHeap hb8 hX7
    have cA8 := rowCells hA8
    have cX8 := rowCells hX8
    have wr8 := wr7.keep hb8
    have rd8 := wr8.rd
    have r8 := h.keep hb18
    have o8 := o7.of_below hb8 (Nat.le_refl _)
    have hs8 := hb18.size
    have z78 := hb8.size
    have hxlt : w5.heap.size < w8.heap.size := (Array.getElem?_eq_some_iff.1 hX8).1
    clear hb17 hA7 hX7 wr7 o47 b47
    go_wp2_with (fail)
    go_region_held3 (fun w' => (∀ j, w'.cell? ⟨w.heap.size, j, none⟩ = #[Value.slice a ls.length cap][j]?) ∧ (∀ j, w'.cell? ⟨w5.heap.size, j, none⟩ = #[Value.slice a5 ls.length c5][j]?)) (first | go_keep | (exact ⟨cA9, cX9⟩) | exact ⟨cA10, cX10⟩)
      (first
      | (go_at_call 37; refine (toLevel_any (RdS.keep r8 (belowDrew _ 1)) (by omega)).mono ?_; rintro e w9 ⟨v9, rfl, wr9, hb9⟩; have hA9 := keepHeap hb9 hA8; have hX9 := keepHeap hb9 hX8; have cA9 := rowCells hA9; have cX9 := rowCells hX9; have rd9 := wr9.rd; obtain ⟨a9, c9, rfl, -⟩ := id rd9; have rdx9 := (RdS.keep rd8 (belowDrew _ 1)).keep hb9; have b89 : Below w8.heap.size w8 w9 := (belowDrew w8 1).trans (hb9.mono (by simp)))
      | (go_at_call 38; refine (eqLevel_same rdx9 rd9 (by omega)).mono ?_; rintro e w10 ⟨rfl, hb10⟩; have hA10 := keepHeap hb10 hA9; have hX10 := keepHeap hb10 hX9; have cA10 := rowCells hA10; have cX10 := rowCells hX10; have b810 := b89.trans (hb10.mono b89.size)))
    have z810 := b810.size
    have b410 := b48.trans (b810.mono b48.size)
    have hb110 := hb18.trans (b810.mono hs8)
    have o10 := o8.of_below b810 (Nat.le_refl _)
    have wr10 := wr8.keep b810
    have z410 := b410.size
    have hxlt10 : w5.heap.size < w10.heap.size := by omega
    clear cA8 cX8 cA9 cX9 hA8 hX8 hA9 hX9 rd8 r8 rd9 rdx9 wr9 wr8 b89 hb9 hb10 hb18 b48 o8
    go_wp2_with (fail)
    refine (markLevel_far wr10 low5 (by omega) z410 (by omega) 1 (by omega) (by omega)).mono ?_
    rintro e w11 ⟨rfl, m11, hb11, hf11⟩
    have z1011 := hb11.size
    have hA11 := heapUp2 hb11 halt hA10
    have o11 := o10.stay z1011 (fun j hj1 hj2 => hf11 j (by omega) hj2)
    have b411 := b410.trans hb11
    have o411 := o4.of_below b411 (Nat.le_refl _)
    have hb111 := hb110.trans (hb11.mono hs4)
    have zm : decide (1 + (ls.length : Int) < 0) = false := decide_eq_false (by omega)
    have em : ((1 + ls.length : Nat) : Int) = 1 + (ls.length : Int) := by omega
    clear cA10 cX10 hf11 m11 hX10 hA10 o10 b410 hb110 b810 hb11 wr10
    go_wp2_with (fail)
    refine (eqIntSS_same o11 o411 (by omega)).mono ?_
    rintro e w12 ⟨rfl, hb12'⟩
    have z411 := b411.size
    have hA12 := keepHeap hb12' hA11
    have o12 := o11.of_below hb12' (Nat.le_refl _)
    have b412 := b411.trans (hb12'.mono z411)
    have hb112 := hb111.trans (hb12'.mono hb111.size)
    clear o11 o411 hA11 b411 hb111
    have hM := markIntSS_any o12 (by omega) 1 (by omega) (by omega)
    clear o12
    go_wp2_with (fail)
    refine hM.mono ?_
    rintro e w13 ⟨rfl, o13, hb13'⟩
    have hA13 := heapUp2 hb13' (by omega) hA12
    have cA13 := rowCells hA13
    have b413 := b412.trans (hb13'.mono z46)
    have hb113 := hb112.trans (hb13'.mono hs6)
    have r13 := h.keep hb113
    have hH := heldIntSS_any ps.length 1 o13 (by omega) (by omega) (by omega)
    have zh : decide (1 + 2 * (ps.length : Int) < 0) = false := decide_eq_false (by omega)
    have hpl : (ps.length : Int) ≤ 240 := by omega
    clear hM hA12 b412 hb112
    go_wp2_with (fail)
    refine hH.mono ?_
    rintro e w13' ⟨rfl, rfl⟩
    go_wp2_with (fail)
    refine (toLevel_any r13 (by omega)).mono ?_
    rintro e w14 ⟨v14, rfl, wr14, hb14'⟩
    have b414 := b413.trans (hb14'.mono b413.size)
    have hb114 := hb113.trans (hb14'.mono hb113.size)
    have o14 := o13.of_below hb14' (Nat.le_refl _)
    have rd14 := wr14.rd
    obtain ⟨a14, c14, rfl, -⟩ := id rd14
    clear cA13 hA13 r13 wr14 b413 hb113 hH o13
    go_wp2_with (fail)
    refine (P2 _ _ rd14).mono ?_
    rintro e w15 ⟨v15, rfl, o15, hb15'⟩
    have b415 := b414.trans (hb15'.mono b414.size)
    have hb115 := hb114.trans (hb15'.mono hb114.size)
    have o415 := o4.of_below b415 (Nat.le_refl _)
    have oM15 := o14.of_below hb15' (Nat.le_refl _)
    clear o14 rd14
    go_wp2_with (fail)
    refine (eqIntSS_same o15 o415 (by omega)).mono ?_
    rintro e w16 ⟨rfl, hb16'⟩
    have hH := heldIntSS_any ps.length 1 (oM15.of_below hb16' (Nat.le_refl _)) (by omega) (by omega) (by omega)
    have hb116 := hb115.trans (hb16'.mono hb115.size)
    clear o15 o415 oM15 b415 b414
    go_wp2_with (fail)
    refine hH.mono ?_
    rintro e w17 ⟨rfl, rfl⟩
    go_wp2_with (fail)
    go_ret
    exact ⟨rfl, hb116⟩
end Go.Proofs.YthnjfafeiichgaaDoor
