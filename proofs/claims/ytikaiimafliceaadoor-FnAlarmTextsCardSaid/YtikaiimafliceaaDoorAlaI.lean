/-
  ParseAlarm of the program. Texts of at most 2^20 bytes; strconv's table and errors as they stand; internal/bytealg.MaxLen holds some int.
-/
import Derived.Test.YtikaiimafliceaaDoorAlaS
import Derived.Test.YtikaiimafliceaaDoorShelf
import Derived.Test.YtikaiimafliceaaDoorLaidT
import Derived.Lib.IndexMore
namespace Go.Proofs.YtikaiimafliceaaDoor
open Go.RowKit
set_option linter.all false
theorem index_some {l : List UInt8} : ∀ {k : Nat} (hk : k < l.length), l[k].toNat = 58 → (∀ j (hj : j < l.length), j < k → l[j].toNat ≠ 58) → Lib.indexByte l 58 = (k : Int) := by
  induction l with
  | nil => intro k hk; simp at hk
  | cons c l ih =>
    intro k hk h hall
    rw [Lib.indexByte]
    cases k with
    | zero =>
      have : c = 58 := by rw [← UInt8.toNat_inj]; exact h
      rw [if_pos (by simp [this])]; rfl
    | succ k =>
      have hc : c ≠ 58 := fun e => hall 0 (by simp) (by omega) (by rw [List.getElem_cons_zero, e]; rfl)
      have := ih (k := k) (by simpa using hk) (by simpa using h) (fun j hj hl => by have := hall (j + 1) (by simpa using hj) (by omega); rwa [List.getElem_cons_succ] at this)
      rw [if_neg (by simpa using hc), this, if_neg (by simp)]
      simp
theorem index_none {l : List UInt8} : (∀ j (hj : j < l.length), l[j].toNat ≠ 58) → Lib.indexByte l 58 = -1 := by
  induction l with
  | nil => intro _; rfl
  | cons c l ih =>
    intro hall
    have hc : c ≠ 58 := fun e => hall 0 (by simp) (by rw [List.getElem_cons_zero, e]; rfl)
    have := ih (fun j hj => by have := hall (j + 1) (by simpa using hj); rwa [List.getElem_cons_succ] at this)
    rw [Lib.indexByte, if_neg (by simpa using hc), this]; rfl
theorem colonA_no {l : List UInt8} (h : colonA l = none) : ∀ j (hj : j < l.length), l[j].toNat ≠ 58 := by
  intro j hj e
  unfold colonA at h
  rw [List.find?_range_eq_none] at h
  have := h j hj
  simp [hj, e] at this
theorem cut_some {l : List UInt8} {k : Nat} (h : colonA l = some k) : Lib.cut l [58] = (l.take k, l.drop (k + 1), true) := by
  obtain ⟨hk, h1, h2⟩ := colonA_of h
  unfold Lib.cut
  rw [Lib.index_one, index_some hk h1 h2, if_pos (by omega), Int.toNat_natCast]; rfl
theorem cut_none {l : List UInt8} (h : colonA l = none) : Lib.cut l [58] = (l, [], false) := by
  unfold Lib.cut
  rw [Lib.index_one, index_none (colonA_no h), if_neg (by omega)]
/-- The pieces that strings.Split lays. -/
theorem splitA_wr (l : List UInt8) (w : World) : WrS (w.alloc (.cells ((Lib.splitB ⟨#[44]⟩ 0 (Lib.countB ⟨l.toArray⟩ ⟨#[44]⟩) ⟨l.toArray⟩).map Value.string).toArray 9)) w.heap.size (.slice (some ⟨w.heap.size, 0, none⟩) (Lib.countB ⟨l.toArray⟩ ⟨#[44]⟩ + 1) (Lib.countB ⟨l.toArray⟩ ⟨#[44]⟩ + 1)) (cutA l) := by
  have hd := Lib.splitB_data ⟨#[44]⟩ 0 (Lib.countB ⟨l.toArray⟩ ⟨#[44]⟩) ⟨l.toArray⟩
  have hc : Lib.splitK [44] 0 (Lib.count l [44]) l = cutA l := (cutA_split l).symm
  have hd2 : (Lib.splitB ⟨#[44]⟩ 0 (Lib.countB ⟨l.toArray⟩ ⟨#[44]⟩) ⟨l.toArray⟩).map (·.data.toList) = cutA l := by rw [hd]; exact hc
  have hln := Lib.splitB_all ⟨#[44]⟩ (by decide) 0 _ ⟨l.toArray⟩ rfl
  have hlen : (cutA l).length = Lib.countB ⟨l.toArray⟩ ⟨#[44]⟩ + 1 := by rw [← hd2, List.length_map]; exact hln
  rw [← hlen]
  generalize hX : Lib.splitB ⟨#[44]⟩ 0 (Lib.countB ⟨l.toArray⟩ ⟨#[44]⟩) ⟨l.toArray⟩ = X at hd2
  refine ⟨_, _, rfl, .inr ⟨w.heap.size, Nat.le_refl _, rfl, fun j hj => ?_, fun j _ => ?_⟩⟩
  · rw [World.cell?_alloc_mark]
    have hj2 : j < X.length := by rw [← hd2, List.length_map] at hj; exact hj
    have e : (cutA l)[j] = X[j].data.toList := by simp only [← hd2, List.getElem_map]
    rw [e]
    simp [hj2]
  · rw [World.frozen?_alloc_mark]; simp
/-- strings.Split at commas: rows of the call's own. -/
def SplitP (l : List UInt8) (w : World) (e : Ending) (w' : World) : Prop := ∃ v, e = .returned v ∧ WrS w' w.heap.size v (cutA l) ∧ Below w.heap.size w w'
theorem splitA_any (l : List UInt8) (w : World) (hs : l.length ≤ 1048576) (m : Int) (hm : w.cell? ⟨0, 0, none⟩ = some (.int .i64 m)) : Calls Tryd.prog 20 #[.string ⟨l.toArray⟩, .string ⟨#[44]⟩] w (SplitP l w) := by
  have hsz : (ByteArray.mk l.toArray).size = l.length := by simp [ByteArray.size]
  refine (Tryd.strings_Split ⟨l.toArray⟩ ⟨#[44]⟩ m w (by rw [hsz]; omega) hm (by decide)).mono ?_
  rintro e w' ⟨rfl, rfl⟩
  exact ⟨_, rfl, splitA_wr l w, below1 _ _⟩
set_option maxRecDepth 100000 in
set_option maxHeartbeats 4000000 in
theorem parseAlarm_impl (l : List UInt8) (w : World) (hs : l.length ≤ 1048576) (ht : Tab w) (he : Errs w) (m : Int) (hm : w.cell? ⟨0, 0, none⟩ = some (.int .i64 m)) :
    Calls Tryd.prog 8 #[.string ⟨l.toArray⟩] w (AlPost l w) := by
  have hsz : (ByteArray.mk l.toArray).size = l.length := by simp [ByteArray.size]
  obtain ⟨W0, hW, hA, hB0, hS0⟩ := rows1 w #[.int .i64 0, .slice none 0 0] 27
  have hcell : ∀ {W : World}, Below w.heap.size w W → W.cell? ⟨0, 0, none⟩ = some (.int .i64 m) := fun hb => (hb.cell (p := ⟨0, 0, none⟩) (World.block_lt_of_cell? w _ hm)).trans hm
  have hCut := fun {W : World} (hb : Below w.heap.size w W) => Tryd.strings_Cut ⟨l.toArray⟩ ⟨#[58]⟩ m W (by rw [hsz]; omega) (hcell hb)
  have hSpl := fun {W : World} (hb : Below w.heap.size w W) (x : List UInt8) (hx : x.length ≤ 1048576) => splitA_any x W hx m (hcell hb)
  have hPu := fun {W : World} (hb : Below w.heap.size w W) (x : List UInt8) (hx : x.length ≤ 1048576) => parseUint_impl x W hx (ht.below hb) (he.below hb)
  have ecut : ∀ q, Lib.cut l [58] = q → ∀ {W : World}, Below w.heap.size w W → Calls Tryd.prog 18 #[.string ⟨l.toArray⟩, .string ⟨#[58]⟩] W fun e w' => e = .returned (.tuple #[.string ⟨q.1.toArray⟩, .string ⟨q.2.1.toArray⟩, .bool q.2.2]) ∧ ∃ n, w' = W.drewN n := fun q hq W hb => by
    subst hq; exact hCut hb
  clear hCut hm hcell ht he
  cases hcol : colonA l with
  | none =>
    have hC := fun {W : World} (hb : Below w.heap.size w W) => ecut _ (cut_none hcol) hb
    have HF := Lib.hid (alT_no (alarmP_none hcol))
    have hP := fun {W : World} (hb : Below w.heap.size w W) => hPu hb l hs
    dsimp only at hC
    obtain ⟨o, ho⟩ : ∃ o, o = puL l := ⟨_, rfl⟩
    simp only [← ho] at hP
    clear hcol ecut hPu hSpl ho
    go_enter Tryd.func8, Tryd.ntmps8
    go_wp2_with (fail)
    try rw [hW]
    clear hW
    refine (hC hB0).mono ?_
    rintro e w1 ⟨rfl, n1, rfl⟩
    have hb1 := below_drewN hB0 n1
    have hA1 : (W0.drewN n1).heap[w.heap.size]? = some (.cells #[.int .i64 0, .slice none 0 0] 27 (0, 0)) := hA
    generalize W0.drewN n1 = W1 at *
    go_wp2_with (fail)
    refine (hP hb1).mono ?_
    rintro e w2 ⟨rfl, hb2⟩
    have hb02 := hb1.trans (hb2.mono hb1.size)
    have hA2 := keepHeap hb2 hA1
    have cA2 := rowCells hA2
    have fA2 := fun j => frozenHeap hA2 j
    cases o with
    | none =>
      rw [retPu_none]
      go_wp2_with (fail)
      refine bodyPost_ret (v := .tuple #[.agg #[.int .i64 0, .slice none 0 0], .bool false]) (results_two rfl _ _ _ _ _ rfl rfl (loadAl (boxAl_heap hA2 rfl 0 (.slice none 0 0)) rfl)) rfl ⟨.slice none 0 0, ?_, ?_, boxAl_below hb02 (Nat.le_refl _) 0 (.slice none 0 0)⟩
      · rw [HF.out.1, HF.out.2.2]; rfl
      · rw [HF.out.2.1]; exact (OwnS.nil _ _).wr
    | some q =>
      rw [retPu_some]
      go_wp2_with (fail)
      refine bodyPost_ret (v := .tuple #[.agg #[.int .i64 0, .slice none 0 0], .bool false]) (results_two rfl _ _ _ _ _ rfl rfl (loadAl (boxAl_heap hA2 rfl 0 (.slice none 0 0)) rfl)) rfl ⟨.slice none 0 0, ?_, ?_, boxAl_below hb02 (Nat.le_refl _) 0 (.slice none 0 0)⟩
      · rw [HF.out.1, HF.out.2.2]; rfl
      · rw [HF.out.2.1]; exact (OwnS.nil _ _).wr
  | some k =>
    have hC := fun {W : World} (hb : Below w.heap.size w W) => ecut _ (cut_some hcol) hb
    dsimp only at hC
    have hul : (l.take k).length ≤ 1048576 := by rw [List.length_take]; omega
    have hrl : (l.drop (k + 1)).length ≤ 1048576 := by rw [List.length_drop]; omega
    have hbad : puL (l.take k) = none → alarmP l = none := fun h => alarmP_bad hcol h
    have hok : ∀ n, puL (l.take k) = some n → alarmP l = some (n, partsA (l.drop (k + 1))) := fun n h => alarmP_ok hcol h
    obtain ⟨u, hu⟩ : ∃ u, u = l.take k := ⟨_, rfl⟩
    obtain ⟨r, hr⟩ : ∃ r, r = l.drop (k + 1) := ⟨_, rfl⟩
    rw [← hu] at hul hbad
    rw [← hr] at hrl
    simp only [← hu, ← hr] at hC hok
    have hP := fun {W : World} (hb : Below w.heap.size w W) => hPu hb u hul
    have hS := fun {W : World} (hb : Below w.heap.size w W) => hSpl hb r hrl
    have HB := Lib.hid hbad
    have HO := Lib.hid hok
    clear hcol ecut hPu hSpl hu hr hbad hok hul
    go_enter Tryd.func8, Tryd.ntmps8
    go_wp2_with (fail)
    try rw [hW]
    clear hW
    refine (hC hB0).mono ?_
    rintro e w1 ⟨rfl, n1, rfl⟩
    have hb1 := below_drewN hB0 n1
    have hA1 : (W0.drewN n1).heap[w.heap.size]? = some (.cells #[.int .i64 0, .slice none 0 0] 27 (0, 0)) := hA
    generalize W0.drewN n1 = W1 at *
    go_wp2_with (fail)
    refine (hP hb1).mono ?_
    rintro e w2 ⟨rfl, hb2⟩
    have hb02 := hb1.trans (hb2.mono hb1.size)
    have hA2 := keepHeap hb2 hA1
    have cA2 := rowCells hA2
    have fA2 := fun j => frozenHeap hA2 j
    clear hC hP hA hA1 hb1 hb2
    cases hp : puL u with
    | none =>
      have HF := Lib.hid (alT_no (HB.out hp))
      rw [retPu_none]
      clear hp
      go_wp2_with (fail)
      refine bodyPost_ret (v := .tuple #[.agg #[.int .i64 0, .slice none 0 0], .bool false]) (results_two rfl _ _ _ _ _ rfl rfl (loadAl (boxAl_heap hA2 rfl 0 (.slice none 0 0)) rfl)) rfl ⟨.slice none 0 0, ?_, ?_, boxAl_below hb02 (Nat.le_refl _) 0 (.slice none 0 0)⟩
      · rw [HF.out.1, HF.out.2.2]; rfl
      · rw [HF.out.2.1]; exact (OwnS.nil _ _).wr
    | some q =>
      have HF := Lib.hid (alT_yes (HO.out q hp))
      rw [retPu_some]
      clear hp HB HO
      obtain ⟨W3, hW3, hG, hb3⟩ : ∃ W, w2.alloc (.cells #[.int .i64 (q : Int), .slice none 0 0] 27) = W ∧ W.heap[w2.heap.size]? = some (.cells #[.int .i64 (q : Int), .slice none 0 0] 27 (0, 0)) ∧ Below w2.heap.size w2 W := ⟨_, rfl, heap_alloc_new _ _, below1 _ _⟩
      have HW3 := Lib.hid hW3
      have hA3 := keepHeap hb3 hA2
      have hb03 := hb02.trans (hb3.mono hb02.size)
      have hwq : w.heap.size < w2.heap.size := (Array.getElem?_eq_some_iff.1 hA2).1
      have hs3 : W3.heap.size = w2.heap.size + 1 := by rw [← hW3]; simp
      have HS3 := Lib.hid hs3
      clear hW3 hs3
      by_cases hr0 : r = []
      · subst hr0
        go_upto_region 8 with (fail)
        rw [HW3.out]
        have cG := rowCells hG
        have cA3 := rowCells hA3
        have fA3 := fun j => frozenHeap hA3 j
        go_wp2_with (fail)
        refine bodyPost_ret (v := .tuple #[.agg #[.int .i64 (q : Int), .slice none 0 0], .bool true]) (results_two rfl _ _ _ _ _ rfl rfl (loadAl (boxAl_heap hA3 rfl (q : Int) (.slice none 0 0)) rfl)) rfl ⟨.slice none 0 0, ?_, ?_, boxAl_below hb03 (Nat.le_refl _) (q : Int) (.slice none 0 0)⟩
        · rw [HF.out.1, HF.out.2.2]; rfl
        · rw [HF.out.2.1]; exact (OwnS.nil _ _).wr
      · have hne : r.isEmpty = false := by cases r with | nil => exact absurd rfl hr0 | cons _ _ => rfl
        have hPt : partsA r = cutA r := by unfold partsA; rw [if_neg hr0]
        rw [hPt] at HF
        clear hPt hr0
        go_upto_region 7 with (fail)
        rw [HW3.out]
        clear HW3
        go_wp2_with (fail)
        refine (hS hb03).mono ?_
        rintro e w4 ⟨v4, rfl, wr4, hb4⟩
        have hb04 := hb03.trans (hb4.mono hb03.size)
        have hA4 := keepHeap hb4 hA3
        have hG4 := keepHeap hb4 hG
        have cA4 := rowCells hA4
        have cG4 := rowCells hG4
        have fA4 := fun j => frozenHeap hA4 j
        have fG4 := fun j => frozenHeap hG4 j
        obtain ⟨a4, c4, rfl, -⟩ := id wr4
        go_upto_region 8 with (fail)
        have hG5 := setHAl (k := 1) (v := .slice a4 (cutA r).length c4) hG4
        have hA5 := farHeap (p := ⟨w2.heap.size, 1, none⟩) hA4 (by show w.heap.size ≠ w2.heap.size; omega) (.slice a4 (cutA r).length c4)
        have hb05 := hb04.setCell (p := ⟨w2.heap.size, 1, none⟩) (by show w.heap.size ≤ w2.heap.size; omega) (.slice a4 (cutA r).length c4)
        have wr5 := wr4.far (p := ⟨w2.heap.size, 1, none⟩) (by show w2.heap.size < W3.heap.size; have := HS3.out; omega) (.slice a4 (cutA r).length c4)
        generalize (w4.setCell ⟨w2.heap.size, 1, none⟩ (.slice a4 (cutA r).length c4)) = W5 at *
        have cG5 := rowCells hG5
        have cA5 := rowCells hA5
        have fA5 := fun j => frozenHeap hA5 j
        clear cA4 cG4 fA4 fG4
        go_wp2_with (fail)
        have wr6 := (wr5.far (p := ⟨w.heap.size, 0, none⟩) (by show w.heap.size < W3.heap.size; have := HS3.out; omega) (.int .i64 (q : Int))).far (p := ⟨w.heap.size, 1, none⟩) (by show w.heap.size < W3.heap.size; have := HS3.out; omega) (.slice a4 (cutA r).length c4)
        refine bodyPost_ret (v := .tuple #[.agg #[.int .i64 (q : Int), .slice a4 (cutA r).length c4], .bool true]) (results_two rfl _ _ _ _ _ rfl rfl (loadAl (boxAl_heap hA5 rfl (q : Int) (.slice a4 (cutA r).length c4)) rfl)) rfl ⟨.slice a4 (cutA r).length c4, ?_, ?_, boxAl_below hb05 (Nat.le_refl _) (q : Int) (.slice a4 (cutA r).length c4)⟩
        · rw [HF.out.1, HF.out.2.2]; rfl
        · rw [HF.out.2.1]; exact wr6.up (by have := HS3.out; omega)
end Go.Proofs.YtikaiimafliceaaDoor
