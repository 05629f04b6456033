/-
  Copies of wires; TickWire of the program and of the model. Lists of at most 2^20.
-/
import Derived.Test.YteafgghpkohfpabWok
import Derived.Test.YteafgghpkohfpabMkF
import Derived.Test.YteafgghpkohfpabFlg
namespace Go.Proofs.Yteafgghpkohfpab
open Go.RowKit
set_option linter.all false
theorem OwnFlIn.set {w : World} {lo hi : Nat} {v : Value} {X : List Fl} (h : OwnFlIn w lo hi v X) {p : Addr} (hp : p.block < lo ∨ hi ≤ p.block) (u : Value) : OwnFlIn (w.setCell p u) lo hi v X := by
  obtain ⟨a, cap, rfl, h⟩ := h
  refine ⟨a, cap, rfl, ?_⟩
  rcases h with h | ⟨b, h1, h2, rfl, hr⟩
  · exact .inl h
  · exact .inr ⟨b, h1, h2, rfl, hr.far (by omega) u⟩
theorem OwnFlIn.put {w : World} {lo hi : Nat} {v : Value} {X : List Fl} (h : OwnFlIn w lo hi v X) {c : Nat} (hc : c < lo ∨ hi ≤ c) (y : Wi) (u : Value) : OwnFlIn (putWi w c y u) lo hi v X := by
  unfold putWi
  repeat (refine OwnFlIn.set ?_ (by simpa using hc) _)
  exact h
theorem OwnFlIn.own {w : World} {lo hi : Nat} {v : Value} {X : List Fl} (h : OwnFlIn w lo hi v X) : OwnFl w lo v X := by
  obtain ⟨a, cap, rfl, h⟩ := h
  refine ⟨a, cap, rfl, ?_⟩
  rcases h with h | ⟨b, h1, h2, rfl, hr⟩
  · exact .inl h
  · exact .inr ⟨b, h1, rfl, hr⟩
theorem GrowFl.far {w : World} {B : Nat} {v : Value} {X : List Fl} (h : GrowFl w B v X) {p : Addr} (hp : p.block < B) (u : Value) : GrowFl (w.setCell p u) B v X := ownsRow_setCell_below h hp u
theorem GrowFl.put {w : World} {B : Nat} {v : Value} {X : List Fl} (h : GrowFl w B v X) {c : Nat} (hc : c < B) (y : Wi) (u : Value) : GrowFl (putWi w c y u) B v X := by
  unfold putWi
  repeat (refine GrowFl.far ?_ (by simpa using hc) _)
  exact h
theorem GrowFl.low {w : World} {B C : Nat} {v : Value} {X : List Fl} (h : GrowFl w B v X) (hC : C ≤ B) : GrowFl w C v X := by
  refine ⟨h.1, ?_⟩
  rcases h.2 with h | ⟨g, cap, cur, hv, hB, rest⟩
  · exact .inl h
  · exact .inr ⟨g, cap, cur, hv, Nat.le_trans hC hB, rest⟩
/-- A wire whose flights' row is the call's own and may grow. -/
def RetWiG (w : World) (x : Wi) (e : Ending) (w' : World) : Prop := ∃ vf, e = .returned (.agg (wiC x vf)) ∧ GrowFl w' w.heap.size vf x.fls ∧ Below w.heap.size w w'
set_option maxRecDepth 100000 in
set_option maxHeartbeats 2000000 in
theorem copyWire_impl {w : World} {x : Wi} {vf : Value} (h : RdFl w vf x.fls) (hn : x.fls.length ≤ 1048576) :
    Calls Try.prog 62 #[.agg (wiC x vf)] w (RetWiG w x) := by
  have h0 := h
  obtain ⟨al, cl, rfl, -⟩ := id h
  obtain ⟨W0, hW, hA, hR, hB0, hS0⟩ := rows2 w #[.int .i64 x.seed, .int .i64 x.delay, .int .i64 x.jitter, .int .i64 x.loss, .int .i64 x.copies, .int .i64 x.damage, .int .i64 x.now, .slice al x.fls.length cl, .int .i64 x.sent, .int .i64 x.lost] #[.int .i64 0, .int .i64 0, .int .i64 0, .int .i64 0, .int .i64 0, .int .i64 0, .int .i64 0, .slice none 0 0, .int .i64 0, .int .i64 0] 52 52
  have cA := rowCells hA
  unfold wiC
  go_enter Try.func62, Try.ntmps62
  go_wp2_with (fail)
  try rw [hW]
  clear hW
  refine (cloneFl_any (h0.keep hB0) hn).mono ?_
  rintro e w1 ⟨v1, rfl, ho1, hb1⟩
  have hA1 := keepHeap hb1 hA
  have hR1 := keepHeap hb1 hR
  have hb01 := hB0.trans (hb1.mono (by omega))
  have cA1 := rowCells hA1
  have fA1 := fun j => frozenHeap hA1 j
  obtain ⟨a1, c1, rfl, -⟩ := id ho1.own
  clear cA hA hR
  have hA2 := setHf (k := 7) (v := .slice a1 x.fls.length c1) hA1
  have hR2 := farHeap (p := ⟨w.heap.size, 7, none⟩) hR1 (by simp) (.slice a1 x.fls.length c1)
  have hb02 := hb01.setCell (p := ⟨w.heap.size, 7, none⟩) (by simp) (.slice a1 x.fls.length c1)
  have ho2 := ho1.far (p := ⟨w.heap.size, 7, none⟩) (by simp; omega) (.slice a1 x.fls.length c1)
  go_upto_region 2 with (fail)
  obtain ⟨W2, hW2⟩ : ∃ W2, W2 = w1.setCell ⟨w.heap.size, 7, none⟩ (.slice a1 x.fls.length c1) := ⟨_, rfl⟩
  rw [← hW2] at hA2 hR2 hb02 ho2 ⊢
  have hA2 : W2.heap[w.heap.size]? = some (.cells #[.int .i64 x.seed, .int .i64 x.delay, .int .i64 x.jitter, .int .i64 x.loss, .int .i64 x.copies, .int .i64 x.damage, .int .i64 x.now, .slice a1 x.fls.length c1, .int .i64 x.sent, .int .i64 x.lost] 52 (0, 0)) := hA2
  clear hW2 hA1 hR1 hb01 ho1 cA1 fA1
  have cA2 := rowCells hA2
  have cR2 := rowCells hR2
  have fR2 := fun j => frozenHeap hR2 j
  go_wp2_with (fail)
  have hP := putWi_heap hR2 rfl x (.slice a1 x.fls.length c1)
  have hbP := putWi_below hb02 (c := w.heap.size + 1) (by omega) x (.slice a1 x.fls.length c1)
  have hoP := ho2.put (c := w.heap.size + 1) (by omega) x (.slice a1 x.fls.length c1)
  unfold putWi at hP hbP hoP
  refine bodyPost_ret (results_cell_row rfl _ _ (w.heap.size + 1) 52 (wiC x (.slice a1 x.fls.length c1)) (0, 0) ?d ?hp ?hg ?hu ?hd ?hi) rfl ?_
  case hp => rfl
  case hg => exact hP
  case hu => exact Try.underlying52
  case hd => rfl
  case hi => kernel_rfl
  exact ⟨_, rfl, hoP.low (by omega), hbP⟩
set_option maxRecDepth 100000 in
set_option maxHeartbeats 2000000 in
theorem copyWire_spec {w : World} {x : Wi} {vf : Value} (h : RdFl w vf x.fls) (hn : x.fls.length ≤ 1048576) :
    Calls Try.prog 55 #[.agg (wiC x vf)] w (RetWiG w x) := by
  have h0 := h
  obtain ⟨al, cl, rfl, -⟩ := id h
  obtain ⟨W0, hW, hA, hR, hB0, hS0⟩ := rows2 w #[.int .i64 x.seed, .int .i64 x.delay, .int .i64 x.jitter, .int .i64 x.loss, .int .i64 x.copies, .int .i64 x.damage, .int .i64 x.now, .slice al x.fls.length cl, .int .i64 x.sent, .int .i64 x.lost] #[.int .i64 0, .int .i64 0, .int .i64 0, .int .i64 0, .int .i64 0, .int .i64 0, .int .i64 0, .slice none 0 0, .int .i64 0, .int .i64 0] 52 52
  have cA := rowCells hA
  unfold wiC
  obtain ⟨W1, hW1, ho0, hb10⟩ : ∃ W1, W0.alloc (.cells #[] 101) = W1 ∧ GrowFl W1 W0.heap.size (.slice (some ⟨W0.heap.size, 0, none⟩) 0 0) [] ∧ Below W0.heap.size W0 W1 := ⟨_, rfl, GrowFl.made0 _ _ (Nat.le_refl _), below1 _ _⟩
  have hA1 := keepHeap hb10 hA
  have hR1 := keepHeap hb10 hR
  have cA1 := rowCells hA1
  have r1 := h0.keep (hB0.trans (hb10.mono hB0.size))
  have hS1 := hb10.size
  go_enter Try.func55, Try.ntmps55
  go_upto_region 1 with (fail)
  try rw [hW]
  clear hW
  go_upto_region 2 with (first | (at_builtin; (try rw [hW1]); refine app_Fls rfl _ _ rfl W0.heap.size _ [] rfl ho0 _ x.fls rfl r1 (by simp; omega) (by omega) ?_; intro v1 w1 ho1 hb11; have hb1 := hb10.trans hb11; rw [List.nil_append] at ho1; have hA3 := keepHeap hb1 hA; have hR3 := keepHeap hb1 hR; have cA3 := rowCells hA3; have fA3 := fun j => frozenHeap hA3 j; obtain ⟨a1, c1, rfl, -⟩ := id ho1.own; clear hA1 hR1 cA1))
  have hA1 := hA3
  have hR1 := hR3
  have cA1 := cA3
  have fA1 := fA3
  clear hA3 hR3 cA3 fA3
  have hb01 := hB0.trans (hb1.mono (by omega))
  clear cA hA hR
  have hA2 := setHf (k := 7) (v := .slice a1 x.fls.length c1) hA1
  have hR2 := farHeap (p := ⟨w.heap.size, 7, none⟩) hR1 (by simp) (.slice a1 x.fls.length c1)
  have hb02 := hb01.setCell (p := ⟨w.heap.size, 7, none⟩) (by simp) (.slice a1 x.fls.length c1)
  have ho2 := ho1.far (p := ⟨w.heap.size, 7, none⟩) (by simp; omega) (.slice a1 x.fls.length c1)
  obtain ⟨W2, hW2⟩ : ∃ W2, W2 = w1.setCell ⟨w.heap.size, 7, none⟩ (.slice a1 x.fls.length c1) := ⟨_, rfl⟩
  rw [← hW2] at hA2 hR2 hb02 ho2 ⊢
  have hA2 : W2.heap[w.heap.size]? = some (.cells #[.int .i64 x.seed, .int .i64 x.delay, .int .i64 x.jitter, .int .i64 x.loss, .int .i64 x.copies, .int .i64 x.damage, .int .i64 x.now, .slice a1 x.fls.length c1, .int .i64 x.sent, .int .i64 x.lost] 52 (0, 0)) := hA2
  clear hW2 hA1 hR1 hb01 ho1 cA1 fA1
  have cA2 := rowCells hA2
  have cR2 := rowCells hR2
  have fR2 := fun j => frozenHeap hR2 j
  go_wp2_with (fail)
  have hP := putWi_heap hR2 rfl x (.slice a1 x.fls.length c1)
  have hbP := putWi_below hb02 (c := w.heap.size + 1) (by omega) x (.slice a1 x.fls.length c1)
  have hoP := ho2.put (c := w.heap.size + 1) (by omega) x (.slice a1 x.fls.length c1)
  unfold putWi at hP hbP hoP
  refine bodyPost_ret (results_cell_row rfl _ _ (w.heap.size + 1) 52 (wiC x (.slice a1 x.fls.length c1)) (0, 0) ?d ?hp ?hg ?hu ?hd ?hi) rfl ?_
  case hp => rfl
  case hg => exact hP
  case hu => exact Try.underlying52
  case hd => rfl
  case hi => kernel_rfl
  exact ⟨_, rfl, hoP.low (by omega), hbP⟩
end Go.Proofs.Yteafgghpkohfpab
