/-
  Copies of a track: the program's and the model's. Lists of at most 2^40 numbers.
-/
import Derived.Test.YtnjjpeblbfomoaaCln
import Derived.Test.YtnjjpeblbfomoaaTrk
namespace Go.Proofs.Ytnjjpeblbfomoaa
open Go.RowKit
set_option linter.all false
theorem OwnR.far {w : World} {B : Nat} {v : Value} {xs : List Int} (h : OwnR w B v xs) {p : Addr} (hp : p.block < B) (u : Value) : OwnR (w.setCell p u) B v xs := ownsRow_setCell_below h hp u
theorem OwnR.low {w : World} {B C : Nat} {v : Value} {xs : List Int} (h : OwnR w B v xs) (hC : C ≤ B) : OwnR w C v xs := by
  refine ⟨h.1, ?_⟩
  rcases h.2 with h | ⟨g, cap, cur, hv, hB, rest⟩
  · exact .inl h
  · exact .inr ⟨g, cap, cur, hv, Nat.le_trans hC hB, rest⟩
set_option maxHeartbeats 1000000 in
theorem copyTrack_impl {w : World} {v : Value} {xs : List Int} (h : RdI w v xs) (hn : xs.length ≤ 1099511627776) :
    Calls Try.prog 55 #[.agg #[v]] w (RetTr w xs) := by
  obtain ⟨a, cap, rfl, h0⟩ := id h
  obtain ⟨W0, hW, hA, hB, hB0, hS0⟩ := rows2 w #[.slice a xs.length cap] #[.slice none 0 0] 26 26
  have cA := rowCells hA
  go_enter Try.func55, Try.ntmps55
  go_wp2_with (fail)
  refine (cloneI_any (h.keep hB0) hn).mono ?_
  rintro e w1 ⟨v1, rfl, hv, -, hb1⟩
  have hB1 := keepHeap hb1 hB
  have cB := rowCells hB1
  have fB := frozenHeap hB1 0
  clear cA hW
  obtain ⟨a1, c1, rfl, hv1⟩ := id hv
  go_wp2_with (fail)
  refine bodyPost_ret (results_cell_row rfl _ _ (w.heap.size + 1) 26 #[.slice a1 xs.length c1] (0, 0) ?d ?hp ?hg ?hu ?hd ?hi) rfl ?_
  case hp => rfl
  case hg => exact setHeap hB1
  case hu => exact Try.underlying26
  case hd => rfl
  case hi => kernel_rfl
  have hv2 := hv.far (p := ⟨w.heap.size + 1, 0, none⟩) (by simp; omega) (.slice a1 xs.length c1)
  exact ⟨_, rfl, hv2.up (by omega), (hB0.trans (hb1.mono (by omega))).setCell (by simp) _⟩
set_option maxHeartbeats 1000000 in
theorem l03Copy_spec {w : World} {v : Value} {xs : List Int} (h : RdI w v xs) (hn : xs.length ≤ 1099511627776) :
    Calls Try.prog 50 #[.agg #[v]] w fun e w' => ∃ u, e = .returned (.agg #[u]) ∧ OwnR w' w.heap.size u xs ∧ Below w.heap.size w w' := by
  obtain ⟨a, cap, rfl, h0⟩ := id h
  obtain ⟨W0, hW, hA, hB, hB0, hS0⟩ := rows2 w #[.slice a xs.length cap] #[.slice none 0 0] 26 26
  have cA := rowCells hA
  have hb1 := hB0.trans ((below1 W0 (.cells #[] 3)).mono (show w.heap.size ≤ W0.heap.size by omega))
  have hk := h.keep hb1
  have hO : OwnR (W0.alloc (.cells #[] 3)) W0.heap.size (.slice (some ⟨W0.heap.size, 0, none⟩) 0 0) [] := OwnR.made W0 #[] W0.heap.size (Nat.le_refl _) (by unfold maxLen; simp)
  have hz := below1 W0 (.cells #[] 3)
  have hB1 := keepHeap hz hB
  have cA1 := rowCells (keepHeap hz hA)
  go_enter Try.func50, Try.ntmps50
  go_wp2_with (at_builtin; refine app_ints rfl _ _ rfl W0.heap.size _ [] rfl hO _ xs rfl hk (by simp; omega) hz.size ?_; intro v' w3 hown' hb3; rw [List.nil_append] at hown'; obtain ⟨a3, c3, rfl, -⟩ := id hown'.own.rd; have hB3 := (hb3.block (w.heap.size + 1) (by omega)).trans hB1; have cB := rowCells hB3; have fB := frozenHeap hB3 0)
  refine bodyPost_ret (results_cell_row rfl _ _ (w.heap.size + 1) 26 #[.slice a3 xs.length c3] (0, 0) ?d ?hp ?hg ?hu ?hd ?hi) rfl ?_
  case hp => rfl
  case hg => exact setHeap hB3
  case hu => exact Try.underlying26
  case hd => rfl
  case hi => kernel_rfl
  exact ⟨_, rfl, (hown'.far (p := ⟨w.heap.size + 1, 0, none⟩) (by simp; omega) (.slice a3 xs.length c3)).low (by omega), (hB0.trans ((hz.trans hb3).mono (by omega))).setCell (by simp) _⟩
end Go.Proofs.Ytnjjpeblbfomoaa
