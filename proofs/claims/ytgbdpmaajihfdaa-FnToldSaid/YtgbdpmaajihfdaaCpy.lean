/-
  Copies of a track: the program's and the model's. Lists of at most 2^40 numbers.
-/
import Derived.Test.YtgbdpmaajihfdaaCln
import Derived.Test.YtgbdpmaajihfdaaTrk
namespace Go.Proofs.Ytgbdpmaajihfdaa
open Go.RowKit
set_option linter.all false
theorem OwnR.far {w : World} {B : Nat} {v : Value} {xs : List Int} (h : OwnR w B v xs) {p : Addr} (hp : p.block < B) (u : Value) : OwnR (w.setCell p u) B v xs := ownsRow_setCell_below h hp u
theorem OwnR.low {w : World} {B C : Nat} {v : Value} {xs : List Int} (h : OwnR w B v xs) (hC : C ≤ B) : OwnR w C v xs := by
  refine ⟨h.1, ?_⟩
  rcases h.2 with h | ⟨g, cap, cur, hv, hB, rest⟩
  · exact .inl h
  · exact .inr ⟨g, cap, cur, hv, Nat.le_trans hC hB, rest⟩
def RetTrK (w : World) (xs : List Int) (e : Ending) (w' : World) : Prop := ∃ v, e = .returned (.agg #[v]) ∧ OwnI w' w.heap.size v xs ∧ CapI v ∧ Below w.heap.size w w'
set_option maxHeartbeats 1000000 in
theorem copyTrack_cap {w : World} {v : Value} {xs : List Int} (h : RdI w v xs) (hn : xs.length ≤ 1099511627776) :
    Calls Try.prog 23 #[.agg #[v]] w (RetTrK w xs) := by
  obtain ⟨a, cap, rfl, h0⟩ := id h
  obtain ⟨W0, hW, hA, hB, hB0, hS0⟩ := rows2 w #[.slice a xs.length cap] #[.slice none 0 0] 29 29
  have cA := rowCells hA
  go_enter Try.func23, Try.ntmps23
  go_wp2_with (fail)
  refine (cloneI_any (h.keep hB0) hn).mono ?_
  rintro e w1 ⟨v1, rfl, hv, hcap, hb1⟩
  have hB1 := keepHeap hb1 hB
  have cB := rowCells hB1
  have fB := frozenHeap hB1 0
  clear cA hW
  obtain ⟨a1, c1, rfl, hv1⟩ := id hv
  go_wp2_with (fail)
  refine bodyPost_ret (results_cell_row rfl _ _ (w.heap.size + 1) 29 #[.slice a1 xs.length c1] (0, 0) ?d ?hp ?hg ?hu ?hd ?hi) rfl ?_
  case hp => rfl
  case hg => exact setHeap hB1
  case hu => exact Try.underlying29
  case hd => rfl
  case hi => kernel_rfl
  have hv2 := hv.far (p := ⟨w.heap.size + 1, 0, none⟩) (by simp; omega) (.slice a1 xs.length c1)
  exact ⟨_, rfl, hv2.up (by omega), hcap, (hB0.trans (hb1.mono (by omega))).setCell (by simp) _⟩
theorem copyTrack_impl {w : World} {v : Value} {xs : List Int} (h : RdI w v xs) (hn : xs.length ≤ 1099511627776) :
    Calls Try.prog 23 #[.agg #[v]] w (RetTr w xs) :=
  (copyTrack_cap h hn).mono fun e w' ⟨u, h1, h2, _, h3⟩ => ⟨u, h1, h2, h3⟩
end Go.Proofs.Ytgbdpmaajihfdaa
