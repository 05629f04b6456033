/-
  The laws' marks on a track of the call's own, and their test; toTrack with its room; what a mark leaves alone. Lists of at most 2^20 numbers.
-/
import Derived.Test.YtnjjpeblbfomoaaFar
namespace Go.Proofs.Ytnjjpeblbfomoaa
open Go.RowKit
set_option linter.all false
def RetTrC (w : World) (xs : List Int) (e : Ending) (w' : World) : Prop := ∃ v, e = .returned (.agg #[v]) ∧ OwnI w' w.heap.size v xs ∧ CapI v ∧ Below w.heap.size w w'
set_option maxHeartbeats 1000000 in
theorem toTrack_cap {w : World} {v : Value} {xs : List Int} (h : RdI w v xs) (hn : xs.length ≤ 1099511627776) :
    Calls Try.prog 11 #[.agg #[v]] w (RetTrC w xs) := by
  obtain ⟨a, cap, rfl, h0⟩ := id h
  obtain ⟨W0, hW, hA, hB, hC, hB0, hS0⟩ := rows3 w #[.slice a xs.length cap] #[.slice none 0 0] #[.slice none 0 0] 24 26 26
  have cA := rowCells hA
  go_enter Try.func11, Try.ntmps11
  go_wp2_with (fail)
  refine (toIntS_cap (h.keep hB0) hn).mono ?_
  rintro e w1 ⟨v1, rfl, hv, hc1, hb1⟩
  have hB1 := keepHeap hb1 hB
  have hC1 := keepHeap hb1 hC
  have cC := rowCells hC1
  have cB := rowCells hB1
  have fC := frozenHeap hC1 0
  have fB := frozenHeap hB1 0
  clear cA hW
  obtain ⟨a1, c1, rfl, hv1⟩ := id hv
  go_wp2_with (fail)
  refine bodyPost_ret (results_cell_row rfl _ _ (w.heap.size + 1) 26 #[.slice a1 xs.length c1] (0, 0) ?d ?hp ?hg ?hu ?hd ?hi) rfl ?_
  case hp => rfl
  case hg => exact setHeap (farHeap hB1 (by simp) _)
  case hu => exact Try.underlying26
  case hd => rfl
  case hi => kernel_rfl
  have hv2 := (hv.far (p := ⟨w.heap.size + 1 + 1, 0, none⟩) (by simp; omega) (.slice a1 xs.length c1)).far (p := ⟨w.heap.size + 1, 0, none⟩) (by simp; omega) (.slice a1 xs.length c1)
  exact ⟨_, rfl, hv2.up (by omega), hc1, ((hB0.trans (hb1.mono (by omega))).setCell (by simp; omega) _).setCell (by simp) _⟩
theorem markTrack_full {w : World} {lo hi : Nat} {v : Value} {xs : List Int} (h : OwnIn w lo hi v xs) (hlo : lo ≤ w.heap.size) (hn : xs.length ≤ 1048576) (k0 : Int) (h0 : 0 ≤ k0) (h1 : k0 ≤ 1099511627776) :
    Calls Try.prog 16 #[.agg #[v], .int .i64 k0] w fun e w' => e = .returned (.int .i64 (k0 + xs.length)) ∧ OwnIn w' lo hi v (marks k0 xs.length) ∧ FarB lo hi w w' := by
  obtain ⟨a, cap, hv, h0v⟩ := id h
  subst hv
  obtain ⟨W0, hW, hA, hB0, hS0⟩ := rows1 w #[.slice a xs.length cap] 26
  have cA := rowCells hA
  have hs0 := hB0.size
  have hO : OwnIn W0 lo hi (.slice a xs.length cap) xs := h.same fun hx b _ hb2 e => by
    obtain ⟨b', hb1, hb2', ha, hr⟩ := h0v.resolve_left hx
    subst ha
    have : b' = b := by simpa [Value.ownBlock] using e
    subst this
    exact hB0.block b' (hr.lt hx)
  have hm := markIntS_full hO hn k0 h0 h1
  go_enter Try.func16, Try.ntmps16
  go_wp2_with (fail)
  clear hW
  refine hm.mono ?_
  rintro e w1 ⟨rfl, ho1, hb1, hf1⟩
  go_wp2_with (fail)
  go_ret
  refine ⟨rfl, ho1, (hB0.mono hlo).trans hb1, fun j hj hl => ?_⟩
  have hne : xs = [] ∨ some j ≠ (Value.slice a xs.length cap).ownBlock := by
    by_cases hx : xs = []
    · exact .inl hx
    · obtain ⟨b', hb1, hb2', ha, hr⟩ := h0v.resolve_left hx
      subst ha
      right
      intro e
      have : j = b' := by simpa [Value.ownBlock] using e
      omega
  exact (hf1 j hne).trans (hB0.block j hl)
theorem heldTrack_any {w : World} {v : Value} (n : Nat) (k0 : Int) (h : RdI w v (marks k0 n)) (hn : n ≤ 1048576) (h0 : 0 ≤ k0) (h1 : k0 ≤ 1048576) :
    Calls Try.prog 18 #[.agg #[v], .int .i64 k0] w fun e w' => e = .returned (.int .i64 (k0 + n)) ∧ Below w.heap.size w w' := by
  obtain ⟨a, cap, rfl, -⟩ := id h
  rw [marks_len] at h ⊢
  obtain ⟨W0, hW, hA, hB0, hS0⟩ := rows1 w #[.slice a n cap] 26
  have cA := rowCells hA
  have hh := heldIntS_any n k0 (h.keep hB0) (by omega) h0 (by omega)
  have zk : decide (k0 + (n : Int) < 0) = false := by simp; omega
  have hk2 : 0 ≤ k0 + (n : Int) := by omega
  go_enter Try.func18, Try.ntmps18
  go_wp2_with (fail)
  clear hW
  refine hh.mono ?_
  rintro e w1 ⟨rfl, rfl⟩
  go_wp2_with (fail)
  go_ret
  exact ⟨rfl, hB0⟩
end Go.Proofs.Ytnjjpeblbfomoaa
