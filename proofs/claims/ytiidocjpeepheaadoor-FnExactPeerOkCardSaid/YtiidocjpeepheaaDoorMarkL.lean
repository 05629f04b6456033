/-
  markStringS again, with what it leaves alone; markLevel, heldLevel. Lists of at most 2^40 strings.
-/
import Derived.Test.YtiidocjpeepheaaDoorLevel
namespace Go.Proofs.YtiidocjpeepheaaDoor
open Go.RowKit
set_option linter.all false
/-- The row lies in a block below T. -/
def LowS (T : Nat) (v : Value) (xs : List (List UInt8)) : Prop := xs = [] ∨ ∃ b n cap, v = .slice (some ⟨b, 0, none⟩) n cap ∧ b < T
theorem WrS.low {w : World} {B : Nat} {v : Value} {xs : List (List UInt8)} (h : WrS w B v xs) : LowS w.heap.size v xs := by
  obtain ⟨a, cap, rfl, h⟩ := h
  by_cases hx : xs = []
  · exact .inl hx
  · obtain ⟨b, hB, rfl, hr⟩ := h.resolve_left hx
    exact .inr ⟨b, _, _, rfl, hr.lt hx⟩
def RetMarkT (w : World) (B T : Nat) (v : Value) (n k : Nat) (e : Ending) (w' : World) : Prop := e = .returned (.int .i64 ((k + n : Nat) : Int)) ∧ WrS w' B v (marksT k n) ∧ Below B w w' ∧ ∀ j, T ≤ j → j < w.heap.size → w'.heap[j]? = w.heap[j]?
set_option maxHeartbeats 1000000 in
theorem markStringS_far {w : World} {B T : Nat} {v : Value} {xs : List (List UInt8)} (h : WrS w B v xs) (hT : LowS T v xs) (hB0 : B ≤ w.heap.size) (hn : xs.length ≤ 1099511627776) (k0 : Nat) (h0 : 0 < k0) (h1 : k0 ≤ 1099511627776) :
    Calls Tryd.prog 20 #[v, .int .i64 (k0 : Int)] w (RetMarkT w B T v xs.length k0) := by
  obtain ⟨a, cap, rfl, h⟩ := h
  by_cases hx : xs = []
  · subst hx
    go_enter Tryd.func20, Tryd.ntmps20
    go_wp2
    refine wp_loop_once ?_
    go_wp2
    go_ret
    exact ⟨ret_int (by simp), ⟨_, _, rfl, .inl rfl⟩, Below.refl _ _, fun _ _ _ => rfl⟩
  · obtain ⟨b, hB, rfl, hr⟩ := h.resolve_left hx
    have hbT : b < T := by
      obtain ⟨b', n', c', e, hlt⟩ := hT.resolve_left hx
      simp only [Value.slice.injEq, Option.some.injEq, Addr.mk.injEq] at e
      omega
    have hblt := hr.lt hx
    clear hT
    go_enter Tryd.func20, Tryd.ntmps20
    go_wp2_with (fail)
    go_loopw [1, 5] (fun x i wr => ∃ (k : Nat) (L : List (List UInt8)), k ≤ xs.length ∧ i = .int .i64 (k : Int) ∧ x = .int .i64 ((k0 + k : Nat) : Int) ∧ L.length = xs.length ∧ L.take k = (marksT k0 xs.length).take k ∧ RowS wr b L ∧ Below B w wr ∧ w.heap.size ≤ wr.heap.size ∧ (∀ j, T ≤ j → j < w.heap.size → wr.heap[j]? = w.heap[j]?)) (fun _ i _ => xs.length - (intOf i).toNat)
    case atStart => exact ⟨0, xs, Nat.zero_le _, rfl, by simp, rfl, rfl, hr, Below.refl _ _, Nat.le_refl _, fun _ _ _ => rfl⟩
    case round =>
      obtain ⟨k, L, hk, rfl, rfl, hL, htk, hrow, hbel, hsz, hfar⟩ := hrel
      have HF := Lib.hid hfar
      clear hfar
      by_cases hkl : k < xs.length
      · obtain ⟨K, hK⟩ : ∃ K, K = k0 + k := ⟨_, rfl⟩
        rw [← hK]
        have HL := Lib.hid hL
        have HT := Lib.hid htk
        have HR := Lib.hid hrow
        have HK := Lib.hid hK
        have hK1 : 0 < K := by omega
        have hK2 : K ≤ 2199023255552 := by omega
        have hkc : (K : Int) ≤ 2199023255552 := by omega
        clear hrow hL htk h hK
        go_wp2_with (go_at_call 63; refine (markText_any K hK1 (by omega) _).mono ?_; rintro e w1 ⟨rfl, hb1⟩; have hrow1 := HR.out.keep hb1 (by omega); obtain ⟨u, c2⟩ : ∃ u, w1.cell? ⟨b, k, none⟩ = some (.string u) := ⟨_, hrow1.1 k (by rw [HL.out]; exact hkl)⟩; have f2 := hrow1.2 k (by rw [HL.out]; exact hkl); have HS := Lib.hid (hrow1.set k (by rw [HL.out]; exact hkl) (mkT K)); clear hrow1)
        have hs1 := hb1.size
        go_roundw
        case rel =>
          refine ⟨k + 1, L.set k (mkT K), by omega, by go_num, by have := HK.out; congr 1; omega, by rw [List.length_set]; exact HL.out, ?_, HS.out, (hbel.trans (hb1.mono (by omega))).setCell hB _, by simp; omega, ?_⟩
          · rw [List.take_succ_eq_append_getElem (by rw [List.length_set, HL.out]; exact hkl), List.take_succ_eq_append_getElem (by rw [marksT_len]; exact hkl), List.take_set_of_le (Nat.le_refl _), HT.out, List.getElem_set_self, marksT_at, HK.out]
          · intro j hj1 hj2
            exact (Below.heap_setCell _ _ _ j (by show j ≠ b; omega)).trans ((hb1.block j (by omega)).trans (HF.out j hj1 hj2))
        case measure => simp [intOf]; omega
      · have e : L = marksT k0 xs.length := by
          rw [List.take_of_length_le (by omega), List.take_of_length_le (by rw [marksT_len]; omega)] at htk
          exact htk
        have HE := Lib.hid e
        have ek : k = xs.length := by omega
        subst ek
        clear e h
        go_wp2_with (fail)
        go_ret
        refine ⟨rfl, ⟨_, _, by rw [marksT_len], .inr ⟨b, hB, rfl, ?_⟩⟩, hbel, HF.out⟩
        rw [← HE.out]; exact hrow
set_option maxHeartbeats 1000000 in
theorem markLevel_far {w : World} {B T : Nat} {v : Value} {xs : List (List UInt8)} (h : WrS w B v xs) (hT : LowS T v xs) (hTw : T ≤ w.heap.size) (hB0 : B ≤ w.heap.size) (hn : xs.length ≤ 1099511627776) (k0 : Nat) (h0 : 0 < k0) (h1 : k0 ≤ 1099511627776) :
    Calls Tryd.prog 60 #[.agg #[v], .int .i64 (k0 : Int)] w (RetMarkT w B T v xs.length k0) := by
  obtain ⟨a, cap, rfl, -⟩ := id h
  obtain ⟨W1, hW, hA1, hb1⟩ : ∃ W1, w.alloc (.cells #[.slice a xs.length cap] 39) = W1 ∧ W1.heap[w.heap.size]? = some (.cells #[.slice a xs.length cap] 39 (0, 0)) ∧ Below w.heap.size w W1 := ⟨_, rfl, heap_alloc_new w _, below1 _ _⟩
  have cA1 := rowCells hA1
  have hs1 := hb1.size
  have hw1 := h.keep hb1
  go_enter Tryd.func60, Tryd.ntmps60
  go_wp2_with (fail)
  clear hW
  refine (markStringS_far hw1 hT (by omega) hn k0 h0 h1).mono ?_
  rintro e w2 ⟨rfl, wr2, hb2, hf2⟩
  go_wp2_with (fail)
  go_ret
  exact ⟨rfl, wr2, (hb1.mono hB0).trans hb2, fun j hj1 hj2 => (hf2 j hj1 (by omega)).trans (hb1.block j hj2)⟩
end Go.Proofs.YtiidocjpeepheaaDoor
