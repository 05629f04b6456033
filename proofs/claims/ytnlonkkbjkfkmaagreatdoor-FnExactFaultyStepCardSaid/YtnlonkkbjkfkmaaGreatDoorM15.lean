/-
  Texts of this proof: OpenL, Cap, MarkL.
-/
import Derived.Test.YtnlonkkbjkfkmaaGreatDoorM06
import Derived.Lib.SmallJoins
import Derived.Deep.Strs
namespace Go.Proofs.YtnlonkkbjkfkmaaGreatDoor
open Go.RowKit Go.Joins Go.ChangeShapes Go.WideShapes Go.Deep
set_option linter.all false
section
variable {H : Type} {enc : TypeId × Value → H} {w : World} {base : Nat} {spare : Nat → Bool} {held : Bool}
theorem rdS_of_trod {n : Nat} {v0 : Value} {y : DataW H × List MemPlace} (h : DataW.trod enc Tryz.prog w base spare held n 24 [v0] = some y) : ∃ ls, RdS w v0 ls ∧ Sane ls := by
 rcases open_strs Tryz.underlying24 Tryz.underlying9 (by kernel_rfl) h with ⟨hcs, _⟩ | ⟨a, len, cap, m, Sx, hcs, _, hl, hm, hmm, _, hcell⟩
 ·simp only [List.cons.injEq, and_true] at hcs
  subst hcs
  exact ⟨[], ⟨none, 0, rfl, .inl rfl⟩, by simp, by simp⟩
 ·simp only [List.cons.injEq, and_true] at hcs
  subst hcs
  have hlm : len ≤ m := by rw [hmm]; split <;> omega
  unfold maxLen at hm hcell
  refine ⟨(List.range len).map fun i => (Sx i).data.toList, ⟨some a, cap, by simp, ?_⟩, by simp; omega, ?_⟩
  ·by_cases h0 : len = 0
   ·subst h0; exact .inl rfl
   ·obtain ⟨b, off, spot⟩ := a
    have hc0 := (hcell 0 (by omega)).1
    have hspot : spot = none := by simpa [Addr.add] using World.cell?_spot hc0
    subst hspot
    refine .inr ⟨b, off, rfl, fun j hj => ?_⟩
    rw [List.length_map, List.length_range] at hj
    have := (hcell j (by omega)).1
    rw [show (⟨b, off, none⟩ : Addr).add j = ⟨b, off + j, none⟩ by unfold Addr.add; split <;> simp_all] at this
    rw [this]
    simp
  ·intro s hs
   simp only [List.mem_map, List.mem_range] at hs
   obtain ⟨i, hi, rfl⟩ := hs
   have := (hcell i (by omega)).2
   rw [Array.length_toList]
   exact this
end
section
variable {H : Type} {enc : TypeId × Value → H} {w : World} {base : Nat} {spare : Nat → Bool} {held : Bool}
end
end Go.Proofs.YtnlonkkbjkfkmaaGreatDoor
namespace Go.Proofs.YtnlonkkbjkfkmaaGreatDoor
open Go.RowKit
set_option linter.all false
def CapOk (v : Value) : Prop := ∃ a n c, v = .slice a n c ∧ n ≤ c
def RetRdSC (w : World) (xs : List (List UInt8)) (e : Ending) (w' : World) : Prop := ∃ v, e = .returned v ∧ WrS w' w.heap.size v xs ∧ Below w.heap.size w w' ∧ CapOk v
def RetLvC (w : World) (xs : List (List UInt8)) (e : Ending) (w' : World) : Prop := ∃ v, e = .returned (.agg #[v]) ∧ WrS w' w.heap.size v xs ∧ Below w.heap.size w w' ∧ CapOk v
set_option maxHeartbeats 400000 in
theorem toStringS_cap {w : World} {v : Value} {xs : List (List UInt8)} (h : RdS w v xs) (hn : xs.length ≤ 1099511627776) :
  Calls Tryz.prog 91 #[v] w (RetRdSC w xs) := by
 obtain ⟨a, cap, rfl, h⟩ := h
 have hmk := fun W => run_make_strs W xs.length hn
 by_cases hx : xs = []
 ·subst hx
  have hmk0 : ∀ W, (Instr.makeSlice 24 (.int .i64 0) (.int .i64 0)).run Tryz.prog W = .ok (.slice (some ⟨W.heap.size, 0, none⟩) 0 0) (W.alloc (.cells (madeCells #[.string ⟨#[]⟩] 0) 9)) := fun W => run_make_strs W 0 (by omega)
  clear hmk
  go_enter Tryz.func91, Tryz.ntmps91
  go_wp2
  refine wp_loop_once ?_
  go_wp2
  go_ret
  exact ⟨_, rfl, ⟨_, _, rfl, .inl rfl⟩, (Below.refl _ _).alloc (Nat.le_refl _) _, ⟨_, _, _, rfl, Nat.le_refl _⟩⟩
 ·obtain ⟨b, off, rfl, hc⟩ := h.resolve_left hx
  have hpos : 0 < xs.length := List.length_pos_iff.2 hx
  have hlt := World.block_lt_of_cell? w _ (hc 0 hpos)
  go_enter Tryz.func91, Tryz.ntmps91
  go_wp2
  go_loopw [4] (fun i wr => ∃ (k : Nat) (L : List (List UInt8)), k ≤ xs.length ∧ i = .int .i64 k ∧ L.length = xs.length ∧ L.take k = xs.take k ∧ RowS wr w.heap.size L ∧ Below w.heap.size w wr) (fun i _ => xs.length - (intOf i).toNat)
  case atStart =>
   exact ⟨0, _, Nat.zero_le _, rfl, List.length_replicate, rfl, RowS.zeros w _, (Below.refl _ _).alloc (Nat.le_refl _) _⟩
  case round =>
   obtain ⟨k, L, hk, rfl, hL, htk, hrow, hbel⟩ := hrel
   by_cases hkl : k < xs.length
   ·obtain ⟨x, hx2⟩ : ∃ x, x = xs[k] := ⟨_, rfl⟩
    have c1 : wr.cell? ⟨b, off + k, none⟩ = some (.string ⟨x.toArray⟩) := by rw [hx2]; exact (hbel.cell hlt).trans (hc k hkl)
    obtain ⟨u, c2⟩ : ∃ u, wr.cell? ⟨w.heap.size, k, none⟩ = some (.string u) := ⟨_, hrow.1 k (by omega)⟩
    have f2 := hrow.2 k (by omega)
    have HS := Lib.hid (hrow.set k (by omega) x)
    have HL := Lib.hid hL
    have HT := Lib.hid htk
    have HX := Lib.hid hx2
    clear hrow hL htk hx2
    go_wp2
    go_roundw
    case rel =>
     refine ⟨k + 1, L.set k x, by omega, by go_num, by rw [List.length_set]; exact HL.out, ?_, HS.out, hbel.setCell (Nat.le_refl _) _⟩
     rw [List.take_succ_eq_append_getElem (by rw [List.length_set, HL.out]; exact hkl), List.take_succ_eq_append_getElem hkl, List.take_set_of_le (Nat.le_refl _), HT.out, List.getElem_set_self, HX.out]
    case measure => simp [intOf]; omega
   ·have e : L = xs := by
     rw [List.take_of_length_le (by omega), List.take_of_length_le (by omega)] at htk
     exact htk
    subst e
    go_wp2
    go_ret
    exact ⟨_, rfl, ⟨_, _, rfl, .inr ⟨_, Nat.le_refl _, rfl, hrow⟩⟩, hbel, ⟨_, _, _, rfl, Nat.le_refl _⟩⟩
set_option maxHeartbeats 1000000 in
theorem toLevel_cap {w : World} {v : Value} {xs : List (List UInt8)} (h : RdS w v xs) (hn : xs.length ≤ 1099511627776) :
  Calls Tryz.prog 34 #[.agg #[v]] w (RetLvC w xs) := by
 obtain ⟨a, cap, rfl, h0⟩ := id h
 obtain ⟨W0, hW, hA, hB, hC, hB0, hS0⟩ := rows3 w #[.slice a xs.length cap] #[.slice none 0 0] #[.slice none 0 0] 43 26 26
 have cA := rowCells hA
 go_enter Tryz.func34, Tryz.ntmps34
 go_wp2_with (fail)
 refine (toStringS_cap (h.keep hB0) hn).mono ?_
 rintro e w1 ⟨v1, rfl, hv, hb1, hcp⟩
 have hB1 := keepHeap hb1 hB
 have hC1 := keepHeap hb1 hC
 have cC := rowCells hC1
 have cB := rowCells hB1
 have fC := frozenHeap hC1 0
 have fB := frozenHeap hB1 0
 clear cA hW
 obtain ⟨a1, c1, rfl, hv1⟩ := id hv
 go_wp2_with (fail)
 refine bodyPost_ret (results_cell_row rfl _ _ (w.heap.size + 1) 26 #[.slice a1 xs.length c1] (0, 0) ?d ?hp ?hg ?hu ?hd ?hi) rfl ?_
 case hp => rfl
 case hg => exact setHeap (farHeap hB1 (by simp) _)
 case hu => exact Tryz.underlying26
 case hd => rfl
 case hi => kernel_rfl
 have hv2 := (hv.far (p := ⟨w.heap.size + 1 + 1, 0, none⟩) (by simp; omega) (.slice a1 xs.length c1)).far (p := ⟨w.heap.size + 1, 0, none⟩) (by simp; omega) (.slice a1 xs.length c1)
 exact ⟨_, rfl, hv2.up (by omega), ((hB0.trans (hb1.mono (by omega))).setCell (by simp; omega) _).setCell (by simp) _, hcp⟩
end Go.Proofs.YtnlonkkbjkfkmaaGreatDoor
namespace Go.Proofs.YtnlonkkbjkfkmaaGreatDoor
open Go.RowKit
set_option linter.all false
def LowS (T : Nat) (v : Value) (xs : List (List UInt8)) : Prop := xs = [] ∨ ∃ b n cap, v = .slice (some ⟨b, 0, none⟩) n cap ∧ b < T
theorem WrS.low {w : World} {B : Nat} {v : Value} {xs : List (List UInt8)} (h : WrS w B v xs) : LowS w.heap.size v xs := by
 obtain ⟨a, cap, rfl, h⟩ := h
 by_cases hx : xs = []
 ·exact .inl hx
 ·obtain ⟨b, hB, rfl, hr⟩ := h.resolve_left hx
  exact .inr ⟨b, _, _, rfl, hr.lt hx⟩
def RetMarkT (w : World) (B T : Nat) (v : Value) (n k : Nat) (e : Ending) (w' : World) : Prop := e = .returned (.int .i64 ((k + n : Nat) : Int)) ∧ WrS w' B v (marksT k n) ∧ Below B w w' ∧ ∀ j, T ≤ j → j < w.heap.size → w'.heap[j]? = w.heap[j]?
set_option maxHeartbeats 1000000 in
theorem markStringS_far {w : World} {B T : Nat} {v : Value} {xs : List (List UInt8)} (h : WrS w B v xs) (hT : LowS T v xs) (hB0 : B ≤ w.heap.size) (hn : xs.length ≤ 1099511627776) (k0 : Nat) (h0 : 0 < k0) (h1 : k0 ≤ 1099511627776) :
  Calls Tryz.prog 98 #[v, .int .i64 (k0 : Int)] w (RetMarkT w B T v xs.length k0) := by
 obtain ⟨a, cap, rfl, h⟩ := h
 by_cases hx : xs = []
 ·subst hx
  go_enter Tryz.func98, Tryz.ntmps98
  go_wp2
  refine wp_loop_once ?_
  go_wp2
  go_ret
  exact ⟨ret_int (by simp), ⟨_, _, rfl, .inl rfl⟩, Below.refl _ _, fun _ _ _ => rfl⟩
 ·obtain ⟨b, hB, rfl, hr⟩ := h.resolve_left hx
  have hbT : b < T := by
   obtain ⟨b', n', c', e, hlt⟩ := hT.resolve_left hx
   simp only [Value.slice.injEq, Option.some.injEq, Addr.mk.injEq] at e
   omega
  have hblt := hr.lt hx
  clear hT
  go_enter Tryz.func98, Tryz.ntmps98
  go_wp2_with (fail)
  go_loopw [1, 5] (fun x i wr => ∃ (k : Nat) (L : List (List UInt8)), k ≤ xs.length ∧ i = .int .i64 (k : Int) ∧ x = .int .i64 ((k0 + k : Nat) : Int) ∧ L.length = xs.length ∧ L.take k = (marksT k0 xs.length).take k ∧ RowS wr b L ∧ Below B w wr ∧ w.heap.size ≤ wr.heap.size ∧ (∀ j, T ≤ j → j < w.heap.size → wr.heap[j]? = w.heap[j]?)) (fun _ i _ => xs.length - (intOf i).toNat)
  case atStart => exact ⟨0, xs, Nat.zero_le _, rfl, by simp, rfl, rfl, hr, Below.refl _ _, Nat.le_refl _, fun _ _ _ => rfl⟩
  case round =>
   obtain ⟨k, L, hk, rfl, rfl, hL, htk, hrow, hbel, hsz, hfar⟩ := hrel
   have HF := Lib.hid hfar
   clear hfar
   by_cases hkl : k < xs.length
   ·obtain ⟨K, hK⟩ : ∃ K, K = k0 + k := ⟨_, rfl⟩
    rw [← hK]
    have HL := Lib.hid hL
    have HT := Lib.hid htk
    have HR := Lib.hid hrow
    have HK := Lib.hid hK
    have hK1 : 0 < K := by omega
    have hK2 : K ≤ 2199023255552 := by omega
    have hkc : (K : Int) ≤ 2199023255552 := by omega
    clear hrow hL htk h hK
    go_wp2_with (go_at_call 174; refine (markText_any K hK1 (by omega) _).mono ?_; rintro e w1 ⟨rfl, hb1⟩; have hrow1 := HR.out.keep hb1 (by omega); obtain ⟨u, c2⟩ : ∃ u, w1.cell? ⟨b, k, none⟩ = some (.string u) := ⟨_, hrow1.1 k (by rw [HL.out]; exact hkl)⟩; have f2 := hrow1.2 k (by rw [HL.out]; exact hkl); have HS := Lib.hid (hrow1.set k (by rw [HL.out]; exact hkl) (mkT K)); clear hrow1)
    have hs1 := hb1.size
    go_roundw
    case rel =>
     refine ⟨k + 1, L.set k (mkT K), by omega, by go_num, by have := HK.out; congr 1; omega, by rw [List.length_set]; exact HL.out, ?_, HS.out, (hbel.trans (hb1.mono (by omega))).setCell hB _, by simp; omega, ?_⟩
     ·rw [List.take_succ_eq_append_getElem (by rw [List.length_set, HL.out]; exact hkl), List.take_succ_eq_append_getElem (by rw [marksT_len]; exact hkl), List.take_set_of_le (Nat.le_refl _), HT.out, List.getElem_set_self, marksT_at, HK.out]
     ·intro j hj1 hj2
      exact (Below.heap_setCell _ _ _ j (by show j ≠ b; omega)).trans ((hb1.block j (by omega)).trans (HF.out j hj1 hj2))
    case measure => simp [intOf]; omega
   ·have e : L = marksT k0 xs.length := by
     rw [List.take_of_length_le (by omega), List.take_of_length_le (by rw [marksT_len]; omega)] at htk
     exact htk
    have HE := Lib.hid e
    have ek : k = xs.length := by omega
    subst ek
    clear e h
    go_wp2_with (fail)
    go_ret
    refine ⟨rfl, ⟨_, _, by rw [marksT_len], .inr ⟨b, hB, rfl, ?_⟩⟩, hbel, HF.out⟩
    rw [← HE.out]; exact hrow
set_option maxHeartbeats 1000000 in
theorem markLevel_far {w : World} {B T : Nat} {v : Value} {xs : List (List UInt8)} (h : WrS w B v xs) (hT : LowS T v xs) (hTw : T ≤ w.heap.size) (hB0 : B ≤ w.heap.size) (hn : xs.length ≤ 1099511627776) (k0 : Nat) (h0 : 0 < k0) (h1 : k0 ≤ 1099511627776) :
  Calls Tryz.prog 38 #[.agg #[v], .int .i64 (k0 : Int)] w (RetMarkT w B T v xs.length k0) := by
 obtain ⟨a, cap, rfl, -⟩ := id h
 obtain ⟨W1, hW, hA1, hb1⟩ : ∃ W1, w.alloc (.cells #[.slice a xs.length cap] 26) = W1 ∧ W1.heap[w.heap.size]? = some (.cells #[.slice a xs.length cap] 26 (0, 0)) ∧ Below w.heap.size w W1 := ⟨_, rfl, heap_alloc_new w _, below1 _ _⟩
 have cA1 := rowCells hA1
 have hs1 := hb1.size
 have hw1 := h.keep hb1
 go_enter Tryz.func38, Tryz.ntmps38
 go_wp2_with (fail)
 clear hW
 refine (markStringS_far hw1 hT (by omega) hn k0 h0 h1).mono ?_
 rintro e w2 ⟨rfl, wr2, hb2, hf2⟩
 go_wp2_with (fail)
 go_ret
 exact ⟨rfl, wr2, (hb1.mono hB0).trans hb2, fun j hj1 hj2 => (hf2 j hj1 (by omega)).trans (hb1.block j hj2)⟩
set_option maxHeartbeats 1000000 in
theorem heldLevel_any {w : World} {v : Value} (n : Nat) (k0 : Nat) (h : RdS w v (marksT k0 n)) (hn : n ≤ 1099511627776) (h0 : 0 < k0) (h1 : k0 ≤ 1099511627776) :
  Calls Tryz.prog 83 #[.agg #[v], .int .i64 (k0 : Int)] w fun e w' => e = .returned (.int .i64 ((k0 + n : Nat) : Int)) ∧ Below w.heap.size w w' := by
 obtain ⟨a, cap, rfl, -⟩ := id h
 obtain ⟨m, hm⟩ : ∃ m, m = (marksT k0 n).length := ⟨_, rfl⟩
 rw [← hm] at h ⊢
 obtain ⟨W1, hW, hA1, hb1⟩ : ∃ W1, w.alloc (.cells #[.slice a m cap] 26) = W1 ∧ W1.heap[w.heap.size]? = some (.cells #[.slice a m cap] 26 (0, 0)) ∧ Below w.heap.size w W1 := ⟨_, rfl, heap_alloc_new w _, below1 _ _⟩
 have cA1 := rowCells hA1
 have hs1 := hb1.size
 have r1 := h.keep hb1
 obtain ⟨q, hq⟩ : ∃ q : Nat, q = k0 + n := ⟨_, rfl⟩
 have hC := heldStringS_any n k0 r1 hn h0 h1
 rw [← hq] at hC ⊢
 have zq : decide ((q : Int) < 0) = false := by simp
 clear hm hq
 go_enter Tryz.func83, Tryz.ntmps83
 go_wp2_with (fail)
 clear hW
 refine hC.mono ?_
 rintro e w2 ⟨rfl, hb2⟩
 go_wp2_with (fail)
 go_ret
 exact ⟨rfl, hb1.trans (hb2.mono hs1)⟩
end Go.Proofs.YtnlonkkbjkfkmaaGreatDoor
