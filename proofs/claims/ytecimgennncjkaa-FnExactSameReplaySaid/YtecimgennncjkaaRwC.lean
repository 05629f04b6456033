/-
  toIntSS once more: the new slice is no longer than its room; rows in blocks from B on that are left alone. Lists of at most 2^20 rows and numbers.
-/
import Derived.Test.YtecimgennncjkaaRowL
import Derived.Test.YtecimgennncjkaaMrk
import Derived.Test.YtecimgennncjkaaOin
import Derived.Test.YtecimgennncjkaaCap
import Derived.Test.YtecimgennncjkaaMarkL
namespace Go.Proofs.Ytecimgennncjkaa
open Go.RowKit
set_option linter.all false
theorem OwnI.same {w w' : World} {B : Nat} {v : Value} {xs : List Int} (h : OwnI w B v xs) (he : ∀ b, B ≤ b → b < w.heap.size → w'.heap[b]? = w.heap[b]?) : OwnI w' B v xs := by
  obtain ⟨a, cap, rfl, h⟩ := h
  refine ⟨a, cap, rfl, ?_⟩
  by_cases hx : xs = []
  · exact .inl hx
  rcases h with h | ⟨b, hB, rfl, hr⟩
  · exact .inl h
  · exact .inr ⟨b, hB, rfl, hr.same (he b hB (hr.lt hx))⟩
theorem WrR.same {w w' : World} {B : Nat} {v : Value} {X : Rowi} (h : WrR w B v X) (he : ∀ b, B ≤ b → b < w.heap.size → w'.heap[b]? = w.heap[b]?) : WrR w' B v X := by
  obtain ⟨a, cap, rfl, h⟩ := h
  refine ⟨a, cap, rfl, ?_⟩
  by_cases hx : X = []
  · exact .inl hx
  rcases h with h | ⟨g, hB, rfl, hr⟩
  · exact .inl h
  · have hg := hr.lt hx
    have hh := he g hB hg
    refine .inr ⟨g, hB, rfl, fun j hj => ?_, fun j hj => ?_⟩
    · obtain ⟨u, h1, h2⟩ := hr.1 j hj
      exact ⟨u, by rw [World.cell?_of_block (w := w) hh]; exact h1, h2.same fun b hb hl => he b (by omega) hl⟩
    · rw [frozen_of_block hh]; exact hr.2 j hj
/-- Rows of numbers that may be written, in blocks from B up to T; their own block lies from B on as well. -/
def MkQ (w : World) (B T : Nat) (v : Value) (X : Rowi) : Prop := ∃ a cap, v = .slice a X.length cap ∧ (X = [] ∨ ∃ g, B ≤ g ∧ g < w.heap.size ∧ a = some ⟨g, 0, none⟩ ∧ ∀ j (h : j < X.length), ∃ u, w.cell? ⟨g, j, none⟩ = some u ∧ MkI w B T u X[j].length)
theorem MkQ.mk {w : World} {B T : Nat} {v : Value} {X : Rowi} (h : MkQ w B T v X) : MkR w B T v X := by
  obtain ⟨a, cap, hv, h⟩ := h
  refine ⟨a, cap, hv, ?_⟩
  rcases h with h | ⟨g, -, -, ha, hr⟩
  · exact .inl h
  · exact .inr ⟨g, ha, hr⟩
theorem MkQ.of_wr {w : World} {B : Nat} {v : Value} {X : Rowi} (h : WrR w B v X) : MkQ w B w.heap.size v X := by
  obtain ⟨a, cap, hv, h⟩ := h
  refine ⟨a, cap, hv, ?_⟩
  by_cases hx : X = []
  · exact .inl hx
  rcases h with h | ⟨g, hB, ha, hr⟩
  · exact .inl h
  · refine .inr ⟨g, hB, hr.lt hx, ha, fun j hj => ?_⟩
    obtain ⟨u, h1, h2⟩ := hr.1 j hj
    exact ⟨u, h1, MkI.of_own h2 (by omega)⟩
theorem MkI.same {w w' : World} {B T : Nat} {v : Value} {n : Nat} (h : MkI w B T v n) (he : ∀ b, B ≤ b → b < w.heap.size → w'.heap[b]? = w.heap[b]?) (hs : w.heap.size ≤ w'.heap.size) : MkI w' B T v n := by
  obtain ⟨a, cap, hv, h⟩ := h
  refine ⟨a, cap, hv, ?_⟩
  rcases h with h | ⟨b, hB, hT, hl, ha, hr⟩
  · exact .inl h
  · have hh := he b hB hl
    refine .inr ⟨b, hB, hT, by omega, ha, fun j hj => ?_⟩
    obtain ⟨⟨u, h1⟩, h2⟩ := hr j hj
    exact ⟨⟨u, by rw [World.cell?_of_block (w := w) hh]; exact h1⟩, by rw [frozen_of_block hh]; exact h2⟩
theorem MkQ.same {w w' : World} {B T : Nat} {v : Value} {X : Rowi} (h : MkQ w B T v X) (he : ∀ b, B ≤ b → b < w.heap.size → w'.heap[b]? = w.heap[b]?) (hs : w.heap.size ≤ w'.heap.size) : MkQ w' B T v X := by
  obtain ⟨a, cap, hv, h⟩ := h
  refine ⟨a, cap, hv, ?_⟩
  rcases h with h | ⟨g, hB, hl, ha, hr⟩
  · exact .inl h
  · have hh := he g hB hl
    refine .inr ⟨g, hB, by omega, ha, fun j hj => ?_⟩
    obtain ⟨u, h1, h2⟩ := hr j hj
    exact ⟨u, by rw [World.cell?_of_block (w := w) hh]; exact h1, h2.same he hs⟩
theorem WrS.all {w w' : World} {B : Nat} {v : Value} {xs : List (List UInt8)} (h : WrS w B v xs) (he : ∀ b, B ≤ b → b < w.heap.size → w'.heap[b]? = w.heap[b]?) : WrS w' B v xs := by
  obtain ⟨a, cap, rfl, h⟩ := h
  refine ⟨a, cap, rfl, ?_⟩
  by_cases hx : xs = []
  · exact .inl hx
  · obtain ⟨b, hB, rfl, hr⟩ := h.resolve_left hx
    have hb := he b hB (hr.lt hx)
    refine .inr ⟨b, hB, rfl, fun j hj => ?_, fun j hj => ?_⟩
    · rw [World.cell?_of_block (w := w) hb]; exact hr.1 j hj
    · rw [frozen_of_block hb]; exact hr.2 j hj
def RetIntSSC (w : World) (X : Rowi) (e : Ending) (w' : World) : Prop := ∃ v, e = .returned v ∧ WrR w' w.heap.size v X ∧ CapI v ∧ Below w.heap.size w w'
set_option maxHeartbeats 1000000 in
theorem toIntSS_cap {w : World} {v : Value} {X : Rowi} (h : RdR w v X) (hn : X.length ≤ 1048576) (hi : ∀ x ∈ X, x.length ≤ 1048576) :
    Calls Try.prog 8 #[v] w (RetIntSSC w X) := by
  obtain ⟨a, cap, rfl, h⟩ := h
  have hmk := fun W => run_make_IntSS W X.length hn
  by_cases hx : X = []
  · subst hx
    have hmk0 : ∀ W, (Instr.makeSlice 22 (.int .i64 0) (.int .i64 0)).run Try.prog W = .ok (.slice (some ⟨W.heap.size, 0, none⟩) 0 0) (W.alloc (.cells (madeCells #[.slice none 0 0] 0) 44)) := fun W => run_make_IntSS W 0 (by omega)
    clear hmk
    go_enter Try.func8, Try.ntmps8
    go_wp2
    refine wp_loop_once ?_
    go_wp2
    go_ret
    exact ⟨_, rfl, ⟨_, _, rfl, .inl rfl⟩, ⟨_, _, _, rfl, Nat.le_refl _⟩, (Below.refl _ _).alloc (Nat.le_refl _) _⟩
  · obtain ⟨b, off, rfl, hc⟩ := h.resolve_left hx
    have hpos : 0 < X.length := List.length_pos_iff.2 hx
    go_enter Try.func8, Try.ntmps8
    go_wp2_with (fail)
    go_loopw [4] (fun i wr => ∃ (k : Nat) (L : Rowi), k ≤ X.length ∧ i = .int .i64 (k : Int) ∧ L.length = X.length ∧ L.take k = X.take k ∧ RowW wr w.heap.size (w.heap.size + 1) L ∧ Below w.heap.size w wr) (fun i _ => X.length - (intOf i).toNat)
    case atStart =>
      exact ⟨0, _, Nat.zero_le _, rfl, List.length_replicate, rfl, RowW.zeros w _ _ _, (Below.refl _ _).alloc (Nat.le_refl _) _⟩
    case round =>
      obtain ⟨k, L, hk, rfl, hL, htk, hrow, hbel⟩ := hrel
      by_cases hkl : k < X.length
      · obtain ⟨u, c0, hrd⟩ := hc k hkl
        have c1 : wr.cell? ⟨b, off + k, none⟩ = some u := (hbel.cell (World.block_lt_of_cell? w _ c0)).trans c0
        have hgl : w.heap.size < wr.heap.size := hrow.lt (by intro e; rw [e] at hL; simp at hL; omega)
        have HX : Hid (X[k] = X[k]) := Lib.hid rfl
        obtain ⟨x, hx'⟩ : ∃ x, x = X[k] := ⟨_, rfl⟩
        have hT := toIntS_own (hrd.keep hbel) (by have := hi X[k] (List.getElem_mem _); omega)
        rw [← hx'] at hT
        have HXK := Lib.hid hx'
        have hkk : (k : Int) < (X.length : Int) := by omega
        have HRW := Lib.hid hrow
        have HL := Lib.hid hL
        have HT := Lib.hid htk
        clear hrow hL htk hrd c0 hx' HX
        go_wp2_with (fail)
        refine hT.mono ?_
        rintro e w1 ⟨v1, rfl, ho, hb1⟩
        have hrow := HRW.out.keep hb1 hgl
        have hbel1 := hbel.trans (hb1.mono hbel.size)
        have hkL : k < L.length := by rw [HL.out]; exact hkl
        obtain ⟨u2, c2, -⟩ := hrow.1 k hkL
        have f2 := hrow.2 k hkL
        have HS := Lib.hid (hrow.set k hkL (ho.up (by omega)))
        clear hrow HRW
        obtain ⟨a1, cp1, rfl, -⟩ := id ho
        go_wp2_with (fail)
        go_roundw
        case rel =>
          refine ⟨k + 1, L.set k x, by omega, by go_num, by rw [List.length_set]; exact HL.out, ?_, HS.out, hbel1.setCell (Nat.le_refl _) _⟩
          rw [List.take_succ_eq_append_getElem (by rw [List.length_set, HL.out]; exact hkl), List.take_succ_eq_append_getElem hkl, List.take_set_of_le (Nat.le_refl _), HT.out, List.getElem_set_self, HXK.out]
        case measure => simp [intOf]; omega
      · have e : L = X := by
          rw [List.take_of_length_le (by omega), List.take_of_length_le (by omega)] at htk
          exact htk
        subst e
        go_wp2_with (fail)
        go_ret
        exact ⟨_, rfl, ⟨_, _, rfl, .inr ⟨_, Nat.le_refl _, rfl, hrow⟩⟩, ⟨_, _, _, rfl, Nat.le_refl _⟩, hbel⟩
end Go.Proofs.Ytecimgennncjkaa
