/-
  toTrackS with the room of its rows. Lists of at most 2^20 rows and numbers.
-/
import Derived.Test.YtnjjpeblbfomoaaTrM
import Derived.Test.YtnjjpeblbfomoaaRowL
namespace Go.Proofs.Ytnjjpeblbfomoaa
open Go.RowKit
set_option linter.all false
/-- Each cell of block g up to n is a slice with its room. -/
def CapG (w : World) (g n : Nat) : Prop := ∀ j, j < n → ∃ u, w.cell? ⟨g, j, none⟩ = some u ∧ CapI u
/-- Each row that v shows is a slice with its room. -/
def CapR (w : World) (v : Value) (X : Rowi) : Prop := X = [] ∨ ∃ b off cap, v = .slice (some ⟨b, off, none⟩) X.length cap ∧ ∀ j, j < X.length → ∃ u, w.cell? ⟨b, off + j, none⟩ = some u ∧ CapI u
theorem CapR.keep {w w' : World} {v : Value} {X : Rowi} (h : CapR w v X) (hb : Below w.heap.size w w') : CapR w' v X := by
  rcases h with h | ⟨b, off, cap, hv, h⟩
  · exact .inl h
  · refine .inr ⟨b, off, cap, hv, fun j hj => ?_⟩
    obtain ⟨u, h1, h2⟩ := h j hj
    exact ⟨u, (hb.cell (World.block_lt_of_cell? w _ h1)).trans h1, h2⟩
theorem CapG.keep {w w' : World} {g n : Nat} (h : CapG w g n) (hb : Below w.heap.size w w') (hg : g < w.heap.size) : CapG w' g n := fun j hj => by
  obtain ⟨u, h1, h2⟩ := h j hj
  exact ⟨u, (hb.cell hg).trans h1, h2⟩
theorem CapG.set {w : World} {g n : Nat} (h : CapG w g n) (k : Nat) {u : Value} (hu : CapI u) : CapG (w.setCell ⟨g, k, none⟩ u) g n := fun j hj => by
  obtain ⟨u', h1, h2⟩ := h j hj
  by_cases e : k = j
  · subst e; exact ⟨u, World.cell?_setCell_same _ _ _ h1, hu⟩
  · exact ⟨u', by rw [World.cell?_setCell_other _ _ _ _ (by simpa using e)]; exact h1, h2⟩
theorem CapG.zeros (w : World) (n : Nat) (t : TypeId) : CapG (w.alloc (.cells (madeCells #[.slice none 0 0] n) t)) w.heap.size n := fun j hj => by
  refine ⟨.slice none 0 0, ?_, none, 0, 0, rfl, Nat.le_refl _⟩
  rw [World.cell?_alloc_mark, ← Array.getElem?_toList, toList_madeCells_one]
  simp [hj]
def RetTrackC (w : World) (X : Rowi) (e : Ending) (w' : World) : Prop := ∃ v, e = .returned v ∧ WrR w' w.heap.size v X ∧ CapR w' v X ∧ Below w.heap.size w w'
set_option maxHeartbeats 1000000 in
theorem toTrackS_cap {w : World} {v : Value} {X : Rowi} (h : RdR w v X) (hn : X.length ≤ 1048576) (hi : ∀ x ∈ X, x.length ≤ 1048576) :
    Calls Try.prog 21 #[v] w (RetTrackC w X) := by
  obtain ⟨a, cap, rfl, h⟩ := h
  have hmk := fun W => run_make_TrackS W X.length hn
  by_cases hx : X = []
  · subst hx
    have hmk0 : ∀ W, (Instr.makeSlice 42 (.int .i64 0) (.int .i64 0)).run Try.prog W = .ok (.slice (some ⟨W.heap.size, 0, none⟩) 0 0) (W.alloc (.cells (madeCells #[.slice none 0 0] 0) 26)) := fun W => run_make_TrackS W 0 (by omega)
    clear hmk
    go_enter Try.func21, Try.ntmps21
    go_wp2
    refine wp_loop_once ?_
    go_wp2
    go_ret
    exact ⟨_, rfl, ⟨_, _, rfl, .inl rfl⟩, .inl rfl, (Below.refl _ _).alloc (Nat.le_refl _) _⟩
  · obtain ⟨b, off, rfl, hc⟩ := h.resolve_left hx
    have hpos : 0 < X.length := List.length_pos_iff.2 hx
    go_enter Try.func21, Try.ntmps21
    go_wp2_with (fail)
    go_loopw [4] (fun i wr => ∃ (k : Nat) (L : Rowi), k ≤ X.length ∧ i = .int .i64 (k : Int) ∧ L.length = X.length ∧ L.take k = X.take k ∧ RowW wr w.heap.size (w.heap.size + 1) L ∧ CapG wr w.heap.size X.length ∧ Below w.heap.size w wr) (fun i _ => X.length - (intOf i).toNat)
    case atStart =>
      exact ⟨0, _, Nat.zero_le _, rfl, List.length_replicate, rfl, RowW.zeros w _ _ _, CapG.zeros w _ _, (Below.refl _ _).alloc (Nat.le_refl _) _⟩
    case round =>
      obtain ⟨k, L, hk, rfl, hL, htk, hrow, hcg, hbel⟩ := hrel
      by_cases hkl : k < X.length
      · obtain ⟨u, c0, hrd⟩ := hc k hkl
        have c1 : wr.cell? ⟨b, off + k, none⟩ = some u := (hbel.cell (World.block_lt_of_cell? w _ c0)).trans c0
        have hgl : w.heap.size < wr.heap.size := hrow.lt (by intro e; rw [e] at hL; simp at hL; omega)
        have HX : Hid (X[k] = X[k]) := Lib.hid rfl
        obtain ⟨x, hx'⟩ : ∃ x, x = X[k] := ⟨_, rfl⟩
        have hT := toTrack_cap (hrd.keep hbel) (by have := hi X[k] (List.getElem_mem _); omega)
        rw [← hx'] at hT
        have HXK := Lib.hid hx'
        have hkk : (k : Int) < (X.length : Int) := by omega
        have HRW := Lib.hid hrow
        have HL := Lib.hid hL
        have HT := Lib.hid htk
        clear hrow hL htk hrd c0 hx' HX
        go_wp2_with (fail)
        refine hT.mono ?_
        rintro e w1 ⟨v1, rfl, ho, hcp, hb1⟩
        have hcg1 := hcg.keep hb1 hgl
        have hrow := HRW.out.keep hb1 hgl
        have hbel1 := hbel.trans (hb1.mono hbel.size)
        have hkL : k < L.length := by rw [HL.out]; exact hkl
        obtain ⟨u2, c2, -⟩ := hrow.1 k hkL
        have f2 := hrow.2 k hkL
        have HS := Lib.hid (hrow.set k hkL (ho.up (by omega)))
        clear hrow HRW
        obtain ⟨a1, cp1, rfl, -⟩ := id ho
        go_wp2_with (fail)
        go_roundw
        case rel =>
          refine ⟨k + 1, L.set k x, by omega, by go_num, by rw [List.length_set]; exact HL.out, ?_, HS.out, hcg1.set k hcp, hbel1.setCell (Nat.le_refl _) _⟩
          rw [List.take_succ_eq_append_getElem (by rw [List.length_set, HL.out]; exact hkl), List.take_succ_eq_append_getElem hkl, List.take_set_of_le (Nat.le_refl _), HT.out, List.getElem_set_self, HXK.out]
        case measure => simp [intOf]; omega
      · have e : L = X := by
          rw [List.take_of_length_le (by omega), List.take_of_length_le (by omega)] at htk
          exact htk
        subst e
        go_wp2_with (fail)
        go_ret
        exact ⟨_, rfl, ⟨_, _, rfl, .inr ⟨_, Nat.le_refl _, rfl, hrow⟩⟩, .inr ⟨_, 0, _, rfl, fun j hj => by rw [Nat.zero_add]; exact hcg j hj⟩, hbel⟩
end Go.Proofs.Ytnjjpeblbfomoaa
