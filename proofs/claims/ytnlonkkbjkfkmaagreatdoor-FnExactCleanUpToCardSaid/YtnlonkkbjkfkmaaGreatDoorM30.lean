/-
  Texts of this proof: RowL.
-/
import Derived.Test.YtnlonkkbjkfkmaaGreatDoorM29
import Derived.Deep.RegionHeld3
namespace Go.Proofs.YtnlonkkbjkfkmaaGreatDoor
open Go.RowKit
set_option linter.all false
def RowW (w : World) (g C : Nat) (X : Rowi) : Prop := (∀ j (h : j < X.length), ∃ u, w.cell? ⟨g, j, none⟩ = some u ∧ OwnI w C u X[j]) ∧ ∀ j, j < X.length → w.frozen? ⟨g, j, none⟩ = false
def WrR (w : World) (B : Nat) (v : Value) (X : Rowi) : Prop := ∃ a cap, v = .slice a X.length cap ∧ (X = [] ∨ ∃ g, B ≤ g ∧ a = some ⟨g, 0, none⟩ ∧ RowW w g (g + 1) X)
theorem WrR.rd {w : World} {B : Nat} {v : Value} {X : Rowi} (h : WrR w B v X) : RdR w v X := by
 obtain ⟨a, cap, hv, h⟩ := h
 refine ⟨a, cap, hv, ?_⟩
 rcases h with h | ⟨g, hB, ha, hr⟩
 ·exact .inl h
 ·refine .inr ⟨g, 0, ha, fun j hj => ?_⟩
  obtain ⟨u, h1, h2⟩ := hr.1 j hj
  exact ⟨u, by rw [Nat.zero_add]; exact h1, h2.rd⟩
theorem RowW.keep {w w' : World} {g C : Nat} {X : Rowi} (h : RowW w g C X) (hb : Below w.heap.size w w') (hg : g < w.heap.size) : RowW w' g C X :=
 ⟨fun j hj => by obtain ⟨u, h1, h2⟩ := h.1 j hj; exact ⟨u, by rw [← h1]; exact hb.cell hg, h2.keep hb⟩, fun j hj => by rw [← h.2 j hj]; exact hb.frozen hg⟩
theorem RowW.lt {w : World} {g C : Nat} {X : Rowi} (h : RowW w g C X) (hx : X ≠ []) : g < w.heap.size := by
 have : 0 < X.length := List.length_pos_iff.2 hx
 obtain ⟨u, h1, -⟩ := h.1 0 this
 exact World.block_lt_of_cell? w _ h1
theorem WrR.keep {w w' : World} {B : Nat} {v : Value} {X : Rowi} (h : WrR w B v X) (hb : Below w.heap.size w w') : WrR w' B v X := by
 obtain ⟨a, cap, hv, h⟩ := h
 refine ⟨a, cap, hv, ?_⟩
 by_cases hx : X = []
 ·exact .inl hx
 rcases h with h | ⟨g, hB, ha, hr⟩
 ·exact .inl h
 ·exact .inr ⟨g, hB, ha, hr.keep hb (hr.lt hx)⟩
theorem WrR.up {w : World} {B C : Nat} {v : Value} {X : Rowi} (h : WrR w B v X) (hC : C ≤ B) : WrR w C v X := by
 obtain ⟨a, cap, hv, h⟩ := h
 refine ⟨a, cap, hv, ?_⟩
 rcases h with h | ⟨g, hB, ha, hr⟩
 ·exact .inl h
 ·exact .inr ⟨g, by omega, ha, hr⟩
theorem RowW.set {w : World} {g : Nat} {X : Rowi} (h : RowW w g (g + 1) X) (k : Nat) (hk : k < X.length) {u : Value} {x : List Int} (hu : OwnI w (g + 1) u x) : RowW (w.setCell ⟨g, k, none⟩ u) g (g + 1) (X.set k x) := by
 refine ⟨fun j hj => ?_, fun j hj => ?_⟩
 ·rw [List.length_set] at hj
  by_cases e : k = j
  ·subst e
   obtain ⟨u', h1, -⟩ := h.1 k hk
   exact ⟨u, World.cell?_setCell_same _ _ _ h1, by rw [List.getElem_set_self]; exact hu.far (by simp) _⟩
  ·obtain ⟨u', h1, h2⟩ := h.1 j hj
   refine ⟨u', ?_, by rw [List.getElem_set_ne e]; exact h2.far (by simp) _⟩
   rw [World.cell?_setCell_other _ _ _ _ (by simpa using e)]
   exact h1
 ·rw [List.length_set] at hj
  rw [World.frozen?_setCell]; exact h.2 j hj
theorem RowW.zeros (w : World) (n C : Nat) (t : TypeId) : RowW (w.alloc (.cells (madeCells #[.slice none 0 0] n) t)) w.heap.size C (List.replicate n []) := by
 refine ⟨fun j hj => ⟨.slice none 0 0, ?_, ?_⟩, fun j hj => ?_⟩
 ·rw [List.length_replicate] at hj
  rw [World.cell?_alloc_mark, ← Array.getElem?_toList, toList_madeCells_one]
  simp [hj]
 ·rw [List.getElem_replicate]; exact ⟨none, 0, rfl, .inl rfl⟩
 ·rw [World.frozen?_alloc_mark]; simp
set_option maxHeartbeats 1000000 in
theorem szTrackS_any {w : World} {v : Value} {X : Rowi} (h : RdR w v X) (hs : SaneR X) (left : Int) (hl0 : 0 ≤ left) (hl1 : left ≤ 1048576) :
  Calls Tryz.prog 105 #[v, .int .i64 left] w (SzR left X.length (totalR X) w) := by
 obtain ⟨a, cap, rfl, h⟩ := h
 obtain ⟨hs1, hs2⟩ := hs
 have hlc : (X.length : Int) ≤ 9223372036854775807 := by omega
 by_cases hneg : left - (X.length : Int) < 0
 ·have z1 : decide (left - (X.length : Int) < 0) = true := by simpa using hneg
  go_enter Tryz.func105, Tryz.ntmps105
  go_wp2_with (fail)
  go_ret
  exact ⟨-1, rfl, .inl rfl, Below.refl _ _⟩
 ·have z1 : decide (left - (X.length : Int) < 0) = false := by simpa using hneg
  have hn20 : X.length ≤ 1048576 := by omega
  go_enter Tryz.func105, Tryz.ntmps105
  go_wp2_with (fail)
  go_loopw [1, 5] (fun x i wr => ∃ (k : Nat) (r : Int), k ≤ X.length ∧ i = .int .i64 (k : Int) ∧ x = .int .i64 r ∧ 0 ≤ r ∧ r = left - (X.length : Int) - (totalR (X.take k) : Int) ∧ Below w.heap.size w wr) (fun _ i _ => X.length - (intOf i).toNat)
  case atStart => exact ⟨0, left - (X.length : Int), Nat.zero_le _, rfl, rfl, by omega, by simp [totalR], Below.refl _ _⟩
  case round =>
   obtain ⟨k, r, hk, rfl, rfl, hr0, hr, hbel⟩ := hrel
   have hr1 : r ≤ 1048576 := by omega
   by_cases hkl : k < X.length
   ·obtain ⟨b, off, rfl, hc⟩ := h.resolve_left (by intro e; rw [e] at hkl; simp at hkl)
    have hsn := totalR_snoc X k hkl
    obtain ⟨u, c0, hrd⟩ := hc k hkl
    have c1 : wr.cell? ⟨b, off + k, none⟩ = some u := (hbel.cell (World.block_lt_of_cell? w _ c0)).trans c0
    have hx3 := hs2 X[k] (List.getElem_mem _)
    have hS := szTrack_any (hrd.keep hbel) hx3 r hr0 hr1
    have hkk : (k : Int) < (X.length : Int) := by omega
    have HR := Lib.hid hr
    have HN := Lib.hid hsn
    clear hc h hr hsn hneg c0 hrd
    generalize X[k].length = m at *
    go_wp2_with (fail)
    refine hS.mono ?_
    rintro e w1 ⟨q, rfl, hq, hb1⟩
    rcases hq with rfl | ⟨hq0, hq1⟩
    ·go_wp2_with (fail)
     go_ret
     exact ⟨-1, rfl, .inl rfl, hbel.trans (hb1.mono hbel.size)⟩
    ·have z2 : decide (q < 0) = false := by simpa using hq0
     have HQ := Lib.hid hq1
     clear hq1
     go_wp2_with (fail)
     go_roundw
     case rel => exact ⟨k + 1, q, by omega, by go_num, rfl, hq0, by have := HR.out; have := HN.out; have := HQ.out; omega, hbel.trans (hb1.mono hbel.size)⟩
     case measure => simp [intOf]; omega
   ·have e : k = X.length := by omega
    subst e
    rw [List.take_of_length_le (Nat.le_refl _)] at hr
    have HR := Lib.hid hr
    clear hr
    go_wp2_with (fail)
    go_ret
    exact ⟨r, rfl, .inr ⟨hr0, HR.out⟩, hbel⟩
theorem info_TrackS : (Tryz.prog.info? 118).map (fun i => (i.zero, i.size, i.bytes)) = some (some (.agg #[.slice none 0 0]), 1, 24) := by kernel_rfl
theorem run_make_TrackS (W : World) (n : Nat) (hn : n ≤ 1048576) : (Instr.makeSlice 60 (.int .i64 (n : Int)) (.int .i64 (n : Int))).run Tryz.prog W = .ok (.slice (some ⟨W.heap.size, 0, none⟩) n n) (W.alloc (.cells (madeCells #[.slice none 0 0] n) 118)) := by
 obtain ⟨i0, hi, hz0, hz1, hz2⟩ := info_parts info_TrackS
 have := run_make (P := Tryz.prog) W 60 118 i0 (.agg #[.slice none 0 0]) Tryz.underlying60 hi hz0 .i64 .i64 n n (by omega) (Int.le_refl _) (by rw [hz2]; omega) (by omega)
 rw [this, hz1, Nat.mul_one, Int.toNat_natCast]; rfl
def RetTrackS (w : World) (X : Rowi) (e : Ending) (w' : World) : Prop := ∃ v, e = .returned v ∧ WrR w' w.heap.size v X ∧ Below w.heap.size w w'
set_option maxHeartbeats 1000000 in
theorem toTrackS_any {w : World} {v : Value} {X : Rowi} (h : RdR w v X) (hn : X.length ≤ 1048576) (hi : ∀ x ∈ X, x.length ≤ 1048576) :
  Calls Tryz.prog 109 #[v] w (RetTrackS w X) := by
 obtain ⟨a, cap, rfl, h⟩ := h
 have hmk := fun W => run_make_TrackS W X.length hn
 by_cases hx : X = []
 ·subst hx
  have hmk0 : ∀ W, (Instr.makeSlice 60 (.int .i64 0) (.int .i64 0)).run Tryz.prog W = .ok (.slice (some ⟨W.heap.size, 0, none⟩) 0 0) (W.alloc (.cells (madeCells #[.slice none 0 0] 0) 118)) := fun W => run_make_TrackS W 0 (by omega)
  clear hmk
  go_enter Tryz.func109, Tryz.ntmps109
  go_wp2
  refine wp_loop_once ?_
  go_wp2
  go_ret
  exact ⟨_, rfl, ⟨_, _, rfl, .inl rfl⟩, (Below.refl _ _).alloc (Nat.le_refl _) _⟩
 ·obtain ⟨b, off, rfl, hc⟩ := h.resolve_left hx
  have hpos : 0 < X.length := List.length_pos_iff.2 hx
  go_enter Tryz.func109, Tryz.ntmps109
  go_wp2_with (fail)
  go_loopw [4] (fun i wr => ∃ (k : Nat) (L : Rowi), k ≤ X.length ∧ i = .int .i64 (k : Int) ∧ L.length = X.length ∧ L.take k = X.take k ∧ RowW wr w.heap.size (w.heap.size + 1) L ∧ Below w.heap.size w wr) (fun i _ => X.length - (intOf i).toNat)
  case atStart =>
   exact ⟨0, _, Nat.zero_le _, rfl, List.length_replicate, rfl, RowW.zeros w _ _ _, (Below.refl _ _).alloc (Nat.le_refl _) _⟩
  case round =>
   obtain ⟨k, L, hk, rfl, hL, htk, hrow, hbel⟩ := hrel
   by_cases hkl : k < X.length
   ·obtain ⟨u, c0, hrd⟩ := hc k hkl
    have c1 : wr.cell? ⟨b, off + k, none⟩ = some u := (hbel.cell (World.block_lt_of_cell? w _ c0)).trans c0
    have hgl : w.heap.size < wr.heap.size := hrow.lt (by intro e; rw [e] at hL; simp at hL; omega)
    have HX : Hid (X[k] = X[k]) := Lib.hid rfl
    obtain ⟨x, hx'⟩ : ∃ x, x = X[k] := ⟨_, rfl⟩
    have hT := toTrack_any (hrd.keep hbel) (by have := hi X[k] (List.getElem_mem _); omega)
    rw [← hx'] at hT
    have HXK := Lib.hid hx'
    have hkk : (k : Int) < (X.length : Int) := by omega
    have HRW := Lib.hid hrow
    have HL := Lib.hid hL
    have HT := Lib.hid htk
    clear hrow hL htk hrd c0 hx' HX
    go_wp2_with (fail)
    refine hT.mono ?_
    rintro e w1 ⟨v1, rfl, ho, hb1⟩
    have hrow := HRW.out.keep hb1 hgl
    have hbel1 := hbel.trans (hb1.mono hbel.size)
    have hkL : k < L.length := by rw [HL.out]; exact hkl
    obtain ⟨u2, c2, -⟩ := hrow.1 k hkL
    have f2 := hrow.2 k hkL
    have HS := Lib.hid (hrow.set k hkL (ho.up (by omega)))
    clear hrow HRW
    obtain ⟨a1, cp1, rfl, -⟩ := id ho
    go_wp2_with (fail)
    go_roundw
    case rel =>
     refine ⟨k + 1, L.set k x, by omega, by go_num, by rw [List.length_set]; exact HL.out, ?_, HS.out, hbel1.setCell (Nat.le_refl _) _⟩
     rw [List.take_succ_eq_append_getElem (by rw [List.length_set, HL.out]; exact hkl), List.take_succ_eq_append_getElem hkl, List.take_set_of_le (Nat.le_refl _), HT.out, List.getElem_set_self, HXK.out]
    case measure => simp [intOf]; omega
   ·have e : L = X := by
     rw [List.take_of_length_le (by omega), List.take_of_length_le (by omega)] at htk
     exact htk
    subst e
    go_wp2_with (fail)
    go_ret
    exact ⟨_, rfl, ⟨_, _, rfl, .inr ⟨_, Nat.le_refl _, rfl, hrow⟩⟩, hbel⟩
set_option maxHeartbeats 1000000 in
theorem eqTrackS_rows {w : World} {v v' : Value} {X : Rowi} (h : RdR w v X) (h' : RdR w v' X) (hn : X.length ≤ 1048576) (hi : ∀ x ∈ X, x.length ≤ 1048576) :
  Calls Tryz.prog 93 #[v, v'] w fun e w' => e = .returned (.bool true) ∧ Below w.heap.size w w' := by
 obtain ⟨a, cap, rfl, h⟩ := h
 obtain ⟨a', cap', rfl, h'⟩ := h'
 by_cases hx : X = []
 ·subst hx
  go_enter Tryz.func93, Tryz.ntmps93
  go_wp2_with (fail)
  refine wp_loop_once ?_
  go_wp2_with (fail)
  go_ret
  exact ⟨rfl, Below.refl _ _⟩
 ·obtain ⟨b, off, rfl, hc⟩ := h.resolve_left hx
  obtain ⟨b', off', rfl, hc'⟩ := h'.resolve_left hx
  have HC := Lib.hid hc
  have HC' := Lib.hid hc'
  clear h h' hc hc'
  go_enter Tryz.func93, Tryz.ntmps93
  go_wp2_with (fail)
  go_loopw [5] (fun i wr => ∃ k : Nat, k ≤ X.length ∧ i = .int .i64 (k : Int) ∧ Below w.heap.size w wr) (fun i _ => X.length - (intOf i).toNat)
  case atStart => exact ⟨0, Nat.zero_le _, rfl, Below.refl _ _⟩
  case round =>
   obtain ⟨k, hk, rfl, hbel⟩ := hrel
   by_cases hkl : k < X.length
   ·obtain ⟨x, c0, r0⟩ := HC.out k hkl
    obtain ⟨y, d0, q0⟩ := HC'.out k hkl
    have c1 : wr.cell? ⟨b, off + k, none⟩ = some x := (hbel.cell (World.block_lt_of_cell? w _ c0)).trans c0
    have c2 : wr.cell? ⟨b', off' + k, none⟩ = some y := (hbel.cell (World.block_lt_of_cell? w _ d0)).trans d0
    have R3 := r0.keep hbel
    have R4 := q0.keep hbel
    have hxs : X[k].length ≤ 1099511627776 := by have := hi X[k] (List.getElem_mem _); omega
    have hkk : (k : Int) < (X.length : Int) := by omega
    clear c0 d0 r0 q0
    generalize X[k] = xs at R3 R4 hxs
    have hsz := hbel.size
    obtain ⟨ax, cx, rfl, -⟩ := id R3
    obtain ⟨ay, cy, rfl, -⟩ := id R4
    go_wp2_with (fail)
    go_region_held3 (fun w' => w'.cell? ⟨b, off + k, none⟩ = some (.slice ax xs.length cx) ∧ w'.cell? ⟨b', off' + k, none⟩ = some (.slice ay xs.length cy)) (first | go_keep | exact ⟨c3, c4⟩)
     (first | (go_at_call 172; refine (eqTrack_same (RdI.keep R3 (belowDrew _ 1)) (RdI.keep R4 (belowDrew _ 1)) hxs).mono ?_; rintro e w1 ⟨rfl, hb1⟩; have hb3 := (belowDrew wr 1).trans (hb1.mono (by simp)); have c3 := (hb3.cell (World.block_lt_of_cell? wr _ c1)).trans c1; have c4 := (hb3.cell (World.block_lt_of_cell? wr _ c2)).trans c2))
    go_wp2_with (fail)
    go_roundw
    case rel => exact ⟨k + 1, by omega, by go_num, hbel.trans (Below.mono hb3 hsz)⟩
    case measure => simp [intOf]; omega
   ·go_wp2_with (fail)
    go_ret
    exact ⟨rfl, hbel⟩
set_option maxHeartbeats 1000000 in
theorem szIntSS_any {w : World} {v : Value} {X : Rowi} (h : RdR w v X) (hs : SaneR X) (left : Int) (hl0 : 0 ≤ left) (hl1 : left ≤ 1048576) :
  Calls Tryz.prog 106 #[v, .int .i64 left] w (SzR left X.length (totalR X) w) := by
 obtain ⟨a, cap, rfl, h⟩ := h
 obtain ⟨hs1, hs2⟩ := hs
 have hlc : (X.length : Int) ≤ 9223372036854775807 := by omega
 by_cases hneg : left - (X.length : Int) < 0
 ·have z1 : decide (left - (X.length : Int) < 0) = true := by simpa using hneg
  go_enter Tryz.func106, Tryz.ntmps106
  go_wp2_with (fail)
  go_ret
  exact ⟨-1, rfl, .inl rfl, Below.refl _ _⟩
 ·have z1 : decide (left - (X.length : Int) < 0) = false := by simpa using hneg
  have hn20 : X.length ≤ 1048576 := by omega
  go_enter Tryz.func106, Tryz.ntmps106
  go_wp2_with (fail)
  go_loopw [1, 5] (fun x i wr => ∃ (k : Nat) (r : Int), k ≤ X.length ∧ i = .int .i64 (k : Int) ∧ x = .int .i64 r ∧ 0 ≤ r ∧ r = left - (X.length : Int) - (totalR (X.take k) : Int) ∧ Below w.heap.size w wr) (fun _ i _ => X.length - (intOf i).toNat)
  case atStart => exact ⟨0, left - (X.length : Int), Nat.zero_le _, rfl, rfl, by omega, by simp [totalR], Below.refl _ _⟩
  case round =>
   obtain ⟨k, r, hk, rfl, rfl, hr0, hr, hbel⟩ := hrel
   have hr1 : r ≤ 1048576 := by omega
   by_cases hkl : k < X.length
   ·obtain ⟨b, off, rfl, hc⟩ := h.resolve_left (by intro e; rw [e] at hkl; simp at hkl)
    have hsn := totalR_snoc X k hkl
    obtain ⟨u, c0, hrd⟩ := hc k hkl
    have c1 : wr.cell? ⟨b, off + k, none⟩ = some u := (hbel.cell (World.block_lt_of_cell? w _ c0)).trans c0
    have hx3 := hs2 X[k] (List.getElem_mem _)
    have hS := szIntS_any (hrd.keep hbel) hx3 r hr0 hr1
    have hkk : (k : Int) < (X.length : Int) := by omega
    have HR := Lib.hid hr
    have HN := Lib.hid hsn
    clear hc h hr hsn hneg c0 hrd
    generalize X[k].length = m at *
    go_wp2_with (fail)
    refine hS.mono ?_
    rintro e w1 ⟨q, rfl, hq, rfl⟩
    rcases hq with rfl | ⟨hq0, hq1⟩
    ·go_wp2_with (fail)
     go_ret
     exact ⟨-1, rfl, .inl rfl, hbel⟩
    ·have z2 : decide (q < 0) = false := by simpa using hq0
     have HQ := Lib.hid hq1
     clear hq1
     go_wp2_with (fail)
     go_roundw
     case rel => exact ⟨k + 1, q, by omega, by go_num, rfl, hq0, by have := HR.out; have := HN.out; have := HQ.out; omega, hbel⟩
     case measure => simp [intOf]; omega
   ·have e : k = X.length := by omega
    subst e
    rw [List.take_of_length_le (Nat.le_refl _)] at hr
    have HR := Lib.hid hr
    clear hr
    go_wp2_with (fail)
    go_ret
    exact ⟨r, rfl, .inr ⟨hr0, HR.out⟩, hbel⟩
theorem info_IntSS : (Tryz.prog.info? 27).map (fun i => (i.zero, i.size, i.bytes)) = some (some (.slice none 0 0), 1, 24) := by kernel_rfl
theorem run_make_IntSS (W : World) (n : Nat) (hn : n ≤ 1048576) : (Instr.makeSlice 31 (.int .i64 (n : Int)) (.int .i64 (n : Int))).run Tryz.prog W = .ok (.slice (some ⟨W.heap.size, 0, none⟩) n n) (W.alloc (.cells (madeCells #[.slice none 0 0] n) 27)) := by
 obtain ⟨i0, hi, hz0, hz1, hz2⟩ := info_parts info_IntSS
 have := run_make (P := Tryz.prog) W 31 27 i0 (.slice none 0 0) Tryz.underlying31 hi hz0 .i64 .i64 n n (by omega) (Int.le_refl _) (by rw [hz2]; omega) (by omega)
 rw [this, hz1, Nat.mul_one, Int.toNat_natCast]; rfl
def RetIntSS (w : World) (X : Rowi) (e : Ending) (w' : World) : Prop := ∃ v, e = .returned v ∧ WrR w' w.heap.size v X ∧ Below w.heap.size w w'
set_option maxHeartbeats 1000000 in
theorem toIntSS_any {w : World} {v : Value} {X : Rowi} (h : RdR w v X) (hn : X.length ≤ 1048576) (hi : ∀ x ∈ X, x.length ≤ 1048576) :
  Calls Tryz.prog 110 #[v] w (RetIntSS w X) := by
 obtain ⟨a, cap, rfl, h⟩ := h
 have hmk := fun W => run_make_IntSS W X.length hn
 by_cases hx : X = []
 ·subst hx
  have hmk0 : ∀ W, (Instr.makeSlice 31 (.int .i64 0) (.int .i64 0)).run Tryz.prog W = .ok (.slice (some ⟨W.heap.size, 0, none⟩) 0 0) (W.alloc (.cells (madeCells #[.slice none 0 0] 0) 27)) := fun W => run_make_IntSS W 0 (by omega)
  clear hmk
  go_enter Tryz.func110, Tryz.ntmps110
  go_wp2
  refine wp_loop_once ?_
  go_wp2
  go_ret
  exact ⟨_, rfl, ⟨_, _, rfl, .inl rfl⟩, (Below.refl _ _).alloc (Nat.le_refl _) _⟩
 ·obtain ⟨b, off, rfl, hc⟩ := h.resolve_left hx
  have hpos : 0 < X.length := List.length_pos_iff.2 hx
  go_enter Tryz.func110, Tryz.ntmps110
  go_wp2_with (fail)
  go_loopw [4] (fun i wr => ∃ (k : Nat) (L : Rowi), k ≤ X.length ∧ i = .int .i64 (k : Int) ∧ L.length = X.length ∧ L.take k = X.take k ∧ RowW wr w.heap.size (w.heap.size + 1) L ∧ Below w.heap.size w wr) (fun i _ => X.length - (intOf i).toNat)
  case atStart =>
   exact ⟨0, _, Nat.zero_le _, rfl, List.length_replicate, rfl, RowW.zeros w _ _ _, (Below.refl _ _).alloc (Nat.le_refl _) _⟩
  case round =>
   obtain ⟨k, L, hk, rfl, hL, htk, hrow, hbel⟩ := hrel
   by_cases hkl : k < X.length
   ·obtain ⟨u, c0, hrd⟩ := hc k hkl
    have c1 : wr.cell? ⟨b, off + k, none⟩ = some u := (hbel.cell (World.block_lt_of_cell? w _ c0)).trans c0
    have hgl : w.heap.size < wr.heap.size := hrow.lt (by intro e; rw [e] at hL; simp at hL; omega)
    have HX : Hid (X[k] = X[k]) := Lib.hid rfl
    obtain ⟨x, hx'⟩ : ∃ x, x = X[k] := ⟨_, rfl⟩
    have hT := toIntS_own (hrd.keep hbel) (by have := hi X[k] (List.getElem_mem _); omega)
    rw [← hx'] at hT
    have HXK := Lib.hid hx'
    have hkk : (k : Int) < (X.length : Int) := by omega
    have HRW := Lib.hid hrow
    have HL := Lib.hid hL
    have HT := Lib.hid htk
    clear hrow hL htk hrd c0 hx' HX
    go_wp2_with (fail)
    refine hT.mono ?_
    rintro e w1 ⟨v1, rfl, ho, hb1⟩
    have hrow := HRW.out.keep hb1 hgl
    have hbel1 := hbel.trans (hb1.mono hbel.size)
    have hkL : k < L.length := by rw [HL.out]; exact hkl
    obtain ⟨u2, c2, -⟩ := hrow.1 k hkL
    have f2 := hrow.2 k hkL
    have HS := Lib.hid (hrow.set k hkL (ho.up (by omega)))
    clear hrow HRW
    obtain ⟨a1, cp1, rfl, -⟩ := id ho
    go_wp2_with (fail)
    go_roundw
    case rel =>
     refine ⟨k + 1, L.set k x, by omega, by go_num, by rw [List.length_set]; exact HL.out, ?_, HS.out, hbel1.setCell (Nat.le_refl _) _⟩
     rw [List.take_succ_eq_append_getElem (by rw [List.length_set, HL.out]; exact hkl), List.take_succ_eq_append_getElem hkl, List.take_set_of_le (Nat.le_refl _), HT.out, List.getElem_set_self, HXK.out]
    case measure => simp [intOf]; omega
   ·have e : L = X := by
     rw [List.take_of_length_le (by omega), List.take_of_length_le (by omega)] at htk
     exact htk
    subst e
    go_wp2_with (fail)
    go_ret
    exact ⟨_, rfl, ⟨_, _, rfl, .inr ⟨_, Nat.le_refl _, rfl, hrow⟩⟩, hbel⟩
set_option maxHeartbeats 1000000 in
theorem eqIntSS_rows {w : World} {v v' : Value} {X : Rowi} (h : RdR w v X) (h' : RdR w v' X) (hn : X.length ≤ 1048576) (hi : ∀ x ∈ X, x.length ≤ 1048576) :
  Calls Tryz.prog 94 #[v, v'] w fun e w' => e = .returned (.bool true) ∧ Below w.heap.size w w' := by
 obtain ⟨a, cap, rfl, h⟩ := h
 obtain ⟨a', cap', rfl, h'⟩ := h'
 by_cases hx : X = []
 ·subst hx
  go_enter Tryz.func94, Tryz.ntmps94
  go_wp2_with (fail)
  refine wp_loop_once ?_
  go_wp2_with (fail)
  go_ret
  exact ⟨rfl, Below.refl _ _⟩
 ·obtain ⟨b, off, rfl, hc⟩ := h.resolve_left hx
  obtain ⟨b', off', rfl, hc'⟩ := h'.resolve_left hx
  have HC := Lib.hid hc
  have HC' := Lib.hid hc'
  clear h h' hc hc'
  go_enter Tryz.func94, Tryz.ntmps94
  go_wp2_with (fail)
  go_loopw [5] (fun i wr => ∃ k : Nat, k ≤ X.length ∧ i = .int .i64 (k : Int) ∧ Below w.heap.size w wr) (fun i _ => X.length - (intOf i).toNat)
  case atStart => exact ⟨0, Nat.zero_le _, rfl, Below.refl _ _⟩
  case round =>
   obtain ⟨k, hk, rfl, hbel⟩ := hrel
   by_cases hkl : k < X.length
   ·obtain ⟨x, c0, r0⟩ := HC.out k hkl
    obtain ⟨y, d0, q0⟩ := HC'.out k hkl
    have c1 : wr.cell? ⟨b, off + k, none⟩ = some x := (hbel.cell (World.block_lt_of_cell? w _ c0)).trans c0
    have c2 : wr.cell? ⟨b', off' + k, none⟩ = some y := (hbel.cell (World.block_lt_of_cell? w _ d0)).trans d0
    have R3 := r0.keep hbel
    have R4 := q0.keep hbel
    have hxs : X[k].length ≤ 1099511627776 := by have := hi X[k] (List.getElem_mem _); omega
    have hkk : (k : Int) < (X.length : Int) := by omega
    clear c0 d0 r0 q0
    generalize X[k] = xs at R3 R4 hxs
    have hsz := hbel.size
    obtain ⟨ax, cx, rfl, -⟩ := id R3
    obtain ⟨ay, cy, rfl, -⟩ := id R4
    go_wp2_with (fail)
    go_region_held3 (fun w' => w'.cell? ⟨b, off + k, none⟩ = some (.slice ax xs.length cx) ∧ w'.cell? ⟨b', off' + k, none⟩ = some (.slice ay xs.length cy)) (first | go_keep | exact ⟨c3, c4⟩)
     (first | (go_at_call 28; refine (eqIntS_same (RdI.keep R3 (belowDrew _ 1)) (RdI.keep R4 (belowDrew _ 1)) hxs).mono ?_; rintro e w1 ⟨rfl, q, rfl⟩; have hb3 : Below wr.heap.size wr ((wr.drewN 1).drewN q) := ⟨rfl, rfl, rfl, Nat.le_refl _, fun _ _ => rfl⟩; have c3 := (hb3.cell (World.block_lt_of_cell? wr _ c1)).trans c1; have c4 := (hb3.cell (World.block_lt_of_cell? wr _ c2)).trans c2))
    go_wp2_with (fail)
    go_roundw
    case rel => exact ⟨k + 1, by omega, by go_num, hbel.trans ⟨rfl, rfl, rfl, Nat.le_refl _, fun _ _ => rfl⟩⟩
    case measure => simp [intOf]; omega
   ·go_wp2_with (fail)
    go_ret
    exact ⟨rfl, hbel⟩
end Go.Proofs.YtnlonkkbjkfkmaaGreatDoor
