/-
  Texts of this proof: RowL, Oin.
-/
import Derived.Test.YtlffkcmbeolohaaGreatDoorM14
import Derived.Deep.RegionHeld3
namespace Go.Proofs.YtlffkcmbeolohaaGreatDoor
open Go.RowKit
set_option linter.all false
def RowW (w : World) (g C : Nat) (X : Rowi) : Prop := (∀ j (h : j < X.length), ∃ u, w.cell? ⟨g, j, none⟩ = some u ∧ OwnI w C u X[j]) ∧ ∀ j, j < X.length → w.frozen? ⟨g, j, none⟩ = false
def WrR (w : World) (B : Nat) (v : Value) (X : Rowi) : Prop := ∃ a cap, v = .slice a X.length cap ∧ (X = [] ∨ ∃ g, B ≤ g ∧ a = some ⟨g, 0, none⟩ ∧ RowW w g (g + 1) X)
theorem WrR.rd {w : World} {B : Nat} {v : Value} {X : Rowi} (h : WrR w B v X) : RdR w v X := by
  obtain ⟨a, cap, hv, h⟩ := h
  refine ⟨a, cap, hv, ?_⟩
  rcases h with h | ⟨g, hB, ha, hr⟩
  · exact .inl h
  · refine .inr ⟨g, 0, ha, fun j hj => ?_⟩
    obtain ⟨u, h1, h2⟩ := hr.1 j hj
    exact ⟨u, by rw [Nat.zero_add]; exact h1, h2.rd⟩
theorem RowW.keep {w w' : World} {g C : Nat} {X : Rowi} (h : RowW w g C X) (hb : Below w.heap.size w w') (hg : g < w.heap.size) : RowW w' g C X :=
  ⟨fun j hj => by obtain ⟨u, h1, h2⟩ := h.1 j hj; exact ⟨u, by rw [← h1]; exact hb.cell hg, h2.keep hb⟩, fun j hj => by rw [← h.2 j hj]; exact hb.frozen hg⟩
theorem RowW.lt {w : World} {g C : Nat} {X : Rowi} (h : RowW w g C X) (hx : X ≠ []) : g < w.heap.size := by
  have : 0 < X.length := List.length_pos_iff.2 hx
  obtain ⟨u, h1, -⟩ := h.1 0 this
  exact World.block_lt_of_cell? w _ h1
theorem WrR.keep {w w' : World} {B : Nat} {v : Value} {X : Rowi} (h : WrR w B v X) (hb : Below w.heap.size w w') : WrR w' B v X := by
  obtain ⟨a, cap, hv, h⟩ := h
  refine ⟨a, cap, hv, ?_⟩
  by_cases hx : X = []
  · exact .inl hx
  rcases h with h | ⟨g, hB, ha, hr⟩
  · exact .inl h
  · exact .inr ⟨g, hB, ha, hr.keep hb (hr.lt hx)⟩
theorem WrR.up {w : World} {B C : Nat} {v : Value} {X : Rowi} (h : WrR w B v X) (hC : C ≤ B) : WrR w C v X := by
  obtain ⟨a, cap, hv, h⟩ := h
  refine ⟨a, cap, hv, ?_⟩
  rcases h with h | ⟨g, hB, ha, hr⟩
  · exact .inl h
  · exact .inr ⟨g, by omega, ha, hr⟩
theorem RowW.set {w : World} {g : Nat} {X : Rowi} (h : RowW w g (g + 1) X) (k : Nat) (hk : k < X.length) {u : Value} {x : List Int} (hu : OwnI w (g + 1) u x) : RowW (w.setCell ⟨g, k, none⟩ u) g (g + 1) (X.set k x) := by
  refine ⟨fun j hj => ?_, fun j hj => ?_⟩
  · rw [List.length_set] at hj
    by_cases e : k = j
    · subst e
      obtain ⟨u', h1, -⟩ := h.1 k hk
      exact ⟨u, World.cell?_setCell_same _ _ _ h1, by rw [List.getElem_set_self]; exact hu.far (by simp) _⟩
    · obtain ⟨u', h1, h2⟩ := h.1 j hj
      refine ⟨u', ?_, by rw [List.getElem_set_ne e]; exact h2.far (by simp) _⟩
      rw [World.cell?_setCell_other _ _ _ _ (by simpa using e)]
      exact h1
  · rw [List.length_set] at hj
    rw [World.frozen?_setCell]; exact h.2 j hj
theorem RowW.zeros (w : World) (n C : Nat) (t : TypeId) : RowW (w.alloc (.cells (madeCells #[.slice none 0 0] n) t)) w.heap.size C (List.replicate n []) := by
  refine ⟨fun j hj => ⟨.slice none 0 0, ?_, ?_⟩, fun j hj => ?_⟩
  · rw [List.length_replicate] at hj
    rw [World.cell?_alloc_mark, ← Array.getElem?_toList, toList_madeCells_one]
    simp [hj]
  · rw [List.getElem_replicate]; exact ⟨none, 0, rfl, .inl rfl⟩
  · rw [World.frozen?_alloc_mark]; simp
set_option maxHeartbeats 1000000 in
theorem szIntSS_any {w : World} {v : Value} {X : Rowi} (h : RdR w v X) (hs : SaneR X) (left : Int) (hl0 : 0 ≤ left) (hl1 : left ≤ 1048576) :
    Calls Tryz.prog 18 #[v, .int .i64 left] w (SzR left X.length (totalR X) w) := by
  obtain ⟨a, cap, rfl, h⟩ := h
  obtain ⟨hs1, hs2⟩ := hs
  have hlc : (X.length : Int) ≤ 9223372036854775807 := by omega
  by_cases hneg : left - (X.length : Int) < 0
  · have z1 : decide (left - (X.length : Int) < 0) = true := by simpa using hneg
    go_enter Tryz.func18, Tryz.ntmps18
    go_wp2_with (fail)
    go_ret
    exact ⟨-1, rfl, .inl rfl, Below.refl _ _⟩
  · have z1 : decide (left - (X.length : Int) < 0) = false := by simpa using hneg
    have hn20 : X.length ≤ 1048576 := by omega
    go_enter Tryz.func18, Tryz.ntmps18
    go_wp2_with (fail)
    go_loopw [1, 5] (fun x i wr => ∃ (k : Nat) (r : Int), k ≤ X.length ∧ i = .int .i64 (k : Int) ∧ x = .int .i64 r ∧ 0 ≤ r ∧ r = left - (X.length : Int) - (totalR (X.take k) : Int) ∧ Below w.heap.size w wr) (fun _ i _ => X.length - (intOf i).toNat)
    case atStart => exact ⟨0, left - (X.length : Int), Nat.zero_le _, rfl, rfl, by omega, by simp [totalR], Below.refl _ _⟩
    case round =>
      obtain ⟨k, r, hk, rfl, rfl, hr0, hr, hbel⟩ := hrel
      have hr1 : r ≤ 1048576 := by omega
      by_cases hkl : k < X.length
      · obtain ⟨b, off, rfl, hc⟩ := h.resolve_left (by intro e; rw [e] at hkl; simp at hkl)
        have hsn := totalR_snoc X k hkl
        obtain ⟨u, c0, hrd⟩ := hc k hkl
        have c1 : wr.cell? ⟨b, off + k, none⟩ = some u := (hbel.cell (World.block_lt_of_cell? w _ c0)).trans c0
        have hx3 := hs2 X[k] (List.getElem_mem _)
        have hS := szIntS_any (hrd.keep hbel) hx3 r hr0 hr1
        have hkk : (k : Int) < (X.length : Int) := by omega
        have HR := Lib.hid hr
        have HN := Lib.hid hsn
        clear hc h hr hsn hneg c0 hrd
        generalize X[k].length = m at *
        go_wp2_with (fail)
        refine hS.mono ?_
        rintro e w1 ⟨q, rfl, hq, rfl⟩
        rcases hq with rfl | ⟨hq0, hq1⟩
        · go_wp2_with (fail)
          go_ret
          exact ⟨-1, rfl, .inl rfl, hbel⟩
        · have z2 : decide (q < 0) = false := by simpa using hq0
          have HQ := Lib.hid hq1
          clear hq1
          go_wp2_with (fail)
          go_roundw
          case rel => exact ⟨k + 1, q, by omega, by go_num, rfl, hq0, by have := HR.out; have := HN.out; have := HQ.out; omega, hbel⟩
          case measure => simp [intOf]; omega
      · have e : k = X.length := by omega
        subst e
        rw [List.take_of_length_le (Nat.le_refl _)] at hr
        have HR := Lib.hid hr
        clear hr
        go_wp2_with (fail)
        go_ret
        exact ⟨r, rfl, .inr ⟨hr0, HR.out⟩, hbel⟩
theorem info_IntSS : (Tryz.prog.info? 25).map (fun i => (i.zero, i.size, i.bytes)) = some (some (.slice none 0 0), 1, 24) := by kernel_rfl
theorem run_make_IntSS (W : World) (n : Nat) (hn : n ≤ 1048576) : (Instr.makeSlice 42 (.int .i64 (n : Int)) (.int .i64 (n : Int))).run Tryz.prog W = .ok (.slice (some ⟨W.heap.size, 0, none⟩) n n) (W.alloc (.cells (madeCells #[.slice none 0 0] n) 25)) := by
  obtain ⟨i0, hi, hz0, hz1, hz2⟩ := info_parts info_IntSS
  have := run_make (P := Tryz.prog) W 42 25 i0 (.slice none 0 0) Tryz.underlying42 hi hz0 .i64 .i64 n n (by omega) (Int.le_refl _) (by rw [hz2]; omega) (by omega)
  rw [this, hz1, Nat.mul_one, Int.toNat_natCast]; rfl
def RetIntSS (w : World) (X : Rowi) (e : Ending) (w' : World) : Prop := ∃ v, e = .returned v ∧ WrR w' w.heap.size v X ∧ Below w.heap.size w w'
set_option maxHeartbeats 1000000 in
theorem toIntSS_any {w : World} {v : Value} {X : Rowi} (h : RdR w v X) (hn : X.length ≤ 1048576) (hi : ∀ x ∈ X, x.length ≤ 1048576) :
    Calls Tryz.prog 20 #[v] w (RetIntSS w X) := by
  obtain ⟨a, cap, rfl, h⟩ := h
  have hmk := fun W => run_make_IntSS W X.length hn
  by_cases hx : X = []
  · subst hx
    have hmk0 : ∀ W, (Instr.makeSlice 42 (.int .i64 0) (.int .i64 0)).run Tryz.prog W = .ok (.slice (some ⟨W.heap.size, 0, none⟩) 0 0) (W.alloc (.cells (madeCells #[.slice none 0 0] 0) 25)) := fun W => run_make_IntSS W 0 (by omega)
    clear hmk
    go_enter Tryz.func20, Tryz.ntmps20
    go_wp2
    refine wp_loop_once ?_
    go_wp2
    go_ret
    exact ⟨_, rfl, ⟨_, _, rfl, .inl rfl⟩, (Below.refl _ _).alloc (Nat.le_refl _) _⟩
  · obtain ⟨b, off, rfl, hc⟩ := h.resolve_left hx
    have hpos : 0 < X.length := List.length_pos_iff.2 hx
    go_enter Tryz.func20, Tryz.ntmps20
    go_wp2_with (fail)
    go_loopw [4] (fun i wr => ∃ (k : Nat) (L : Rowi), k ≤ X.length ∧ i = .int .i64 (k : Int) ∧ L.length = X.length ∧ L.take k = X.take k ∧ RowW wr w.heap.size (w.heap.size + 1) L ∧ Below w.heap.size w wr) (fun i _ => X.length - (intOf i).toNat)
    case atStart =>
      exact ⟨0, _, Nat.zero_le _, rfl, List.length_replicate, rfl, RowW.zeros w _ _ _, (Below.refl _ _).alloc (Nat.le_refl _) _⟩
    case round =>
      obtain ⟨k, L, hk, rfl, hL, htk, hrow, hbel⟩ := hrel
      by_cases hkl : k < X.length
      · obtain ⟨u, c0, hrd⟩ := hc k hkl
        have c1 : wr.cell? ⟨b, off + k, none⟩ = some u := (hbel.cell (World.block_lt_of_cell? w _ c0)).trans c0
        have hgl : w.heap.size < wr.heap.size := hrow.lt (by intro e; rw [e] at hL; simp at hL; omega)
        have HX : Hid (X[k] = X[k]) := Lib.hid rfl
        obtain ⟨x, hx'⟩ : ∃ x, x = X[k] := ⟨_, rfl⟩
        have hT := toIntS_own (hrd.keep hbel) (by have := hi X[k] (List.getElem_mem _); omega)
        rw [← hx'] at hT
        have HXK := Lib.hid hx'
        have hkk : (k : Int) < (X.length : Int) := by omega
        have HRW := Lib.hid hrow
        have HL := Lib.hid hL
        have HT := Lib.hid htk
        clear hrow hL htk hrd c0 hx' HX
        go_wp2_with (fail)
        refine hT.mono ?_
        rintro e w1 ⟨v1, rfl, ho, hb1⟩
        have hrow := HRW.out.keep hb1 hgl
        have hbel1 := hbel.trans (hb1.mono hbel.size)
        have hkL : k < L.length := by rw [HL.out]; exact hkl
        obtain ⟨u2, c2, -⟩ := hrow.1 k hkL
        have f2 := hrow.2 k hkL
        have HS := Lib.hid (hrow.set k hkL (ho.up (by omega)))
        clear hrow HRW
        obtain ⟨a1, cp1, rfl, -⟩ := id ho
        go_wp2_with (fail)
        go_roundw
        case rel =>
          refine ⟨k + 1, L.set k x, by omega, by go_num, by rw [List.length_set]; exact HL.out, ?_, HS.out, hbel1.setCell (Nat.le_refl _) _⟩
          rw [List.take_succ_eq_append_getElem (by rw [List.length_set, HL.out]; exact hkl), List.take_succ_eq_append_getElem hkl, List.take_set_of_le (Nat.le_refl _), HT.out, List.getElem_set_self, HXK.out]
        case measure => simp [intOf]; omega
      · have e : L = X := by
          rw [List.take_of_length_le (by omega), List.take_of_length_le (by omega)] at htk
          exact htk
        subst e
        go_wp2_with (fail)
        go_ret
        exact ⟨_, rfl, ⟨_, _, rfl, .inr ⟨_, Nat.le_refl _, rfl, hrow⟩⟩, hbel⟩
set_option maxHeartbeats 1000000 in
theorem eqIntSS_rows {w : World} {v v' : Value} {X : Rowi} (h : RdR w v X) (h' : RdR w v' X) (hn : X.length ≤ 1048576) (hi : ∀ x ∈ X, x.length ≤ 1048576) :
    Calls Tryz.prog 22 #[v, v'] w fun e w' => e = .returned (.bool true) ∧ Below w.heap.size w w' := by
  obtain ⟨a, cap, rfl, h⟩ := h
  obtain ⟨a', cap', rfl, h'⟩ := h'
  by_cases hx : X = []
  · subst hx
    go_enter Tryz.func22, Tryz.ntmps22
    go_wp2_with (fail)
    refine wp_loop_once ?_
    go_wp2_with (fail)
    go_ret
    exact ⟨rfl, Below.refl _ _⟩
  · obtain ⟨b, off, rfl, hc⟩ := h.resolve_left hx
    obtain ⟨b', off', rfl, hc'⟩ := h'.resolve_left hx
    have HC := Lib.hid hc
    have HC' := Lib.hid hc'
    clear h h' hc hc'
    go_enter Tryz.func22, Tryz.ntmps22
    go_wp2_with (fail)
    go_loopw [5] (fun i wr => ∃ k : Nat, k ≤ X.length ∧ i = .int .i64 (k : Int) ∧ Below w.heap.size w wr) (fun i _ => X.length - (intOf i).toNat)
    case atStart => exact ⟨0, Nat.zero_le _, rfl, Below.refl _ _⟩
    case round =>
      obtain ⟨k, hk, rfl, hbel⟩ := hrel
      by_cases hkl : k < X.length
      · obtain ⟨x, c0, r0⟩ := HC.out k hkl
        obtain ⟨y, d0, q0⟩ := HC'.out k hkl
        have c1 : wr.cell? ⟨b, off + k, none⟩ = some x := (hbel.cell (World.block_lt_of_cell? w _ c0)).trans c0
        have c2 : wr.cell? ⟨b', off' + k, none⟩ = some y := (hbel.cell (World.block_lt_of_cell? w _ d0)).trans d0
        have R3 := r0.keep hbel
        have R4 := q0.keep hbel
        have hxs : X[k].length ≤ 1099511627776 := by have := hi X[k] (List.getElem_mem _); omega
        have hkk : (k : Int) < (X.length : Int) := by omega
        clear c0 d0 r0 q0
        generalize X[k] = xs at R3 R4 hxs
        have hsz := hbel.size
        obtain ⟨ax, cx, rfl, -⟩ := id R3
        obtain ⟨ay, cy, rfl, -⟩ := id R4
        go_wp2_with (fail)
        go_region_held3 (fun w' => w'.cell? ⟨b, off + k, none⟩ = some (.slice ax xs.length cx) ∧ w'.cell? ⟨b', off' + k, none⟩ = some (.slice ay xs.length cy)) (first | go_keep | exact ⟨c3, c4⟩)
          (first | (go_at_call 14; refine (eqIntS_same (RdI.keep R3 (belowDrew _ 1)) (RdI.keep R4 (belowDrew _ 1)) hxs).mono ?_; rintro e w1 ⟨rfl, q, rfl⟩; have hb3 : Below wr.heap.size wr ((wr.drewN 1).drewN q) := ⟨rfl, rfl, rfl, Nat.le_refl _, fun _ _ => rfl⟩; have c3 := (hb3.cell (World.block_lt_of_cell? wr _ c1)).trans c1; have c4 := (hb3.cell (World.block_lt_of_cell? wr _ c2)).trans c2))
        go_wp2_with (fail)
        go_roundw
        case rel => exact ⟨k + 1, by omega, by go_num, hbel.trans ⟨rfl, rfl, rfl, Nat.le_refl _, fun _ _ => rfl⟩⟩
        case measure => simp [intOf]; omega
      · go_wp2_with (fail)
        go_ret
        exact ⟨rfl, hbel⟩
end Go.Proofs.YtlffkcmbeolohaaGreatDoor
namespace Go.Proofs.YtlffkcmbeolohaaGreatDoor
open Go.RowKit
set_option linter.all false
def OwnIn (w : World) (lo hi : Nat) (v : Value) (xs : List Int) : Prop := ∃ a cap, v = .slice a xs.length cap ∧ (xs = [] ∨ ∃ b, lo ≤ b ∧ b < hi ∧ a = some ⟨b, 0, none⟩ ∧ RowI w b xs)
theorem OwnIn.of {w : World} {B : Nat} {v : Value} {xs : List Int} (h : OwnI w B v xs) : OwnIn w B w.heap.size v xs := by
  obtain ⟨a, cap, hv, h⟩ := h
  refine ⟨a, cap, hv, ?_⟩
  by_cases hx : xs = []
  · exact .inl hx
  rcases h with h | ⟨b, hB, ha, hr⟩
  · exact .inl h
  · exact .inr ⟨b, hB, hr.lt hx, ha, hr⟩
theorem OwnIn.own {w : World} {lo hi : Nat} {v : Value} {xs : List Int} (h : OwnIn w lo hi v xs) : OwnI w lo v xs := by
  obtain ⟨a, cap, hv, h⟩ := h
  refine ⟨a, cap, hv, ?_⟩
  rcases h with h | ⟨b, hB, _, ha, hr⟩
  · exact .inl h
  · exact .inr ⟨b, hB, ha, hr⟩
theorem OwnIn.wide {w : World} {lo hi lo' hi' : Nat} {v : Value} {xs : List Int} (h : OwnIn w lo hi v xs) (h1 : lo' ≤ lo) (h2 : hi ≤ hi') : OwnIn w lo' hi' v xs := by
  obtain ⟨a, cap, hv, h⟩ := h
  refine ⟨a, cap, hv, ?_⟩
  rcases h with h | ⟨b, hB, hb, ha, hr⟩
  · exact .inl h
  · exact .inr ⟨b, by omega, by omega, ha, hr⟩
theorem frozen_of_block {w w' : World} {b : Nat} (h : w'.heap[b]? = w.heap[b]?) (j : Nat) : w'.frozen? ⟨b, j, none⟩ = w.frozen? ⟨b, j, none⟩ := by simp [World.frozen?, h]
theorem RowI.same {w w' : World} {b : Nat} {xs : List Int} (h : RowI w b xs) (he : w'.heap[b]? = w.heap[b]?) : RowI w' b xs :=
  ⟨fun j hj => by rw [World.cell?_of_block (w := w) he]; exact h.1 j hj, fun j hj => by rw [frozen_of_block he]; exact h.2 j hj⟩
theorem OwnIn.same {w w' : World} {lo hi : Nat} {v : Value} {xs : List Int} (h : OwnIn w lo hi v xs) (he : xs ≠ [] → ∀ b, lo ≤ b → b < hi → v.ownBlock = some b → w'.heap[b]? = w.heap[b]?) : OwnIn w' lo hi v xs := by
  obtain ⟨a, cap, rfl, h⟩ := h
  refine ⟨a, cap, rfl, ?_⟩
  by_cases hx : xs = []
  · exact .inl hx
  rcases h with h | ⟨b, hB, hb, rfl, hr⟩
  · exact .inl h
  · exact .inr ⟨b, hB, hb, rfl, hr.same (he hx b hB hb rfl)⟩
set_option maxHeartbeats 400000 in
theorem markIntS_full {w : World} {lo hi : Nat} {v : Value} {xs : List Int} (h : OwnIn w lo hi v xs) (hn : xs.length ≤ 1048576) (k0 : Int) (h0 : 0 ≤ k0) (h1 : k0 ≤ 1099511627776) :
    Calls Tryz.prog 16 #[v, .int .i64 k0] w fun e w' => e = .returned (.int .i64 (k0 + xs.length)) ∧ OwnIn w' lo hi v (marks k0 xs.length) ∧ Below lo w w' ∧ ∀ j : Nat, (xs = [] ∨ some j ≠ v.ownBlock) → w'.heap[j]? = w.heap[j]? := by
  obtain ⟨a, cap, rfl, h⟩ := h
  by_cases hx : xs = []
  · subst hx
    go_enter Tryz.func16, Tryz.ntmps16
    go_wp2
    refine wp_loop_once ?_
    go_wp2
    go_ret
    exact ⟨ret_int (by simp), ⟨_, _, rfl, .inl rfl⟩, Below.refl _ _, fun _ _ => rfl⟩
  · obtain ⟨b, hB, hb, rfl, hr⟩ := h.resolve_left hx
    go_enter Tryz.func16, Tryz.ntmps16
    go_wp2
    go_loopw [1, 5] (fun x i wr => ∃ (k : Nat) (L : List Int), k ≤ xs.length ∧ i = .int .i64 k ∧ x = .int .i64 (k0 + k) ∧ L.length = xs.length ∧ L.take k = (marks k0 xs.length).take k ∧ RowI wr b L ∧ Below lo w wr ∧ ∀ j, j ≠ b → wr.heap[j]? = w.heap[j]?) (fun _ i _ => xs.length - (intOf i).toNat)
    case atStart => exact ⟨0, xs, Nat.zero_le _, rfl, by go_num, rfl, rfl, hr, Below.refl _ _, fun _ _ => rfl⟩
    case round =>
      obtain ⟨k, L, hk, rfl, rfl, hL, htk, hrow, hbel, hoth⟩ := hrel
      have HO := Lib.hid hoth
      clear hoth
      by_cases hkl : k < xs.length
      · obtain ⟨u, c2⟩ : ∃ u, wr.cell? ⟨b, k, none⟩ = some (.int .i64 u) := ⟨_, hrow.1 k (by omega)⟩
        have f2 := hrow.2 k (by omega)
        have HS := Lib.hid (hrow.set k (by omega) (k0 + k))
        have HL := Lib.hid hL
        have HT := Lib.hid htk
        clear hrow hL htk h
        go_wp2
        go_roundw
        case rel =>
          refine ⟨k + 1, L.set k (k0 + k), by omega, by go_num, by go_num, by rw [List.length_set]; exact HL.out, ?_, HS.out, hbel.setCell hB _, fun j hj => (Below.heap_setCell _ _ _ j hj).trans (HO.out j hj)⟩
          rw [List.take_succ_eq_append_getElem (by rw [List.length_set, HL.out]; exact hkl), List.take_succ_eq_append_getElem (by rw [marks_len]; exact hkl), List.take_set_of_le (Nat.le_refl _), HT.out, List.getElem_set_self, marks_at]
        case measure => simp [intOf]; omega
      · have e : L = marks k0 xs.length := by
          rw [List.take_of_length_le (by omega), List.take_of_length_le (by rw [marks_len]; omega)] at htk
          exact htk
        have HE := Lib.hid e
        have ek : k = xs.length := by omega
        subst ek
        clear e h
        go_wp2
        go_ret
        refine ⟨rfl, ⟨_, _, by rw [marks_len], .inr ⟨b, hB, hb, rfl, ?_⟩⟩, hbel, fun j hj => HO.out j (fun e => hj.elim (fun h => hx h) (fun h => h (by rw [e]; rfl)))⟩
        rw [← HE.out]; exact hrow
theorem OwnIn.far {w : World} {lo hi : Nat} {v : Value} {xs : List Int} (h : OwnIn w lo hi v xs) {p : Addr} (hp : p.block < lo) (u : Value) : OwnIn (w.setCell p u) lo hi v xs := by
  obtain ⟨a, cap, rfl, h⟩ := h
  refine ⟨a, cap, rfl, ?_⟩
  rcases h with h | ⟨b, h1, h2, rfl, hr⟩
  · exact .inl h
  · exact .inr ⟨b, h1, h2, rfl, hr.far (by omega) u⟩
end Go.Proofs.YtlffkcmbeolohaaGreatDoor
