/-
  Texts of this proof: Sav.
-/
import Derived.Test.YtnlonkkbjkfkmaaGreatDoorM05
import Derived.Test.YtnlonkkbjkfkmaaGreatDoorM08
import Derived.Deep.RegionHeld3
import Derived.Deep.RegionWith
namespace Go.Proofs.YtnlonkkbjkfkmaaGreatDoor
open Go.RowKit Go.Joins Go.ChangeShapes Go.WideShapes Go.Deep
set_option linter.all false
structure Sv where
 tick : Int
 delta : List UInt8
def svV (q : Sv) : Value := .agg #[.int .i64 q.tick, .string ⟨q.delta.toArray⟩]
def Sv.fits (q : Sv) : Prop := (Lit.int .i64 q.tick).wf = true ∧ q.delta.length ≤ 9223372036854775807
instance : Inhabited Sv := ⟨⟨0, []⟩⟩
set_option maxHeartbeats 1000000 in
theorem toSave_any (q : Sv) (w : World) : Calls Tryz.prog 179 #[svV q] w fun e w' => e = .returned (svV q) ∧ Below w.heap.size w w' := by
 unfold svV
 go_enter Tryz.func179, Tryz.ntmps179
 go_wp2_with (fail)
 refine bodyPost_ret (results_cell_row rfl _ _ (w.heap.size + 1) 139 #[.int .i64 q.tick, .string ⟨q.delta.toArray⟩] (0, 0) ?d ?hp ?hg ?hu ?hd ?hi) rfl ?_
 case hp => rfl
 case hg => rw [heap_alloc_old _ _ (by simp)]; exact heap_at _ _ (by simp)
 case hu => exact Tryz.underlying139
 case hd => rfl
 case hi => kernel_rfl
 exact ⟨rfl, (below2 _ _ _).alloc (by simp; omega) _⟩
set_option maxHeartbeats 1000000 in
theorem eqSave_same (q : Sv) (w : World) : Calls Tryz.prog 173 #[svV q, svV q] w fun e w' => e = .returned (.bool true) ∧ Below w.heap.size w w' := by
 unfold svV
 go_enter Tryz.func173, Tryz.ntmps173
 go_wp2_with (fail)
 go_ret
 exact ⟨rfl, below2 _ _ _⟩
def svL (q : Sv) : List Value := [.int .i64 q.tick, .string ⟨q.delta.toArray⟩]
theorem svL_len (q : Sv) : (svL q).length = 2 := rfl
theorem rangeSv {w : World} {b o : Nat} {q : Sv} (h : w.rangeAt b o (svL q)) : b < w.heap.size := World.block_lt_of_cell? w _ (h 0 _ rfl)
def RdSv (w : World) (v : Value) (X : List Sv) : Prop :=
 ∃ a cap, v = .slice a X.length cap ∧ (X = [] ∨ ∃ b off, a = some ⟨b, off, none⟩ ∧ ∀ j (h : j < X.length), w.rangeAt b (off + j * 2) (svL X[j]))
def RowSv (w : World) (g : Nat) (X : List Sv) : Prop := ∀ j (h : j < X.length), w.rangeAt g (j * 2) (svL X[j]) ∧ w.there g (j * 2) 2
def OwnSv (w : World) (B : Nat) (v : Value) (X : List Sv) : Prop :=
 ∃ a cap, v = .slice a X.length cap ∧ (X = [] ∨ ∃ g, B ≤ g ∧ a = some ⟨g, 0, none⟩ ∧ RowSv w g X)
theorem OwnSv.rd {w : World} {B : Nat} {v : Value} {X : List Sv} (h : OwnSv w B v X) : RdSv w v X := by
 obtain ⟨a, cap, hv, h⟩ := h
 refine ⟨a, cap, hv, ?_⟩
 rcases h with h | ⟨g, hB, ha, hr⟩
 ·exact .inl h
 ·exact .inr ⟨g, 0, ha, fun j hj => by rw [Nat.zero_add]; exact (hr j hj).1⟩
theorem RdSv.keep {w w' : World} {v : Value} {X : List Sv} (h : RdSv w v X) (hb : Below w.heap.size w w') : RdSv w' v X := by
 obtain ⟨a, cap, hv, h⟩ := h
 refine ⟨a, cap, hv, ?_⟩
 rcases h with h | ⟨b, off, ha, hr⟩
 ·exact .inl h
 ·exact .inr ⟨b, off, ha, fun j hj => rangeKeep (hr j hj) hb (rangeSv (hr j hj))⟩
theorem RowSv.lt {w : World} {g : Nat} {X : List Sv} (h : RowSv w g X) (hx : X ≠ []) : g < w.heap.size := rangeSv (h 0 (List.length_pos_iff.2 hx)).1
theorem RowSv.keep {w w' : World} {g : Nat} {X : List Sv} (h : RowSv w g X) {C : Nat} (hb : Below C w w') (hC : g < C) : RowSv w' g X :=
 fun j hj => ⟨rangeKeep (h j hj).1 hb hC, thereKeep (h j hj).2 hb hC⟩
theorem OwnSv.keep {w w' : World} {B : Nat} {v : Value} {X : List Sv} (h : OwnSv w B v X) (hb : Below w.heap.size w w') : OwnSv w' B v X := by
 obtain ⟨a, cap, hv, h⟩ := h
 refine ⟨a, cap, hv, ?_⟩
 by_cases hx : X = []
 ·exact .inl hx
 ·obtain ⟨g, hB, ha, hr⟩ := h.resolve_left hx
  exact .inr ⟨g, hB, ha, hr.keep hb (hr.lt hx)⟩
theorem OwnSv.up {w : World} {B C : Nat} {v : Value} {X : List Sv} (h : OwnSv w B v X) (hC : C ≤ B) : OwnSv w C v X := by
 obtain ⟨a, cap, hv, h⟩ := h
 refine ⟨a, cap, hv, ?_⟩
 rcases h with h | ⟨g, hB, ha, hr⟩
 ·exact .inl h
 ·exact .inr ⟨g, by omega, ha, hr⟩
theorem RowSv.far {w : World} {g : Nat} {X : List Sv} (h : RowSv w g X) {p : Addr} (hp : p.block ≠ g) (u : Value) : RowSv (w.setCell p u) g X :=
 fun j hj => ⟨rangeFar (h j hj).1 hp u, thereFar (h j hj).2 hp u⟩
theorem OwnSv.far {w : World} {B : Nat} {v : Value} {X : List Sv} (h : OwnSv w B v X) {p : Addr} (hp : p.block < B) (u : Value) : OwnSv (w.setCell p u) B v X := by
 obtain ⟨a, cap, hv, h⟩ := h
 refine ⟨a, cap, hv, ?_⟩
 rcases h with h | ⟨b, hB, ha, hr⟩
 ·exact .inl h
 ·exact .inr ⟨b, hB, ha, hr.far (by omega) u⟩
theorem RowSv.put {w : World} {g : Nat} {X : List Sv} (h : RowSv w g X) (k : Nat) (hk : k < X.length) (b : Sv) : RowSv (w.setCells g (k * 2) (svL b)) g (X.set k b) := by
 intro j hj0
 have hj : j < X.length := by rw [List.length_set] at hj0; exact hj0
 refine ⟨?_, World.there_setCells (h j hj).2 _ _ _⟩
 by_cases e : k = j
 ·subst e
  rw [List.getElem_set_self]
  exact World.rangeAt_setCells_same _ _ _ _ (h k hk).2
 ·rw [List.getElem_set_ne e]
  exact World.rangeAt_setCells_apart (h j hj).1 _ _ _ (by rw [svL_len, svL_len]; omega)
def zSv : Array Value := #[.int .i64 0, .string ⟨#[]⟩]
def nilSv : Sv := ⟨0, []⟩
theorem madeSv (m : Nat) {j i : Nat} (h : j < m) {v : Value} (hv : (svL nilSv)[i]? = some v) : (madeCells zSv (m * 2))[j * 2 + i]? = some v := by
 obtain ⟨hi, e⟩ := List.getElem?_eq_some_iff.1 hv
 rw [svL_len] at hi
 rw [← e]
 unfold madeCells
 rw [Array.getElem?_map, Array.getElem?_range]
 rw [if_pos (by omega), Option.map_some]
 have hm : (j * 2 + i) % zSv.size = i := by
  show (j * 2 + i) % 2 = i
  omega
 rw [hm]
 match i, hi with
 | 0, _ => rfl
 | 1, _ => rfl
theorem RowSv.zeros (w : World) (n : Nat) (t : TypeId) : RowSv (w.alloc (.cells (madeCells zSv (n * 2)) t)) w.heap.size (List.replicate n nilSv) := by
 intro j hj
 rw [List.length_replicate] at hj
 refine ⟨fun i v hv => ?_, fun i hi => ?_⟩
 ·rw [List.getElem_replicate] at hv
  rw [World.cell?_alloc_mark, madeSv _ hj hv]
 ·have hv : (svL nilSv)[i]? = some ((svL nilSv)[i]'(by rw [svL_len]; exact hi)) := List.getElem?_eq_getElem _
  rw [World.cell?_alloc_mark, madeSv _ hj hv, World.frozen?_alloc_mark]
  exact ⟨rfl, by simp⟩
theorem cellsSv {w : World} {b o : Nat} {x : Sv} (h : w.rangeAt b o (svL x)) : w.cell? ⟨b, o, none⟩ = some (.int .i64 x.tick) ∧ w.cell? ⟨b, o + 1, none⟩ = some (.string ⟨x.delta.toArray⟩) :=
 ⟨h 0 _ rfl, h 1 _ rfl⟩
theorem freeSv {w : World} {b o : Nat} (h : w.there b o 2) : w.frozen? ⟨b, o, none⟩ = false ∧ w.frozen? ⟨b, o + 1, none⟩ = false :=
 ⟨(h 0 (by omega)).2, (h 1 (by omega)).2⟩
theorem putSv (w : World) (g o : Nat) (x : Sv) : (w.setCell ⟨g, o, none⟩ (.int .i64 x.tick)).setCell ⟨g, o + 1, none⟩ (.string ⟨x.delta.toArray⟩) = w.setCells g o (svL x) := rfl
def RetSvs (w : World) (X : List Sv) (e : Ending) (w' : World) : Prop := ∃ v, e = .returned v ∧ OwnSv w' w.heap.size v X ∧ CapI v ∧ Below w.heap.size w w'
theorem info_SaveS : (Tryz.prog.info? 139).map (fun i => (i.zero, i.size, i.bytes)) = some (some (.agg zSv), 2, 24) := by kernel_rfl
theorem run_make_SaveS (W : World) (n : Nat) (hn : n ≤ 1048576) : (Instr.makeSlice 61 (.int .i64 (n : Int)) (.int .i64 (n : Int))).run Tryz.prog W = .ok (.slice (some ⟨W.heap.size, 0, none⟩) n n) (W.alloc (.cells (madeCells zSv (n * 2)) 139)) := by
 obtain ⟨i0, hi, hz0, hz1, hz2⟩ := info_parts info_SaveS
 have := run_make (P := Tryz.prog) W 61 139 i0 (.agg zSv) Tryz.underlying61 hi hz0 .i64 .i64 n n (by omega) (Int.le_refl _) (by rw [hz2]; omega) (by omega)
 rw [this, hz1, Int.toNat_natCast]; rfl
set_option maxRecDepth 100000 in
set_option maxHeartbeats 1000000 in
theorem toSaveS_any {w : World} {v : Value} {X : List Sv} (h : RdSv w v X) (hn : X.length ≤ 1048576) :
  Calls Tryz.prog 111 #[v] w (RetSvs w X) := by
 obtain ⟨a, cap, rfl, h⟩ := h
 have hmk := fun W => run_make_SaveS W X.length hn
 by_cases hx : X = []
 ·subst hx
  have hmk0 : ∀ W, (Instr.makeSlice 61 (.int .i64 0) (.int .i64 0)).run Tryz.prog W = .ok (.slice (some ⟨W.heap.size, 0, none⟩) 0 0) (W.alloc (.cells (madeCells zSv (0 * 2)) 139)) := fun W => run_make_SaveS W 0 (by omega)
  clear hmk
  go_enter Tryz.func111, Tryz.ntmps111
  go_wp2
  refine wp_loop_once ?_
  go_wp2
  go_ret
  exact ⟨_, rfl, ⟨_, _, rfl, .inl rfl⟩, ⟨_, _, _, rfl, Nat.le_refl _⟩, (Below.refl _ _).alloc (Nat.le_refl _) _⟩
 ·obtain ⟨b, off, rfl, hc⟩ := h.resolve_left hx
  have hpos : 0 < X.length := List.length_pos_iff.2 hx
  go_enter Tryz.func111, Tryz.ntmps111
  go_wp2_with (fail)
  go_loopw [4] (fun i wr => ∃ (k : Nat) (L : List Sv), k ≤ X.length ∧ i = .int .i64 (k : Int) ∧ L.length = X.length ∧ L.take k = X.take k ∧ RowSv wr w.heap.size L ∧ Below w.heap.size w wr) (fun i _ => X.length - (intOf i).toNat)
  case atStart =>
   exact ⟨0, _, Nat.zero_le _, rfl, List.length_replicate, rfl, RowSv.zeros w _ _, (Below.refl _ _).alloc (Nat.le_refl _) _⟩
  case round =>
   obtain ⟨k, L, hk, rfl, hL, htk, hrow, hbel⟩ := hrel
   by_cases hkl : k < X.length
   ·have c0 := hc k hkl
    have c1 : wr.rangeAt b (off + k * 2) (svL X[k]) := rangeKeep c0 hbel (rangeSv c0)
    have hgl : w.heap.size < wr.heap.size := hrow.lt (by intro e; rw [e] at hL; simp at hL; omega)
    obtain ⟨x, hx'⟩ : ∃ x, x = X[k] := ⟨_, rfl⟩
    rw [← hx'] at c1
    have HXK := Lib.hid hx'
    have hkk : (k : Int) < (X.length : Int) := by omega
    have HRW := Lib.hid hrow
    have HL := Lib.hid hL
    have HT := Lib.hid htk
    clear hrow hL htk c0 hx' hc hmk
    obtain ⟨d0, d1⟩ := cellsSv c1
    have hT := fun W => toSave_any x W
    unfold svV at hT
    go_wp2_with (fail)
    refine (hT _).mono ?_
    rintro e w1 ⟨rfl, hb1⟩
    have hrow := HRW.out.keep hb1 hgl
    have hbel1 := hbel.trans (hb1.mono hbel.size)
    have hkL : k < L.length := by rw [HL.out]; exact hkl
    obtain ⟨e0, e1⟩ := cellsSv (hrow k hkL).1
    obtain ⟨f0, f1⟩ := freeSv (hrow k hkL).2
    have HS := Lib.hid (hrow.put k hkL x)
    clear hrow HRW d0 d1 c1 hT
    generalize L[k] = y at *
    go_wp2_with (fail)
    rw [putSv]
    go_roundw
    case rel =>
     refine ⟨k + 1, L.set k x, by omega, by go_num, by rw [List.length_set]; exact HL.out, ?_, HS.out, belowCells (Nat.le_refl _) _ _ _ hbel1⟩
     rw [List.take_succ_eq_append_getElem (by rw [List.length_set, HL.out]; exact hkl), List.take_succ_eq_append_getElem hkl, List.take_set_of_le (Nat.le_refl _), HT.out, List.getElem_set_self, HXK.out]
    case measure => simp [intOf]; omega
   ·have e : L = X := by
     rw [List.take_of_length_le (by omega), List.take_of_length_le (by omega)] at htk
     exact htk
    subst e
    go_wp2_with (fail)
    go_ret
    exact ⟨_, rfl, ⟨_, _, rfl, .inr ⟨_, Nat.le_refl _, rfl, hrow⟩⟩, ⟨_, _, _, rfl, Nat.le_refl _⟩, hbel⟩
set_option maxRecDepth 100000 in
set_option maxHeartbeats 2000000 in
theorem eqSaveS_same {w : World} {v v' : Value} {X : List Sv} (h : RdSv w v X) (h' : RdSv w v' X) (hn : X.length ≤ 1048576) :
  Calls Tryz.prog 95 #[v, v'] w fun e w' => e = .returned (.bool true) ∧ Below w.heap.size w w' := by
 obtain ⟨a, cap, rfl, h⟩ := h
 obtain ⟨a', cap', rfl, h'⟩ := h'
 by_cases hx : X = []
 ·subst hx
  go_enter Tryz.func95, Tryz.ntmps95
  go_wp2_with (fail)
  refine wp_loop_once ?_
  go_wp2_with (fail)
  go_ret
  exact ⟨rfl, Below.refl _ _⟩
 ·obtain ⟨b, off, rfl, hc⟩ := h.resolve_left hx
  obtain ⟨b', off', rfl, hc'⟩ := h'.resolve_left hx
  have HC := Lib.hid hc
  have HC' := Lib.hid hc'
  have hE := fun x W => eqSave_same x W
  unfold svV at hE
  clear h h' hc hc'
  go_enter Tryz.func95, Tryz.ntmps95
  go_wp2_with (fail)
  go_loopw [5] (fun i wr => ∃ k : Nat, k ≤ X.length ∧ i = .int .i64 (k : Int) ∧ Below w.heap.size w wr) (fun i _ => X.length - (intOf i).toNat)
  case atStart => exact ⟨0, Nat.zero_le _, rfl, Below.refl _ _⟩
  case round =>
   obtain ⟨k, hk, rfl, hbel⟩ := hrel
   by_cases hkl : k < X.length
   ·have c0 := HC.out k hkl
    have d0 := HC'.out k hkl
    have c1 : wr.rangeAt b (off + k * 2) (svL X[k]) := rangeKeep c0 hbel (rangeSv c0)
    have d1 : wr.rangeAt b' (off' + k * 2) (svL X[k]) := rangeKeep d0 hbel (rangeSv d0)
    have hkk : (k : Int) < (X.length : Int) := by omega
    have hk0 : (0 : Int) ≤ (k : Int) := by omega
    clear c0 d0
    generalize X[k] = x at c1 d1
    have hsz := hbel.size
    obtain ⟨p0, p1⟩ := cellsSv c1
    obtain ⟨q0, q1⟩ := cellsSv d1
    go_wp2_with (fail)
    go_region_held3 (fun w' => (w'.cell? ⟨b, off + k * 2, none⟩ = some (.int .i64 x.tick) ∧ w'.cell? ⟨b, off + k * 2 + 1, none⟩ = some (.string ⟨x.delta.toArray⟩)) ∧ (w'.cell? ⟨b', off' + k * 2, none⟩ = some (.int .i64 x.tick) ∧ w'.cell? ⟨b', off' + k * 2 + 1, none⟩ = some (.string ⟨x.delta.toArray⟩)))
     (first | (exact ⟨cellsSv c1, cellsSv d1⟩) | (exact ⟨cellsSv c3, cellsSv d3⟩) | go_keep)
     (first | (go_at_call 173; refine (hE x _).mono ?_; rintro e w1 ⟨rfl, hb1⟩; have hb3 := (belowDrew wr 1).trans (hb1.mono (by simp)); have c3 := rangeKeep c1 hb3 (rangeSv c1); have d3 := rangeKeep d1 hb3 (rangeSv d1)))
    go_wp2_with (fail)
    go_roundw
    case rel => exact ⟨k + 1, by omega, by go_num, hbel.trans (Below.mono hb3 hsz)⟩
    case measure => simp [intOf]; omega
   ·go_wp2_with (fail)
    go_ret
    exact ⟨rfl, hbel⟩
section
variable {H : Type} {enc : TypeId × Value → H} {w : World} {base : Nat} {spare : Nat → Bool} {held : Bool}
set_option maxRecDepth 100000 in
theorem rdSv_of_trod {n : Nat} {v0 : Value} {y : DataW H × List MemPlace} (h : DataW.trod enc Tryz.prog w base spare held n 73 [v0] = some y) : ∃ X, RdSv w v0 X ∧ X.length ≤ 9223372036854775807 ∧ ∀ b ∈ X, b.fits := by
 rcases open_slice_fields (fs := _) Tryz.underlying73 Tryz.underlying191 (by kernel_rfl) (by kernel_rfl) h with hcs | ⟨a, len, cap, m, hcs, hl, hm, hlm, hx⟩
 ·simp only [List.cons.injEq, and_true] at hcs
  subst hcs
  exact ⟨[], ⟨none, 0, rfl, .inl rfl⟩, by simp, by simp⟩
 ·simp only [List.cons.injEq, and_true] at hcs
  subst hcs
  have hb : ∀ i, i < m → ∃ b : Sv, b.fits ∧ ∀ j (hj : j < 2), w.cell? (a.add (i * 2 + j)) = some ((svL b)[j]'(by rw [svL_len]; exact hj)) := by
   intro i hi
   obtain ⟨n', hf⟩ := hx i hi
   obtain ⟨v0, _, c0, t0⟩ := hf 0 _ rfl
   obtain ⟨v1, _, c1, t1⟩ := hf 1 _ rfl
   obtain ⟨m0, rfl, w0⟩ := intField t0
   obtain ⟨m1, rfl, w1⟩ := strField t1
   refine ⟨⟨m0, m1⟩, ⟨w0, w1⟩, fun j hj => ?_⟩
   match j, hj with
   | 0, _ => exact c0
   | 1, _ => exact c1
  obtain ⟨Z, hZ⟩ := choose_lt (α := Sv) (p := fun i b => b.fits ∧ ∀ j (hj : j < 2), w.cell? (a.add (i * 2 + j)) = some ((svL b)[j]'(by rw [svL_len]; exact hj))) (n := m) hb
  unfold maxLen at hm
  refine ⟨(List.range len).map Z, ⟨some a, cap, by simp, ?_⟩, by simp; omega, ?_⟩
  ·by_cases h0 : len = 0
   ·subst h0; exact .inl rfl
   ·obtain ⟨b, off, spot⟩ := a
    have hc0 := (hZ 0 (by omega)).2 0 (by omega)
    have hspot : spot = none := by simpa [Addr.add] using World.cell?_spot hc0
    subst hspot
    refine .inr ⟨b, off, rfl, fun j hj i v hv => ?_⟩
    rw [List.length_map, List.length_range] at hj
    obtain ⟨hi, hv'⟩ := List.getElem?_eq_some_iff.1 hv
    rw [svL_len] at hi
    have h1 := (hZ j (by omega)).2 i hi
    rw [show (⟨b, off, none⟩ : Addr).add (j * 2 + i) = ⟨b, off + (j * 2 + i), none⟩ by unfold Addr.add; split <;> simp_all, ← Nat.add_assoc] at h1
    rw [h1, ← hv']
    simp
  ·intro s hs
   simp only [List.mem_map, List.mem_range] at hs
   obtain ⟨i, hi, rfl⟩ := hs
   exact (hZ i (by omega)).1
end
def SzV (left : Int) (X : List Sv) (w : World) (e : Ending) (w' : World) : Prop := ∃ r : Int, e = .returned (.int .i64 r) ∧ (r = -1 ∨ (0 ≤ r ∧ r ≤ 1048576 ∧ X.length ≤ 1048576 ∧ ∀ f ∈ X, f.delta.length ≤ 1048576)) ∧ Below w.heap.size w w'
theorem szSave_any (q : Sv) (left : Int) (hl : q.delta.length ≤ 9223372036854775807) (h0 : 0 ≤ left) (h1 : left ≤ 1048576) (w : World) :
  Calls Tryz.prog 176 #[svV q, .int .i64 left] w fun e w' => (∃ r : Int, e = .returned (.int .i64 r) ∧ (r = -1 ∨ (0 ≤ r ∧ r ≤ left ∧ q.delta.length ≤ 1048576))) ∧ Below w.heap.size w w' := by
 unfold svV
 have hlc : (q.delta.length : Int) ≤ 9223372036854775807 := by omega
 by_cases hneg : left - (q.delta.length : Int) < 0
 ·have z1 : decide (left - (q.delta.length : Int) < 0) = true := by simpa using hneg
  go_enter Tryz.func176, Tryz.ntmps176
  go_wp2_with (fail)
  go_ret
  exact ⟨⟨-1, rfl, .inl rfl⟩, below1 _ _⟩
 ·have z1 : decide (left - (q.delta.length : Int) < 0) = false := by simpa using hneg
  go_enter Tryz.func176, Tryz.ntmps176
  go_wp2_with (fail)
  go_ret
  exact ⟨⟨_, rfl, .inr ⟨by omega, by omega, by omega⟩⟩, below1 _ _⟩
set_option maxRecDepth 100000 in
set_option maxHeartbeats 1000000 in
theorem szSaveS_any {w : World} {v : Value} {X : List Sv} (h : RdSv w v X) (hs : X.length ≤ 9223372036854775807) (hf : ∀ f ∈ X, f.fits) (left : Int) (hl0 : 0 ≤ left) (hl1 : left ≤ 1048576) :
  Calls Tryz.prog 107 #[v, .int .i64 left] w (SzV left X w) := by
 obtain ⟨a, cap, rfl, h⟩ := h
 have hlc : (X.length : Int) ≤ 9223372036854775807 := by omega
 by_cases hneg : left - (X.length : Int) < 0
 ·have z1 : decide (left - (X.length : Int) < 0) = true := by simpa using hneg
  go_enter Tryz.func107, Tryz.ntmps107
  go_wp2_with (fail)
  go_ret
  exact ⟨-1, rfl, .inl rfl, Below.refl _ _⟩
 ·have z1 : decide (left - (X.length : Int) < 0) = false := by simpa using hneg
  have hX : X.length ≤ 1048576 := by omega
  go_enter Tryz.func107, Tryz.ntmps107
  go_wp2_with (fail)
  go_loopw [1, 5] (fun l i wr => ∃ (k : Nat) (m : Int), k ≤ X.length ∧ i = .int .i64 (k : Int) ∧ l = .int .i64 m ∧ 0 ≤ m ∧ m ≤ 1048576 ∧ Below w.heap.size w wr ∧ Hid (∀ j (hj : j < X.length), j < k → X[j].delta.length ≤ 1048576)) (fun _ i _ => X.length - (intOf i).toNat)
  case atStart => exact ⟨0, left - (X.length : Int), Nat.zero_le _, rfl, rfl, by omega, by omega, Below.refl _ _, Lib.hid (fun j hj h => by omega)⟩
  case round =>
   obtain ⟨k, m, hk, rfl, rfl, hm0, hm1, hbel, HA⟩ := hrel
   by_cases hkl : k < X.length
   ·obtain ⟨b, off, rfl, hc⟩ := h.resolve_left (by intro e; rw [e] at hkl; simp at hkl)
    have c0 := hc k hkl
    have c1 : wr.rangeAt b (off + k * 2) (svL X[k]) := rangeKeep c0 hbel (rangeSv c0)
    have hkk : (k : Int) < (X.length : Int) := by omega
    have hq := (hf X[k] (List.getElem_mem _)).2
    obtain ⟨x, hx⟩ : ∃ x, x = X[k] := ⟨_, rfl⟩
    rw [← hx] at c1 hq
    have HX := Lib.hid hx
    have hS := fun W => szSave_any x m hq hm0 hm1 W
    unfold svV at hS
    obtain ⟨d0, d1⟩ := cellsSv c1
    clear hc c0 hx c1 h
    go_wp2_with (fail)
    refine (hS _).mono ?_
    rintro e w1 ⟨⟨r, rfl, hr⟩, hb1⟩
    have hbel1 := hbel.trans (hb1.mono hbel.size)
    rcases hr with rfl | ⟨hr0, hr1, hr2⟩
    ·go_wp2_with (fail)
     go_ret
     exact ⟨-1, rfl, .inl rfl, hbel1⟩
    ·have z2 : decide (r < 0) = false := by simpa using hr0
     go_wp2_with (fail)
     go_roundw
     case rel =>
      refine ⟨k + 1, r, by omega, by go_num, rfl, hr0, by omega, hbel1, Lib.hid (fun j hj hl => ?_)⟩
      by_cases e : j = k
      ·subst e; rw [← HX.out]; exact hr2
      ·exact HA.out j hj (by omega)
     case measure => simp [intOf]; omega
   ·go_wp2_with (fail)
    go_ret
    refine ⟨m, rfl, .inr ⟨hm0, hm1, hX, fun f hf' => ?_⟩, hbel⟩
    obtain ⟨j, hj, rfl⟩ := List.getElem_of_mem hf'
    exact HA.out j hj (by omega)
end Go.Proofs.YtnlonkkbjkfkmaaGreatDoor
