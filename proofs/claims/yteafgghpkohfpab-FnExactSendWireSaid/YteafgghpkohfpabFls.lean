/-
  Flights, one and rows of them: read, owned, copied, compared. Lists of at most 2^20.
-/
import Derived.Test.YteafgghpkohfpabRng
import Derived.Test.YteafgghpkohfpabTrk
import Derived.Deep.RegionHeld3
import Derived.Deep.RegionWith
namespace Go.Proofs.Yteafgghpkohfpab
open Go.RowKit Go.Joins Go.ChangeShapes Go.WideShapes Go.Deep
set_option linter.all false
structure Fl where
  at0 : Int
  data : List UInt8
/-- The value. -/
def flV (q : Fl) : Value := .agg #[.int .i64 q.at0, .string ⟨q.data.toArray⟩]
/-- Each number fits its kind, each string its length. -/
def Fl.fits (q : Fl) : Prop := (Lit.int .i64 q.at0).wf = true ∧ q.data.length ≤ 9223372036854775807
instance : Inhabited Fl := ⟨⟨0, []⟩⟩
set_option maxHeartbeats 1000000 in
theorem toFlight_any (q : Fl) (w : World) : Calls Try.prog 84 #[flV q] w fun e w' => e = .returned (flV q) ∧ Below w.heap.size w w' := by
  unfold flV
  go_enter Try.func84, Try.ntmps84
  go_wp2_with (fail)
  refine bodyPost_ret (results_cell_row rfl _ _ (w.heap.size + 1) 101 #[.int .i64 q.at0, .string ⟨q.data.toArray⟩] (0, 0) ?d ?hp ?hg ?hu ?hd ?hi) rfl ?_
  case hp => rfl
  case hg => rw [heap_alloc_old _ _ (by simp)]; exact heap_at _ _ (by simp)
  case hu => exact Try.underlying101
  case hd => rfl
  case hi => kernel_rfl
  exact ⟨rfl, (below2 _ _ _).alloc (by simp; omega) _⟩
set_option maxHeartbeats 1000000 in
theorem eqFlight_same (q : Fl) (w : World) : Calls Try.prog 91 #[flV q, flV q] w fun e w' => e = .returned (.bool true) ∧ Below w.heap.size w w' := by
  unfold flV
  go_enter Try.func91, Try.ntmps91
  go_wp2_with (fail)
  go_ret
  exact ⟨rfl, below2 _ _ _⟩
/-- The cells, as a list. -/
def flL (q : Fl) : List Value := [.int .i64 q.at0, .string ⟨q.data.toArray⟩]
theorem flL_len (q : Fl) : (flL q).length = 2 := rfl
theorem flL_one (q : Fl) : ∀ v ∈ flL q, v.oneCell' = true := by intro v hv; simp [flL] at hv; rcases hv with rfl | rfl <;> rfl
theorem rangeFl {w : World} {b o : Nat} {q : Fl} (h : w.rangeAt b o (flL q)) : b < w.heap.size := World.block_lt_of_cell? w _ (h 0 _ rfl)
/-- The slice v reads as the list X. -/
def RdFl (w : World) (v : Value) (X : List Fl) : Prop :=
  ∃ a cap, v = .slice a X.length cap ∧ (X = [] ∨ ∃ b off, a = some ⟨b, off, none⟩ ∧ ∀ j (h : j < X.length), w.rangeAt b (off + j * 2) (flL X[j]))
/-- Block g holds the list X, and it may be written. -/
def RowFl (w : World) (g : Nat) (X : List Fl) : Prop := ∀ j (h : j < X.length), w.rangeAt g (j * 2) (flL X[j]) ∧ w.there g (j * 2) 2
/-- The slice v is the call's own, among blocks from B on, and holds the list X. -/
def OwnFl (w : World) (B : Nat) (v : Value) (X : List Fl) : Prop :=
  ∃ a cap, v = .slice a X.length cap ∧ (X = [] ∨ ∃ g, B ≤ g ∧ a = some ⟨g, 0, none⟩ ∧ RowFl w g X)
theorem OwnFl.rd {w : World} {B : Nat} {v : Value} {X : List Fl} (h : OwnFl w B v X) : RdFl w v X := by
  obtain ⟨a, cap, hv, h⟩ := h
  refine ⟨a, cap, hv, ?_⟩
  rcases h with h | ⟨g, hB, ha, hr⟩
  · exact .inl h
  · exact .inr ⟨g, 0, ha, fun j hj => by rw [Nat.zero_add]; exact (hr j hj).1⟩
theorem RdFl.keep {w w' : World} {v : Value} {X : List Fl} (h : RdFl w v X) (hb : Below w.heap.size w w') : RdFl w' v X := by
  obtain ⟨a, cap, hv, h⟩ := h
  refine ⟨a, cap, hv, ?_⟩
  rcases h with h | ⟨b, off, ha, hr⟩
  · exact .inl h
  · exact .inr ⟨b, off, ha, fun j hj => rangeKeep (hr j hj) hb (rangeFl (hr j hj))⟩
theorem RowFl.lt {w : World} {g : Nat} {X : List Fl} (h : RowFl w g X) (hx : X ≠ []) : g < w.heap.size := rangeFl (h 0 (List.length_pos_iff.2 hx)).1
theorem RowFl.keep {w w' : World} {g : Nat} {X : List Fl} (h : RowFl w g X) {C : Nat} (hb : Below C w w') (hC : g < C) : RowFl w' g X :=
  fun j hj => ⟨rangeKeep (h j hj).1 hb hC, thereKeep (h j hj).2 hb hC⟩
theorem OwnFl.keep {w w' : World} {B : Nat} {v : Value} {X : List Fl} (h : OwnFl w B v X) (hb : Below w.heap.size w w') : OwnFl w' B v X := by
  obtain ⟨a, cap, hv, h⟩ := h
  refine ⟨a, cap, hv, ?_⟩
  by_cases hx : X = []
  · exact .inl hx
  · obtain ⟨g, hB, ha, hr⟩ := h.resolve_left hx
    exact .inr ⟨g, hB, ha, hr.keep hb (hr.lt hx)⟩
theorem OwnFl.up {w : World} {B C : Nat} {v : Value} {X : List Fl} (h : OwnFl w B v X) (hC : C ≤ B) : OwnFl w C v X := by
  obtain ⟨a, cap, hv, h⟩ := h
  refine ⟨a, cap, hv, ?_⟩
  rcases h with h | ⟨g, hB, ha, hr⟩
  · exact .inl h
  · exact .inr ⟨g, by omega, ha, hr⟩
theorem RowFl.far {w : World} {g : Nat} {X : List Fl} (h : RowFl w g X) {p : Addr} (hp : p.block ≠ g) (u : Value) : RowFl (w.setCell p u) g X :=
  fun j hj => ⟨rangeFar (h j hj).1 hp u, thereFar (h j hj).2 hp u⟩
theorem OwnFl.far {w : World} {B : Nat} {v : Value} {X : List Fl} (h : OwnFl w B v X) {p : Addr} (hp : p.block < B) (u : Value) : OwnFl (w.setCell p u) B v X := by
  obtain ⟨a, cap, hv, h⟩ := h
  refine ⟨a, cap, hv, ?_⟩
  rcases h with h | ⟨b, hB, ha, hr⟩
  · exact .inl h
  · exact .inr ⟨b, hB, ha, hr.far (by omega) u⟩
/-- A whole element is stored. -/
theorem RowFl.put {w : World} {g : Nat} {X : List Fl} (h : RowFl w g X) (k : Nat) (hk : k < X.length) (b : Fl) : RowFl (w.setCells g (k * 2) (flL b)) g (X.set k b) := by
  intro j hj0
  have hj : j < X.length := by rw [List.length_set] at hj0; exact hj0
  refine ⟨?_, World.there_setCells (h j hj).2 _ _ _⟩
  by_cases e : k = j
  · subst e
    rw [List.getElem_set_self]
    exact World.rangeAt_setCells_same _ _ _ _ (h k hk).2
  · rw [List.getElem_set_ne e]
    exact World.rangeAt_setCells_apart (h j hj).1 _ _ _ (by rw [flL_len, flL_len]; omega)
def zFl : Array Value := #[.int .i64 0, .string ⟨#[]⟩]
def nilFl : Fl := ⟨0, []⟩
theorem madeFl (m : Nat) {j i : Nat} (h : j < m) {v : Value} (hv : (flL nilFl)[i]? = some v) : (madeCells zFl (m * 2))[j * 2 + i]? = some v := by
  obtain ⟨hi, e⟩ := List.getElem?_eq_some_iff.1 hv
  rw [flL_len] at hi
  rw [← e]
  unfold madeCells
  rw [Array.getElem?_map, Array.getElem?_range]
  rw [if_pos (by omega), Option.map_some]
  have hm : (j * 2 + i) % zFl.size = i := by
    show (j * 2 + i) % 2 = i
    omega
  rw [hm]
  match i, hi with
  | 0, _ => rfl
  | 1, _ => rfl
theorem RowFl.zeros (w : World) (n : Nat) (t : TypeId) : RowFl (w.alloc (.cells (madeCells zFl (n * 2)) t)) w.heap.size (List.replicate n nilFl) := by
  intro j hj
  rw [List.length_replicate] at hj
  refine ⟨fun i v hv => ?_, fun i hi => ?_⟩
  · rw [List.getElem_replicate] at hv
    rw [World.cell?_alloc_mark, madeFl _ hj hv]
  · have hv : (flL nilFl)[i]? = some ((flL nilFl)[i]'(by rw [flL_len]; exact hi)) := List.getElem?_eq_getElem _
    rw [World.cell?_alloc_mark, madeFl _ hj hv, World.frozen?_alloc_mark]
    exact ⟨rfl, by simp⟩
theorem cellsFl {w : World} {b o : Nat} {x : Fl} (h : w.rangeAt b o (flL x)) : w.cell? ⟨b, o, none⟩ = some (.int .i64 x.at0) ∧ w.cell? ⟨b, o + 1, none⟩ = some (.string ⟨x.data.toArray⟩) :=
  ⟨h 0 _ rfl, h 1 _ rfl⟩
theorem freeFl {w : World} {b o : Nat} (h : w.there b o 2) : w.frozen? ⟨b, o, none⟩ = false ∧ w.frozen? ⟨b, o + 1, none⟩ = false :=
  ⟨(h 0 (by omega)).2, (h 1 (by omega)).2⟩
theorem putFl (w : World) (g o : Nat) (x : Fl) : (w.setCell ⟨g, o, none⟩ (.int .i64 x.at0)).setCell ⟨g, o + 1, none⟩ (.string ⟨x.data.toArray⟩) = w.setCells g o (flL x) := rfl
def RetFls (w : World) (X : List Fl) (e : Ending) (w' : World) : Prop := ∃ v, e = .returned v ∧ OwnFl w' w.heap.size v X ∧ CapI v ∧ Below w.heap.size w w'
theorem info_FlightS : (Try.prog.info? 101).map (fun i => (i.zero, i.size, i.bytes)) = some (some (.agg zFl), 2, 24) := by kernel_rfl
theorem run_make_FlightS (W : World) (n : Nat) (hn : n ≤ 1048576) : (Instr.makeSlice 50 (.int .i64 (n : Int)) (.int .i64 (n : Int))).run Try.prog W = .ok (.slice (some ⟨W.heap.size, 0, none⟩) n n) (W.alloc (.cells (madeCells zFl (n * 2)) 101)) := by
  obtain ⟨i0, hi, hz0, hz1, hz2⟩ := info_parts info_FlightS
  have := run_make (P := Try.prog) W 50 101 i0 (.agg zFl) Try.underlying50 hi hz0 .i64 .i64 n n (by omega) (Int.le_refl _) (by rw [hz2]; omega) (by omega)
  rw [this, hz1, Int.toNat_natCast]; rfl
theorem sizeFlightL : (Try.prog.info? 125).map (·.size) = some 2 := by kernel_rfl
theorem sizeFlightI : (Try.prog.info? 101).map (·.size) = some 2 := by kernel_rfl
set_option maxRecDepth 100000 in
set_option maxHeartbeats 1000000 in
theorem toFlightS_any {w : World} {v : Value} {X : List Fl} (h : RdFl w v X) (hn : X.length ≤ 1048576) :
    Calls Try.prog 61 #[v] w (RetFls w X) := by
  obtain ⟨a, cap, rfl, h⟩ := h
  have hmk := fun W => run_make_FlightS W X.length hn
  by_cases hx : X = []
  · subst hx
    have hmk0 : ∀ W, (Instr.makeSlice 50 (.int .i64 0) (.int .i64 0)).run Try.prog W = .ok (.slice (some ⟨W.heap.size, 0, none⟩) 0 0) (W.alloc (.cells (madeCells zFl (0 * 2)) 101)) := fun W => run_make_FlightS W 0 (by omega)
    clear hmk
    go_enter Try.func61, Try.ntmps61
    go_wp2
    refine wp_loop_once ?_
    go_wp2
    go_ret
    exact ⟨_, rfl, ⟨_, _, rfl, .inl rfl⟩, ⟨_, _, _, rfl, Nat.le_refl _⟩, (Below.refl _ _).alloc (Nat.le_refl _) _⟩
  · obtain ⟨b, off, rfl, hc⟩ := h.resolve_left hx
    have hpos : 0 < X.length := List.length_pos_iff.2 hx
    go_enter Try.func61, Try.ntmps61
    go_wp2_with (fail)
    go_loopw [4] (fun i wr => ∃ (k : Nat) (L : List Fl), k ≤ X.length ∧ i = .int .i64 (k : Int) ∧ L.length = X.length ∧ L.take k = X.take k ∧ RowFl wr w.heap.size L ∧ Below w.heap.size w wr) (fun i _ => X.length - (intOf i).toNat)
    case atStart =>
      exact ⟨0, _, Nat.zero_le _, rfl, List.length_replicate, rfl, RowFl.zeros w _ _, (Below.refl _ _).alloc (Nat.le_refl _) _⟩
    case round =>
      obtain ⟨k, L, hk, rfl, hL, htk, hrow, hbel⟩ := hrel
      by_cases hkl : k < X.length
      · have c0 := hc k hkl
        have c1 : wr.rangeAt b (off + k * 2) (flL X[k]) := rangeKeep c0 hbel (rangeFl c0)
        have hgl : w.heap.size < wr.heap.size := hrow.lt (by intro e; rw [e] at hL; simp at hL; omega)
        obtain ⟨x, hx'⟩ : ∃ x, x = X[k] := ⟨_, rfl⟩
        rw [← hx'] at c1
        have HXK := Lib.hid hx'
        have hkk : (k : Int) < (X.length : Int) := by omega
        have HRW := Lib.hid hrow
        have HL := Lib.hid hL
        have HT := Lib.hid htk
        clear hrow hL htk c0 hx' hc hmk
        obtain ⟨d0, d1⟩ := cellsFl c1
        have hT := fun W => toFlight_any x W
        unfold flV at hT
        go_wp2_with (fail)
        refine (hT _).mono ?_
        rintro e w1 ⟨rfl, hb1⟩
        have hrow := HRW.out.keep hb1 hgl
        have hbel1 := hbel.trans (hb1.mono hbel.size)
        have hkL : k < L.length := by rw [HL.out]; exact hkl
        obtain ⟨e0, e1⟩ := cellsFl (hrow k hkL).1
        obtain ⟨f0, f1⟩ := freeFl (hrow k hkL).2
        have HS := Lib.hid (hrow.put k hkL x)
        clear hrow HRW d0 d1 c1 hT
        generalize L[k] = y at *
        go_wp2_with (fail)
        rw [putFl]
        go_roundw
        case rel =>
          refine ⟨k + 1, L.set k x, by omega, by go_num, by rw [List.length_set]; exact HL.out, ?_, HS.out, belowCells (Nat.le_refl _) _ _ _ hbel1⟩
          rw [List.take_succ_eq_append_getElem (by rw [List.length_set, HL.out]; exact hkl), List.take_succ_eq_append_getElem hkl, List.take_set_of_le (Nat.le_refl _), HT.out, List.getElem_set_self, HXK.out]
        case measure => simp [intOf]; omega
      · have e : L = X := by
          rw [List.take_of_length_le (by omega), List.take_of_length_le (by omega)] at htk
          exact htk
        subst e
        go_wp2_with (fail)
        go_ret
        exact ⟨_, rfl, ⟨_, _, rfl, .inr ⟨_, Nat.le_refl _, rfl, hrow⟩⟩, ⟨_, _, _, rfl, Nat.le_refl _⟩, hbel⟩
set_option maxRecDepth 100000 in
set_option maxHeartbeats 2000000 in
theorem eqFlightS_same {w : World} {v v' : Value} {X : List Fl} (h : RdFl w v X) (h' : RdFl w v' X) (hn : X.length ≤ 1048576) :
    Calls Try.prog 68 #[v, v'] w fun e w' => e = .returned (.bool true) ∧ Below w.heap.size w w' := by
  obtain ⟨a, cap, rfl, h⟩ := h
  obtain ⟨a', cap', rfl, h'⟩ := h'
  by_cases hx : X = []
  · subst hx
    go_enter Try.func68, Try.ntmps68
    go_wp2_with (fail)
    refine wp_loop_once ?_
    go_wp2_with (fail)
    go_ret
    exact ⟨rfl, Below.refl _ _⟩
  · obtain ⟨b, off, rfl, hc⟩ := h.resolve_left hx
    obtain ⟨b', off', rfl, hc'⟩ := h'.resolve_left hx
    have HC := Lib.hid hc
    have HC' := Lib.hid hc'
    have hE := fun x W => eqFlight_same x W
    unfold flV at hE
    clear h h' hc hc'
    go_enter Try.func68, Try.ntmps68
    go_wp2_with (fail)
    go_loopw [5] (fun i wr => ∃ k : Nat, k ≤ X.length ∧ i = .int .i64 (k : Int) ∧ Below w.heap.size w wr) (fun i _ => X.length - (intOf i).toNat)
    case atStart => exact ⟨0, Nat.zero_le _, rfl, Below.refl _ _⟩
    case round =>
      obtain ⟨k, hk, rfl, hbel⟩ := hrel
      by_cases hkl : k < X.length
      · have c0 := HC.out k hkl
        have d0 := HC'.out k hkl
        have c1 : wr.rangeAt b (off + k * 2) (flL X[k]) := rangeKeep c0 hbel (rangeFl c0)
        have d1 : wr.rangeAt b' (off' + k * 2) (flL X[k]) := rangeKeep d0 hbel (rangeFl d0)
        have hkk : (k : Int) < (X.length : Int) := by omega
        have hk0 : (0 : Int) ≤ (k : Int) := by omega
        clear c0 d0
        generalize X[k] = x at c1 d1
        have hsz := hbel.size
        obtain ⟨p0, p1⟩ := cellsFl c1
        obtain ⟨q0, q1⟩ := cellsFl d1
        go_wp2_with (fail)
        go_region_held3 (fun w' => (w'.cell? ⟨b, off + k * 2, none⟩ = some (.int .i64 x.at0) ∧ w'.cell? ⟨b, off + k * 2 + 1, none⟩ = some (.string ⟨x.data.toArray⟩)) ∧ (w'.cell? ⟨b', off' + k * 2, none⟩ = some (.int .i64 x.at0) ∧ w'.cell? ⟨b', off' + k * 2 + 1, none⟩ = some (.string ⟨x.data.toArray⟩)))
          (first | (exact ⟨cellsFl c1, cellsFl d1⟩) | (exact ⟨cellsFl c3, cellsFl d3⟩) | go_keep)
          (first | (go_at_call 91; refine (hE x _).mono ?_; rintro e w1 ⟨rfl, hb1⟩; have hb3 := (belowDrew wr 1).trans (hb1.mono (by simp)); have c3 := rangeKeep c1 hb3 (rangeFl c1); have d3 := rangeKeep d1 hb3 (rangeFl d1)))
        go_wp2_with (fail)
        go_roundw
        case rel => exact ⟨k + 1, by omega, by go_num, hbel.trans (Below.mono hb3 hsz)⟩
        case measure => simp [intOf]; omega
      · go_wp2_with (fail)
        go_ret
        exact ⟨rfl, hbel⟩
section
variable {H : Type} {enc : TypeId × Value → H} {w : World} {base : Nat} {spare : Nat → Bool} {held : Bool}
set_option maxRecDepth 100000 in
/-- A slice of them, off its reading. -/
theorem rdFl_of_trod {n : Nat} {v0 : Value} {y : DataW H × List MemPlace} (h : DataW.trod enc Try.prog w base spare held n 46 [v0] = some y) : ∃ X, RdFl w v0 X ∧ X.length ≤ 9223372036854775807 ∧ ∀ b ∈ X, b.fits := by
  rcases open_slice_fields (fs := _) Try.underlying46 Try.underlying125 (by kernel_rfl) (by kernel_rfl) h with hcs | ⟨a, len, cap, m, hcs, hl, hm, hlm, hx⟩
  · simp only [List.cons.injEq, and_true] at hcs
    subst hcs
    exact ⟨[], ⟨none, 0, rfl, .inl rfl⟩, by simp, by simp⟩
  · simp only [List.cons.injEq, and_true] at hcs
    subst hcs
    have hb : ∀ i, i < m → ∃ b : Fl, b.fits ∧ ∀ j (hj : j < 2), w.cell? (a.add (i * 2 + j)) = some ((flL b)[j]'(by rw [flL_len]; exact hj)) := by
      intro i hi
      obtain ⟨n', hf⟩ := hx i hi
      obtain ⟨v0, _, c0, t0⟩ := hf 0 _ rfl
      obtain ⟨v1, _, c1, t1⟩ := hf 1 _ rfl
      obtain ⟨m0, rfl, w0⟩ := intField t0
      obtain ⟨m1, rfl, w1⟩ := strField t1
      refine ⟨⟨m0, m1⟩, ⟨w0, w1⟩, fun j hj => ?_⟩
      match j, hj with
      | 0, _ => exact c0
      | 1, _ => exact c1
    obtain ⟨Z, hZ⟩ := choose_lt (α := Fl) (p := fun i b => b.fits ∧ ∀ j (hj : j < 2), w.cell? (a.add (i * 2 + j)) = some ((flL b)[j]'(by rw [flL_len]; exact hj))) (n := m) hb
    unfold maxLen at hm
    refine ⟨(List.range len).map Z, ⟨some a, cap, by simp, ?_⟩, by simp; omega, ?_⟩
    · by_cases h0 : len = 0
      · subst h0; exact .inl rfl
      · obtain ⟨b, off, spot⟩ := a
        have hc0 := (hZ 0 (by omega)).2 0 (by omega)
        have hspot : spot = none := by simpa [Addr.add] using World.cell?_spot hc0
        subst hspot
        refine .inr ⟨b, off, rfl, fun j hj i v hv => ?_⟩
        rw [List.length_map, List.length_range] at hj
        obtain ⟨hi, hv'⟩ := List.getElem?_eq_some_iff.1 hv
        rw [flL_len] at hi
        have h1 := (hZ j (by omega)).2 i hi
        rw [show (⟨b, off, none⟩ : Addr).add (j * 2 + i) = ⟨b, off + (j * 2 + i), none⟩ by unfold Addr.add; split <;> simp_all, ← Nat.add_assoc] at h1
        rw [h1, ← hv']
        simp
    · intro s hs
      simp only [List.mem_map, List.mem_range] at hs
      obtain ⟨i, hi, rfl⟩ := hs
      exact (hZ i (by omega)).1
end
end Go.Proofs.Yteafgghpkohfpab
