/-
  Rows of paces: read, owned, sized, copied, compared. Lists of at most 2^20.
-/
import Derived.Test.YteafgghpkohfpaaPace
import Derived.Test.YteafgghpkohfpaaRng
namespace Go.Proofs.Yteafgghpkohfpaa
open Go.RowKit Go.Joins Go.ChangeShapes Go.WideShapes Go.Deep
set_option linter.all false
/-- The cells, as a list. -/
def pcL (q : Pc) : List Value := [.int .i64 q.newest, .int .i64 q.their, .int .i64 q.at0, .int .i64 q.trip, .int .i64 q.samples]
theorem pcL_len (q : Pc) : (pcL q).length = 5 := rfl
theorem pcL_one (q : Pc) : ∀ v ∈ pcL q, v.oneCell' = true := by intro v hv; simp [pcL] at hv; rcases hv with rfl | rfl | rfl | rfl | rfl <;> rfl
theorem rangePc {w : World} {b o : Nat} {q : Pc} (h : w.rangeAt b o (pcL q)) : b < w.heap.size := World.block_lt_of_cell? w _ (h 0 _ rfl)
/-- The slice v reads as the list X. -/
def RdPc (w : World) (v : Value) (X : List Pc) : Prop :=
  ∃ a cap, v = .slice a X.length cap ∧ (X = [] ∨ ∃ b off, a = some ⟨b, off, none⟩ ∧ ∀ j (h : j < X.length), w.rangeAt b (off + j * 5) (pcL X[j]))
/-- Block g holds the list X, and it may be written. -/
def RowPc (w : World) (g : Nat) (X : List Pc) : Prop := ∀ j (h : j < X.length), w.rangeAt g (j * 5) (pcL X[j]) ∧ w.there g (j * 5) 5
/-- The slice v is the call's own, among blocks from B on, and holds the list X. -/
def OwnPc (w : World) (B : Nat) (v : Value) (X : List Pc) : Prop :=
  ∃ a cap, v = .slice a X.length cap ∧ (X = [] ∨ ∃ g, B ≤ g ∧ a = some ⟨g, 0, none⟩ ∧ RowPc w g X)
theorem OwnPc.rd {w : World} {B : Nat} {v : Value} {X : List Pc} (h : OwnPc w B v X) : RdPc w v X := by
  obtain ⟨a, cap, hv, h⟩ := h
  refine ⟨a, cap, hv, ?_⟩
  rcases h with h | ⟨g, hB, ha, hr⟩
  · exact .inl h
  · exact .inr ⟨g, 0, ha, fun j hj => by rw [Nat.zero_add]; exact (hr j hj).1⟩
theorem RdPc.keep {w w' : World} {v : Value} {X : List Pc} (h : RdPc w v X) (hb : Below w.heap.size w w') : RdPc w' v X := by
  obtain ⟨a, cap, hv, h⟩ := h
  refine ⟨a, cap, hv, ?_⟩
  rcases h with h | ⟨b, off, ha, hr⟩
  · exact .inl h
  · exact .inr ⟨b, off, ha, fun j hj => rangeKeep (hr j hj) hb (rangePc (hr j hj))⟩
theorem RowPc.lt {w : World} {g : Nat} {X : List Pc} (h : RowPc w g X) (hx : X ≠ []) : g < w.heap.size := rangePc (h 0 (List.length_pos_iff.2 hx)).1
theorem RowPc.keep {w w' : World} {g : Nat} {X : List Pc} (h : RowPc w g X) {C : Nat} (hb : Below C w w') (hC : g < C) : RowPc w' g X :=
  fun j hj => ⟨rangeKeep (h j hj).1 hb hC, thereKeep (h j hj).2 hb hC⟩
theorem OwnPc.keep {w w' : World} {B : Nat} {v : Value} {X : List Pc} (h : OwnPc w B v X) (hb : Below w.heap.size w w') : OwnPc w' B v X := by
  obtain ⟨a, cap, hv, h⟩ := h
  refine ⟨a, cap, hv, ?_⟩
  by_cases hx : X = []
  · exact .inl hx
  · obtain ⟨g, hB, ha, hr⟩ := h.resolve_left hx
    exact .inr ⟨g, hB, ha, hr.keep hb (hr.lt hx)⟩
theorem OwnPc.up {w : World} {B C : Nat} {v : Value} {X : List Pc} (h : OwnPc w B v X) (hC : C ≤ B) : OwnPc w C v X := by
  obtain ⟨a, cap, hv, h⟩ := h
  refine ⟨a, cap, hv, ?_⟩
  rcases h with h | ⟨g, hB, ha, hr⟩
  · exact .inl h
  · exact .inr ⟨g, by omega, ha, hr⟩
theorem RowPc.far {w : World} {g : Nat} {X : List Pc} (h : RowPc w g X) {p : Addr} (hp : p.block ≠ g) (u : Value) : RowPc (w.setCell p u) g X :=
  fun j hj => ⟨rangeFar (h j hj).1 hp u, thereFar (h j hj).2 hp u⟩
theorem OwnPc.far {w : World} {B : Nat} {v : Value} {X : List Pc} (h : OwnPc w B v X) {p : Addr} (hp : p.block < B) (u : Value) : OwnPc (w.setCell p u) B v X := by
  obtain ⟨a, cap, hv, h⟩ := h
  refine ⟨a, cap, hv, ?_⟩
  rcases h with h | ⟨b, hB, ha, hr⟩
  · exact .inl h
  · exact .inr ⟨b, hB, ha, hr.far (by omega) u⟩
/-- A whole element is stored. -/
theorem RowPc.put {w : World} {g : Nat} {X : List Pc} (h : RowPc w g X) (k : Nat) (hk : k < X.length) (b : Pc) : RowPc (w.setCells g (k * 5) (pcL b)) g (X.set k b) := by
  intro j hj0
  have hj : j < X.length := by rw [List.length_set] at hj0; exact hj0
  refine ⟨?_, World.there_setCells (h j hj).2 _ _ _⟩
  by_cases e : k = j
  · subst e
    rw [List.getElem_set_self]
    exact World.rangeAt_setCells_same _ _ _ _ (h k hk).2
  · rw [List.getElem_set_ne e]
    exact World.rangeAt_setCells_apart (h j hj).1 _ _ _ (by rw [pcL_len, pcL_len]; omega)
def zPc : Array Value := #[.int .i64 0, .int .i64 0, .int .i64 0, .int .i64 0, .int .i64 0]
def nilPc : Pc := ⟨0, 0, 0, 0, 0⟩
theorem madePc (m : Nat) {j i : Nat} (h : j < m) {v : Value} (hv : (pcL nilPc)[i]? = some v) : (madeCells zPc (m * 5))[j * 5 + i]? = some v := by
  obtain ⟨hi, e⟩ := List.getElem?_eq_some_iff.1 hv
  rw [pcL_len] at hi
  rw [← e]
  unfold madeCells
  rw [Array.getElem?_map, Array.getElem?_range]
  rw [if_pos (by omega), Option.map_some]
  have hm : (j * 5 + i) % zPc.size = i := by
    show (j * 5 + i) % 5 = i
    omega
  rw [hm]
  match i, hi with
  | 0, _ => rfl
  | 1, _ => rfl
  | 2, _ => rfl
  | 3, _ => rfl
  | 4, _ => rfl
theorem RowPc.zeros (w : World) (n : Nat) (t : TypeId) : RowPc (w.alloc (.cells (madeCells zPc (n * 5)) t)) w.heap.size (List.replicate n nilPc) := by
  intro j hj
  rw [List.length_replicate] at hj
  refine ⟨fun i v hv => ?_, fun i hi => ?_⟩
  · rw [List.getElem_replicate] at hv
    rw [World.cell?_alloc_mark, madePc _ hj hv]
  · have hv : (pcL nilPc)[i]? = some ((pcL nilPc)[i]'(by rw [pcL_len]; exact hi)) := List.getElem?_eq_getElem _
    rw [World.cell?_alloc_mark, madePc _ hj hv, World.frozen?_alloc_mark]
    exact ⟨rfl, by simp⟩
theorem cellsPc {w : World} {b o : Nat} {x : Pc} (h : w.rangeAt b o (pcL x)) : w.cell? ⟨b, o, none⟩ = some (.int .i64 x.newest) ∧ w.cell? ⟨b, o + 1, none⟩ = some (.int .i64 x.their) ∧ w.cell? ⟨b, o + 2, none⟩ = some (.int .i64 x.at0) ∧ w.cell? ⟨b, o + 3, none⟩ = some (.int .i64 x.trip) ∧ w.cell? ⟨b, o + 4, none⟩ = some (.int .i64 x.samples) :=
  ⟨h 0 _ rfl, h 1 _ rfl, h 2 _ rfl, h 3 _ rfl, h 4 _ rfl⟩
theorem freePc {w : World} {b o : Nat} (h : w.there b o 5) : w.frozen? ⟨b, o, none⟩ = false ∧ w.frozen? ⟨b, o + 1, none⟩ = false ∧ w.frozen? ⟨b, o + 2, none⟩ = false ∧ w.frozen? ⟨b, o + 3, none⟩ = false ∧ w.frozen? ⟨b, o + 4, none⟩ = false :=
  ⟨(h 0 (by omega)).2, (h 1 (by omega)).2, (h 2 (by omega)).2, (h 3 (by omega)).2, (h 4 (by omega)).2⟩
theorem putPc (w : World) (g o : Nat) (x : Pc) : ((((w.setCell ⟨g, o, none⟩ (.int .i64 x.newest)).setCell ⟨g, o + 1, none⟩ (.int .i64 x.their)).setCell ⟨g, o + 2, none⟩ (.int .i64 x.at0)).setCell ⟨g, o + 3, none⟩ (.int .i64 x.trip)).setCell ⟨g, o + 4, none⟩ (.int .i64 x.samples) = w.setCells g o (pcL x) := rfl
def RetPcs (w : World) (X : List Pc) (e : Ending) (w' : World) : Prop := ∃ v, e = .returned v ∧ OwnPc w' w.heap.size v X ∧ CapI v ∧ Below w.heap.size w w'
theorem info_PaceS : (Try.prog.info? 31).map (fun i => (i.zero, i.size, i.bytes)) = some (some (.agg zPc), 5, 40) := by kernel_rfl
theorem run_make_PaceS (W : World) (n : Nat) (hn : n ≤ 1048576) : (Instr.makeSlice 67 (.int .i64 (n : Int)) (.int .i64 (n : Int))).run Try.prog W = .ok (.slice (some ⟨W.heap.size, 0, none⟩) n n) (W.alloc (.cells (madeCells zPc (n * 5)) 31)) := by
  obtain ⟨i0, hi, hz0, hz1, hz2⟩ := info_parts info_PaceS
  have := run_make (P := Try.prog) W 67 31 i0 (.agg zPc) Try.underlying67 hi hz0 .i64 .i64 n n (by omega) (Int.le_refl _) (by rw [hz2]; omega) (by omega)
  rw [this, hz1, Int.toNat_natCast]; rfl
theorem sizePaceL : (Try.prog.info? 29).map (·.size) = some 5 := by kernel_rfl
theorem sizePaceI : (Try.prog.info? 31).map (·.size) = some 5 := by kernel_rfl
set_option maxRecDepth 100000 in
set_option maxHeartbeats 1000000 in
theorem toPaceS_any {w : World} {v : Value} {X : List Pc} (h : RdPc w v X) (hn : X.length ≤ 1048576) :
    Calls Try.prog 47 #[v] w (RetPcs w X) := by
  obtain ⟨a, cap, rfl, h⟩ := h
  have hmk := fun W => run_make_PaceS W X.length hn
  by_cases hx : X = []
  · subst hx
    have hmk0 : ∀ W, (Instr.makeSlice 67 (.int .i64 0) (.int .i64 0)).run Try.prog W = .ok (.slice (some ⟨W.heap.size, 0, none⟩) 0 0) (W.alloc (.cells (madeCells zPc (0 * 5)) 31)) := fun W => run_make_PaceS W 0 (by omega)
    clear hmk
    go_enter Try.func47, Try.ntmps47
    go_wp2
    refine wp_loop_once ?_
    go_wp2
    go_ret
    exact ⟨_, rfl, ⟨_, _, rfl, .inl rfl⟩, ⟨_, _, _, rfl, Nat.le_refl _⟩, (Below.refl _ _).alloc (Nat.le_refl _) _⟩
  · obtain ⟨b, off, rfl, hc⟩ := h.resolve_left hx
    have hpos : 0 < X.length := List.length_pos_iff.2 hx
    go_enter Try.func47, Try.ntmps47
    go_wp2_with (fail)
    go_loopw [4] (fun i wr => ∃ (k : Nat) (L : List Pc), k ≤ X.length ∧ i = .int .i64 (k : Int) ∧ L.length = X.length ∧ L.take k = X.take k ∧ RowPc wr w.heap.size L ∧ Below w.heap.size w wr) (fun i _ => X.length - (intOf i).toNat)
    case atStart =>
      exact ⟨0, _, Nat.zero_le _, rfl, List.length_replicate, rfl, RowPc.zeros w _ _, (Below.refl _ _).alloc (Nat.le_refl _) _⟩
    case round =>
      obtain ⟨k, L, hk, rfl, hL, htk, hrow, hbel⟩ := hrel
      by_cases hkl : k < X.length
      · have c0 := hc k hkl
        have c1 : wr.rangeAt b (off + k * 5) (pcL X[k]) := rangeKeep c0 hbel (rangePc c0)
        have hgl : w.heap.size < wr.heap.size := hrow.lt (by intro e; rw [e] at hL; simp at hL; omega)
        obtain ⟨x, hx'⟩ : ∃ x, x = X[k] := ⟨_, rfl⟩
        rw [← hx'] at c1
        have HXK := Lib.hid hx'
        have hkk : (k : Int) < (X.length : Int) := by omega
        have HRW := Lib.hid hrow
        have HL := Lib.hid hL
        have HT := Lib.hid htk
        clear hrow hL htk c0 hx' hc hmk
        obtain ⟨d0, d1, d2, d3, d4⟩ := cellsPc c1
        have hT := fun W => toPace_any x W
        unfold pcV at hT
        go_wp2_with (fail)
        refine (hT _).mono ?_
        rintro e w1 ⟨rfl, hb1⟩
        have hrow := HRW.out.keep hb1 hgl
        have hbel1 := hbel.trans (hb1.mono hbel.size)
        have hkL : k < L.length := by rw [HL.out]; exact hkl
        obtain ⟨e0, e1, e2, e3, e4⟩ := cellsPc (hrow k hkL).1
        obtain ⟨f0, f1, f2, f3, f4⟩ := freePc (hrow k hkL).2
        have HS := Lib.hid (hrow.put k hkL x)
        clear hrow HRW d0 d1 d2 d3 d4 c1 hT
        generalize L[k] = y at *
        go_wp2_with (fail)
        rw [putPc]
        go_roundw
        case rel =>
          refine ⟨k + 1, L.set k x, by omega, by go_num, by rw [List.length_set]; exact HL.out, ?_, HS.out, belowCells (Nat.le_refl _) _ _ _ hbel1⟩
          rw [List.take_succ_eq_append_getElem (by rw [List.length_set, HL.out]; exact hkl), List.take_succ_eq_append_getElem hkl, List.take_set_of_le (Nat.le_refl _), HT.out, List.getElem_set_self, HXK.out]
        case measure => simp [intOf]; omega
      · have e : L = X := by
          rw [List.take_of_length_le (by omega), List.take_of_length_le (by omega)] at htk
          exact htk
        subst e
        go_wp2_with (fail)
        go_ret
        exact ⟨_, rfl, ⟨_, _, rfl, .inr ⟨_, Nat.le_refl _, rfl, hrow⟩⟩, ⟨_, _, _, rfl, Nat.le_refl _⟩, hbel⟩
set_option maxRecDepth 100000 in
set_option maxHeartbeats 2000000 in
theorem eqPaceS_same {w : World} {v v' : Value} {X : List Pc} (h : RdPc w v X) (h' : RdPc w v' X) (hn : X.length ≤ 1048576) :
    Calls Try.prog 49 #[v, v'] w fun e w' => e = .returned (.bool true) ∧ Below w.heap.size w w' := by
  obtain ⟨a, cap, rfl, h⟩ := h
  obtain ⟨a', cap', rfl, h'⟩ := h'
  by_cases hx : X = []
  · subst hx
    go_enter Try.func49, Try.ntmps49
    go_wp2_with (fail)
    refine wp_loop_once ?_
    go_wp2_with (fail)
    go_ret
    exact ⟨rfl, Below.refl _ _⟩
  · obtain ⟨b, off, rfl, hc⟩ := h.resolve_left hx
    obtain ⟨b', off', rfl, hc'⟩ := h'.resolve_left hx
    have HC := Lib.hid hc
    have HC' := Lib.hid hc'
    have hE := fun x W => eqPace_same x W
    unfold pcV at hE
    clear h h' hc hc'
    go_enter Try.func49, Try.ntmps49
    go_wp2_with (fail)
    go_loopw [5] (fun i wr => ∃ k : Nat, k ≤ X.length ∧ i = .int .i64 (k : Int) ∧ Below w.heap.size w wr) (fun i _ => X.length - (intOf i).toNat)
    case atStart => exact ⟨0, Nat.zero_le _, rfl, Below.refl _ _⟩
    case round =>
      obtain ⟨k, hk, rfl, hbel⟩ := hrel
      by_cases hkl : k < X.length
      · have c0 := HC.out k hkl
        have d0 := HC'.out k hkl
        have c1 : wr.rangeAt b (off + k * 5) (pcL X[k]) := rangeKeep c0 hbel (rangePc c0)
        have d1 : wr.rangeAt b' (off' + k * 5) (pcL X[k]) := rangeKeep d0 hbel (rangePc d0)
        have hkk : (k : Int) < (X.length : Int) := by omega
        have hk0 : (0 : Int) ≤ (k : Int) := by omega
        clear c0 d0
        generalize X[k] = x at c1 d1
        have hsz := hbel.size
        obtain ⟨p0, p1, p2, p3, p4⟩ := cellsPc c1
        obtain ⟨q0, q1, q2, q3, q4⟩ := cellsPc d1
        go_wp2_with (fail)
        go_region_held3 (fun w' => (w'.cell? ⟨b, off + k * 5, none⟩ = some (.int .i64 x.newest) ∧ w'.cell? ⟨b, off + k * 5 + 1, none⟩ = some (.int .i64 x.their) ∧ w'.cell? ⟨b, off + k * 5 + 2, none⟩ = some (.int .i64 x.at0) ∧ w'.cell? ⟨b, off + k * 5 + 3, none⟩ = some (.int .i64 x.trip) ∧ w'.cell? ⟨b, off + k * 5 + 4, none⟩ = some (.int .i64 x.samples)) ∧ (w'.cell? ⟨b', off' + k * 5, none⟩ = some (.int .i64 x.newest) ∧ w'.cell? ⟨b', off' + k * 5 + 1, none⟩ = some (.int .i64 x.their) ∧ w'.cell? ⟨b', off' + k * 5 + 2, none⟩ = some (.int .i64 x.at0) ∧ w'.cell? ⟨b', off' + k * 5 + 3, none⟩ = some (.int .i64 x.trip) ∧ w'.cell? ⟨b', off' + k * 5 + 4, none⟩ = some (.int .i64 x.samples)))
          (first | (exact ⟨cellsPc c1, cellsPc d1⟩) | (exact ⟨cellsPc c3, cellsPc d3⟩) | go_keep)
          (first | (go_at_call 30; refine (hE x _).mono ?_; rintro e w1 ⟨rfl, hb1⟩; have hb3 := (belowDrew wr 1).trans (hb1.mono (by simp)); have c3 := rangeKeep c1 hb3 (rangePc c1); have d3 := rangeKeep d1 hb3 (rangePc d1)))
        go_wp2_with (fail)
        go_roundw
        case rel => exact ⟨k + 1, by omega, by go_num, hbel.trans (Below.mono hb3 hsz)⟩
        case measure => simp [intOf]; omega
      · go_wp2_with (fail)
        go_ret
        exact ⟨rfl, hbel⟩
theorem szPaceS_any {w : World} {v : Value} {X : List Pc} (h : RdPc w v X) (hs : X.length ≤ 9223372036854775807) (left : Int) (hl0 : 0 ≤ left) (hl1 : left ≤ 1048576) :
    Calls Try.prog 45 #[v, .int .i64 left] w (Sz1 left X.length w) := by
  obtain ⟨a, cap, rfl, -⟩ := h
  have hlc : (X.length : Int) ≤ 9223372036854775807 := by omega
  by_cases hneg : left - (X.length : Int) < 0
  · have z1 : decide (left - (X.length : Int) < 0) = true := by simpa using hneg
    go_enter Try.func45, Try.ntmps45
    go_wp2_with (fail)
    go_ret
    exact ⟨-1, rfl, .inl rfl, rfl⟩
  · have z1 : decide (left - (X.length : Int) < 0) = false := by simpa using hneg
    go_enter Try.func45, Try.ntmps45
    go_wp2_with (fail)
    go_ret
    exact ⟨_, rfl, .inr ⟨by omega, rfl⟩, rfl⟩
section
variable {H : Type} {enc : TypeId × Value → H} {w : World} {base : Nat} {spare : Nat → Bool} {held : Bool}
set_option maxRecDepth 100000 in
/-- A slice of them, off its reading. -/
theorem rdPc_of_trod {n : Nat} {v0 : Value} {y : DataW H × List MemPlace} (h : DataW.trod enc Try.prog w base spare held n 64 [v0] = some y) : ∃ X, RdPc w v0 X ∧ X.length ≤ 9223372036854775807 ∧ ∀ b ∈ X, b.fits := by
  rcases open_slice_fields (fs := _) Try.underlying64 Try.underlying29 (by kernel_rfl) (by kernel_rfl) h with hcs | ⟨a, len, cap, m, hcs, hl, hm, hlm, hx⟩
  · simp only [List.cons.injEq, and_true] at hcs
    subst hcs
    exact ⟨[], ⟨none, 0, rfl, .inl rfl⟩, by simp, by simp⟩
  · simp only [List.cons.injEq, and_true] at hcs
    subst hcs
    have hb : ∀ i, i < m → ∃ b : Pc, b.fits ∧ ∀ j (hj : j < 5), w.cell? (a.add (i * 5 + j)) = some ((pcL b)[j]'(by rw [pcL_len]; exact hj)) := by
      intro i hi
      obtain ⟨n', hf⟩ := hx i hi
      obtain ⟨v0, _, c0, t0⟩ := hf 0 _ rfl
      obtain ⟨v1, _, c1, t1⟩ := hf 1 _ rfl
      obtain ⟨v2, _, c2, t2⟩ := hf 2 _ rfl
      obtain ⟨v3, _, c3, t3⟩ := hf 3 _ rfl
      obtain ⟨v4, _, c4, t4⟩ := hf 4 _ rfl
      obtain ⟨m0, rfl, w0⟩ := intField t0
      obtain ⟨m1, rfl, w1⟩ := intField t1
      obtain ⟨m2, rfl, w2⟩ := intField t2
      obtain ⟨m3, rfl, w3⟩ := intField t3
      obtain ⟨m4, rfl, w4⟩ := intField t4
      refine ⟨⟨m0, m1, m2, m3, m4⟩, ⟨w0, w1, w2, w3, w4⟩, fun j hj => ?_⟩
      match j, hj with
      | 0, _ => exact c0
      | 1, _ => exact c1
      | 2, _ => exact c2
      | 3, _ => exact c3
      | 4, _ => exact c4
    obtain ⟨Z, hZ⟩ := choose_lt (α := Pc) (p := fun i b => b.fits ∧ ∀ j (hj : j < 5), w.cell? (a.add (i * 5 + j)) = some ((pcL b)[j]'(by rw [pcL_len]; exact hj))) (n := m) hb
    unfold maxLen at hm
    refine ⟨(List.range len).map Z, ⟨some a, cap, by simp, ?_⟩, by simp; omega, ?_⟩
    · by_cases h0 : len = 0
      · subst h0; exact .inl rfl
      · obtain ⟨b, off, spot⟩ := a
        have hc0 := (hZ 0 (by omega)).2 0 (by omega)
        have hspot : spot = none := by simpa [Addr.add] using World.cell?_spot hc0
        subst hspot
        refine .inr ⟨b, off, rfl, fun j hj i v hv => ?_⟩
        rw [List.length_map, List.length_range] at hj
        obtain ⟨hi, hv'⟩ := List.getElem?_eq_some_iff.1 hv
        rw [pcL_len] at hi
        have h1 := (hZ j (by omega)).2 i hi
        rw [show (⟨b, off, none⟩ : Addr).add (j * 5 + i) = ⟨b, off + (j * 5 + i), none⟩ by unfold Addr.add; split <;> simp_all, ← Nat.add_assoc] at h1
        rw [h1, ← hv']
        simp
    · intro s hs
      simp only [List.mem_map, List.mem_range] at hs
      obtain ⟨i, hi, rfl⟩ := hs
      exact (hZ i (by omega)).1
end
end Go.Proofs.Yteafgghpkohfpaa
