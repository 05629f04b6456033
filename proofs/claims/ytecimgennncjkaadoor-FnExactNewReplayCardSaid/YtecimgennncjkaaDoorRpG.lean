/-
  Replays as the laws hand them over: szReplay, toReplay, eqReplay; a replay that came in, opened. Lists of at most 2^20.
-/
import Derived.Test.YtecimgennncjkaaDoorRowL
import Derived.Test.YtecimgennncjkaaDoorMrk
import Derived.Test.YtecimgennncjkaaDoorOin
import Derived.Test.YtecimgennncjkaaDoorCap
import Derived.Test.YtecimgennncjkaaDoorMarkL
import Derived.Test.YtecimgennncjkaaDoorCol
import Derived.Test.YtecimgennncjkaaDoorLvM
import Derived.Test.YtecimgennncjkaaDoorOpenL
import Derived.Test.YtecimgennncjkaaDoorRng
import Derived.Deep.Cut
import Derived.Deep.CutBlock
namespace Go.Proofs.YtecimgennncjkaaDoor
open Go.RowKit Go.Joins Go.ChangeShapes Go.WideShapes Go.Deep
set_option linter.all false
theorem OwnI.same {w w' : World} {B : Nat} {v : Value} {xs : List Int} (h : OwnI w B v xs) (he : ∀ b, B ≤ b → b < w.heap.size → w'.heap[b]? = w.heap[b]?) : OwnI w' B v xs := by
  obtain ⟨a, cap, rfl, h⟩ := h
  refine ⟨a, cap, rfl, ?_⟩
  by_cases hx : xs = []
  · exact .inl hx
  rcases h with h | ⟨b, hB, rfl, hr⟩
  · exact .inl h
  · exact .inr ⟨b, hB, rfl, hr.same (he b hB (hr.lt hx))⟩
theorem WrR.same {w w' : World} {B : Nat} {v : Value} {X : Rowi} (h : WrR w B v X) (he : ∀ b, B ≤ b → b < w.heap.size → w'.heap[b]? = w.heap[b]?) : WrR w' B v X := by
  obtain ⟨a, cap, rfl, h⟩ := h
  refine ⟨a, cap, rfl, ?_⟩
  by_cases hx : X = []
  · exact .inl hx
  rcases h with h | ⟨g, hB, rfl, hr⟩
  · exact .inl h
  · have hg := hr.lt hx
    have hh := he g hB hg
    refine .inr ⟨g, hB, rfl, fun j hj => ?_, fun j hj => ?_⟩
    · obtain ⟨u, h1, h2⟩ := hr.1 j hj
      exact ⟨u, by rw [World.cell?_of_block (w := w) hh]; exact h1, h2.same fun b hb hl => he b (by omega) hl⟩
    · rw [frozen_of_block hh]; exact hr.2 j hj
/-- Rows of numbers that may be written, in blocks from B up to T; their own block lies from B on as well. -/
def MkQ (w : World) (B T : Nat) (v : Value) (X : Rowi) : Prop := ∃ a cap, v = .slice a X.length cap ∧ (X = [] ∨ ∃ g, B ≤ g ∧ g < w.heap.size ∧ a = some ⟨g, 0, none⟩ ∧ ∀ j (h : j < X.length), ∃ u, w.cell? ⟨g, j, none⟩ = some u ∧ MkI w B T u X[j].length)
theorem MkQ.mk {w : World} {B T : Nat} {v : Value} {X : Rowi} (h : MkQ w B T v X) : MkR w B T v X := by
  obtain ⟨a, cap, hv, h⟩ := h
  refine ⟨a, cap, hv, ?_⟩
  rcases h with h | ⟨g, -, -, ha, hr⟩
  · exact .inl h
  · exact .inr ⟨g, ha, hr⟩
theorem MkQ.of_wr {w : World} {B : Nat} {v : Value} {X : Rowi} (h : WrR w B v X) : MkQ w B w.heap.size v X := by
  obtain ⟨a, cap, hv, h⟩ := h
  refine ⟨a, cap, hv, ?_⟩
  by_cases hx : X = []
  · exact .inl hx
  rcases h with h | ⟨g, hB, ha, hr⟩
  · exact .inl h
  · refine .inr ⟨g, hB, hr.lt hx, ha, fun j hj => ?_⟩
    obtain ⟨u, h1, h2⟩ := hr.1 j hj
    exact ⟨u, h1, MkI.of_own h2 (by omega)⟩
theorem MkI.same {w w' : World} {B T : Nat} {v : Value} {n : Nat} (h : MkI w B T v n) (he : ∀ b, B ≤ b → b < w.heap.size → w'.heap[b]? = w.heap[b]?) (hs : w.heap.size ≤ w'.heap.size) : MkI w' B T v n := by
  obtain ⟨a, cap, hv, h⟩ := h
  refine ⟨a, cap, hv, ?_⟩
  rcases h with h | ⟨b, hB, hT, hl, ha, hr⟩
  · exact .inl h
  · have hh := he b hB hl
    refine .inr ⟨b, hB, hT, by omega, ha, fun j hj => ?_⟩
    obtain ⟨⟨u, h1⟩, h2⟩ := hr j hj
    exact ⟨⟨u, by rw [World.cell?_of_block (w := w) hh]; exact h1⟩, by rw [frozen_of_block hh]; exact h2⟩
theorem MkQ.same {w w' : World} {B T : Nat} {v : Value} {X : Rowi} (h : MkQ w B T v X) (he : ∀ b, B ≤ b → b < w.heap.size → w'.heap[b]? = w.heap[b]?) (hs : w.heap.size ≤ w'.heap.size) : MkQ w' B T v X := by
  obtain ⟨a, cap, hv, h⟩ := h
  refine ⟨a, cap, hv, ?_⟩
  rcases h with h | ⟨g, hB, hl, ha, hr⟩
  · exact .inl h
  · have hh := he g hB hl
    refine .inr ⟨g, hB, by omega, ha, fun j hj => ?_⟩
    obtain ⟨u, h1, h2⟩ := hr j hj
    exact ⟨u, by rw [World.cell?_of_block (w := w) hh]; exact h1, h2.same he hs⟩
theorem WrS.all {w w' : World} {B : Nat} {v : Value} {xs : List (List UInt8)} (h : WrS w B v xs) (he : ∀ b, B ≤ b → b < w.heap.size → w'.heap[b]? = w.heap[b]?) : WrS w' B v xs := by
  obtain ⟨a, cap, rfl, h⟩ := h
  refine ⟨a, cap, rfl, ?_⟩
  by_cases hx : xs = []
  · exact .inl hx
  · obtain ⟨b, hB, rfl, hr⟩ := h.resolve_left hx
    have hb := he b hB (hr.lt hx)
    refine .inr ⟨b, hB, rfl, fun j hj => ?_, fun j hj => ?_⟩
    · rw [World.cell?_of_block (w := w) hb]; exact hr.1 j hj
    · rw [frozen_of_block hb]; exact hr.2 j hj
def RetIntSSC (w : World) (X : Rowi) (e : Ending) (w' : World) : Prop := ∃ v, e = .returned v ∧ WrR w' w.heap.size v X ∧ CapI v ∧ Below w.heap.size w w'
set_option maxHeartbeats 1000000 in
theorem toIntSS_cap {w : World} {v : Value} {X : Rowi} (h : RdR w v X) (hn : X.length ≤ 1048576) (hi : ∀ x ∈ X, x.length ≤ 1048576) :
    Calls Tryd.prog 48 #[v] w (RetIntSSC w X) := by
  obtain ⟨a, cap, rfl, h⟩ := h
  have hmk := fun W => run_make_IntSS W X.length hn
  by_cases hx : X = []
  · subst hx
    have hmk0 : ∀ W, (Instr.makeSlice 37 (.int .i64 0) (.int .i64 0)).run Tryd.prog W = .ok (.slice (some ⟨W.heap.size, 0, none⟩) 0 0) (W.alloc (.cells (madeCells #[.slice none 0 0] 0) 24)) := fun W => run_make_IntSS W 0 (by omega)
    clear hmk
    go_enter Tryd.func48, Tryd.ntmps48
    go_wp2
    refine wp_loop_once ?_
    go_wp2
    go_ret
    exact ⟨_, rfl, ⟨_, _, rfl, .inl rfl⟩, ⟨_, _, _, rfl, Nat.le_refl _⟩, (Below.refl _ _).alloc (Nat.le_refl _) _⟩
  · obtain ⟨b, off, rfl, hc⟩ := h.resolve_left hx
    have hpos : 0 < X.length := List.length_pos_iff.2 hx
    go_enter Tryd.func48, Tryd.ntmps48
    go_wp2_with (fail)
    go_loopw [4] (fun i wr => ∃ (k : Nat) (L : Rowi), k ≤ X.length ∧ i = .int .i64 (k : Int) ∧ L.length = X.length ∧ L.take k = X.take k ∧ RowW wr w.heap.size (w.heap.size + 1) L ∧ Below w.heap.size w wr) (fun i _ => X.length - (intOf i).toNat)
    case atStart =>
      exact ⟨0, _, Nat.zero_le _, rfl, List.length_replicate, rfl, RowW.zeros w _ _ _, (Below.refl _ _).alloc (Nat.le_refl _) _⟩
    case round =>
      obtain ⟨k, L, hk, rfl, hL, htk, hrow, hbel⟩ := hrel
      by_cases hkl : k < X.length
      · obtain ⟨u, c0, hrd⟩ := hc k hkl
        have c1 : wr.cell? ⟨b, off + k, none⟩ = some u := (hbel.cell (World.block_lt_of_cell? w _ c0)).trans c0
        have hgl : w.heap.size < wr.heap.size := hrow.lt (by intro e; rw [e] at hL; simp at hL; omega)
        have HX : Hid (X[k] = X[k]) := Lib.hid rfl
        obtain ⟨x, hx'⟩ : ∃ x, x = X[k] := ⟨_, rfl⟩
        have hT := toIntS_own (hrd.keep hbel) (by have := hi X[k] (List.getElem_mem _); omega)
        rw [← hx'] at hT
        have HXK := Lib.hid hx'
        have hkk : (k : Int) < (X.length : Int) := by omega
        have HRW := Lib.hid hrow
        have HL := Lib.hid hL
        have HT := Lib.hid htk
        clear hrow hL htk hrd c0 hx' HX
        go_wp2_with (fail)
        refine hT.mono ?_
        rintro e w1 ⟨v1, rfl, ho, hb1⟩
        have hrow := HRW.out.keep hb1 hgl
        have hbel1 := hbel.trans (hb1.mono hbel.size)
        have hkL : k < L.length := by rw [HL.out]; exact hkl
        obtain ⟨u2, c2, -⟩ := hrow.1 k hkL
        have f2 := hrow.2 k hkL
        have HS := Lib.hid (hrow.set k hkL (ho.up (by omega)))
        clear hrow HRW
        obtain ⟨a1, cp1, rfl, -⟩ := id ho
        go_wp2_with (fail)
        go_roundw
        case rel =>
          refine ⟨k + 1, L.set k x, by omega, by go_num, by rw [List.length_set]; exact HL.out, ?_, HS.out, hbel1.setCell (Nat.le_refl _) _⟩
          rw [List.take_succ_eq_append_getElem (by rw [List.length_set, HL.out]; exact hkl), List.take_succ_eq_append_getElem hkl, List.take_set_of_le (Nat.le_refl _), HT.out, List.getElem_set_self, HXK.out]
        case measure => simp [intOf]; omega
      · have e : L = X := by
          rw [List.take_of_length_le (by omega), List.take_of_length_le (by omega)] at htk
          exact htk
        subst e
        go_wp2_with (fail)
        go_ret
        exact ⟨_, rfl, ⟨_, _, rfl, .inr ⟨_, Nat.le_refl _, rfl, hrow⟩⟩, ⟨_, _, _, rfl, Nat.le_refl _⟩, hbel⟩
structure Rp where
  lv : Rowz
  players : Int
  seed : Int
  every : Int
  rows : Rowi
  keys : Rowz
/-- There is a key for each 'every' rows. -/
def keysB (x : Rp) : Bool := decide ((x.keys.length : Int) = (x.rows.length : Int) / x.every)
def replayB (x : Rp) : Bool := levelB x.lv && (inR x.players 1 4 && (inR x.seed 0 65535 && (inR x.every 1 100 && (decide (x.rows.length ≤ 400) && (rowsB x.players x.rows && keysB x)))))
section
variable {x : Rp}
theorem rp_l (h : levelB x.lv = false) : replayB x = false := by unfold replayB; rw [h]; rfl
theorem rp_p (h : inR x.players 1 4 = false) : replayB x = false := by unfold replayB; rw [h]; simp
theorem rp_s (h : inR x.seed 0 65535 = false) : replayB x = false := by unfold replayB; rw [h]; simp
theorem rp_e (h : inR x.every 1 100 = false) : replayB x = false := by unfold replayB; rw [h]; simp
theorem rp_n (h : ¬ x.rows.length ≤ 400) : replayB x = false := by unfold replayB; rw [decide_eq_false h]; simp
theorem rp_r (h : rowsB x.players x.rows = false) : replayB x = false := by unfold replayB; rw [h]; simp
theorem rp_k (h1 : levelB x.lv = true) (h2 : inR x.players 1 4 = true) (h3 : inR x.seed 0 65535 = true) (h4 : inR x.every 1 100 = true) (h5 : x.rows.length ≤ 400) (h6 : rowsB x.players x.rows = true) : replayB x = keysB x := by unfold replayB; rw [h1, h2, h3, h4, decide_eq_true h5, h6]; rfl
theorem rp_facts (h : replayB x = true) : levelB x.lv = true ∧ inR x.players 1 4 = true ∧ inR x.seed 0 65535 = true ∧ inR x.every 1 100 = true ∧ x.rows.length ≤ 400 ∧ rowsB x.players x.rows = true ∧ keysB x = true := by
  unfold replayB at h
  simp only [Bool.and_eq_true, decide_eq_true_eq] at h
  exact h
end
/-- No string, list or number that cannot be. -/
def Rp.sane (x : Rp) : Prop := Sane x.lv ∧ SaneR x.rows ∧ Sane x.keys
def Rp.few (x : Rp) : Prop := x.lv.length ≤ 1048576 ∧ (x.rows.length ≤ 1048576 ∧ ∀ y ∈ x.rows, y.length ≤ 1048576) ∧ x.keys.length ≤ 1048576
/-- A replay's cells, its three lists' slices given. -/
def rpC (x : Rp) (vl vs vb : Value) : Array Value := #[vl, .int .i64 x.players, .int .i64 x.seed, .int .i64 x.every, vs, vb]
/-- The three slices read as the replay's lists. -/
def RdRp (w : World) (x : Rp) (vl vs vb : Value) : Prop := RdS w vl x.lv ∧ RdR w vs x.rows ∧ RdS w vb x.keys
theorem RdRp.keep {w w' : World} {x : Rp} {vl vs vb : Value} (h : RdRp w x vl vs vb) (hb : Below w.heap.size w w') : RdRp w' x vl vs vb := ⟨h.1.keep hb, h.2.1.keep hb, h.2.2.keep hb⟩
theorem setHRp {w : World} {c k : Nat} {v : Value} {l : List Value} {T : TypeId} (h : w.heap[c]? = some (.cells ⟨l⟩ T (0, 0))) : (w.setCell ⟨c, k, none⟩ v).heap[c]? = some (.cells ⟨l.set k v⟩ T (0, 0)) := by
  have := setHeap (k := k) (v := v) h
  simpa using this
def SzRp (left : Int) (x : Rp) (w : World) (e : Ending) (w' : World) : Prop := ∃ r : Int, e = .returned (.int .i64 r) ∧ (r = -1 ∨ (0 ≤ r ∧ r = left - (x.lv.length : Int) - (totalS x.lv : Int) - (x.rows.length : Int) - (totalR x.rows : Int) - (x.keys.length : Int) - (totalS x.keys : Int))) ∧ Below w.heap.size w w'
set_option maxHeartbeats 1000000 in
theorem szReplay_any {w : World} {x : Rp} {vl vs vb : Value} (h : RdRp w x vl vs vb) (hs : x.sane) (left : Int) (hl0 : 0 ≤ left) (hl1 : left ≤ 1048576) :
    Calls Tryd.prog 15 #[.agg (rpC x vl vs vb), .int .i64 left] w (SzRp left x w) := by
  obtain ⟨hs1, hs2, hs3⟩ := hs
  have h0 := h
  obtain ⟨al, cl, rfl, -⟩ := id h.1
  obtain ⟨aq, cq, rfl, -⟩ := id h.2.1
  obtain ⟨ab, cb, rfl, -⟩ := id h.2.2
  unfold rpC
  obtain ⟨W0, hW, hA, hB0, hS0⟩ := rows1 w #[.slice al x.lv.length cl, .int .i64 x.players, .int .i64 x.seed, .int .i64 x.every, .slice aq x.rows.length cq, .slice ab x.keys.length cb] 39
  have cA := rowCells hA
  have hS := szLevel_any (h0.keep hB0).1 hs1 left hl0 hl1
  go_enter Tryd.func15, Tryd.ntmps15
  go_wp2_with (fail)
  try rw [hW]
  clear hW
  refine hS.mono ?_
  rintro e w1 ⟨r, rfl, hr, hb1⟩
  have hb01 := hB0.trans (hb1.mono hB0.size)
  have hA1 := keepHeap hb1 hA
  have cA1 := rowCells hA1
  have hk := h0.keep hb01
  clear cA
  rcases hr with rfl | ⟨hr0, hr1⟩
  · go_wp2_with (fail)
    go_ret
    exact ⟨-1, rfl, .inl rfl, hb01⟩
  · have z1 : decide (r < 0) = false := by simpa using hr0
    have hS2 := szIntSS_any hk.2.1 hs2 r hr0 (by omega)
    have HR := Lib.hid hr1
    have hrl : r ≤ 1048576 := by omega
    clear hr1
    go_wp2_with (fail)
    refine hS2.mono ?_
    rintro e w2 ⟨q, rfl, hq, hb2⟩
    have hb02 := hb01.trans (hb2.mono hb01.size)
    have cA2 := rowCells (keepHeap hb2 hA1)
    have hk2 := h0.keep hb02
    clear cA1
    rcases hq with rfl | ⟨hq0, hq1⟩
    · go_wp2_with (fail)
      go_ret
      exact ⟨-1, rfl, .inl rfl, hb02⟩
    · have z2 : decide (q < 0) = false := by simpa using hq0
      have hS3 := szStringS_any hk2.2.2 hs3 q hq0 (by omega)
      have HQ := Lib.hid hq1
      clear hq1
      go_wp2_with (fail)
      refine hS3.mono ?_
      rintro e w3 ⟨p, rfl, hp, rfl⟩
      rcases hp with rfl | ⟨hp0, hp1⟩
      · go_wp2_with (fail)
        go_ret
        exact ⟨-1, rfl, .inl rfl, hb02⟩
      · have z3 : decide (p < 0) = false := by simpa using hp0
        have HP := Lib.hid hp1
        clear hp1
        go_wp2_with (fail)
        go_ret
        exact ⟨p, rfl, .inr ⟨hp0, by have := HR.out; have := HQ.out; have := HP.out; omega⟩, hb02⟩
theorem SzRp.few' {x : Rp} {r l : Int} (h0 : 0 ≤ r) (hl : l ≤ 1048576) (h1 : r = l - (x.lv.length : Int) - (totalS x.lv : Int) - (x.rows.length : Int) - (totalR x.rows : Int) - (x.keys.length : Int) - (totalS x.keys : Int)) : x.few := by
  refine ⟨by omega, ⟨by omega, fun y hy => ?_⟩, by omega⟩
  have := totalR_mem hy
  omega
theorem SzRp.few {x : Rp} {r : Int} (h0 : 0 ≤ r) (h1 : r = 1048576 - (x.lv.length : Int) - (totalS x.lv : Int) - (x.rows.length : Int) - (totalR x.rows : Int) - (x.keys.length : Int) - (totalS x.keys : Int)) : x.few ∧ totalR x.rows ≤ 1048576 := by
  refine ⟨⟨by omega, ⟨by omega, fun y hy => ?_⟩, by omega⟩, by omega⟩
  have := totalR_mem hy
  omega
/-- An argument of the law's own: its rows lie in blocks of their own, one behind the other, from B on; they may be written. -/
def ArgRp (w : World) (B : Nat) (x : Rp) (vl vs vb : Value) : Prop := ∃ T1 T2, B ≤ T1 ∧ T1 ≤ T2 ∧ T2 ≤ w.heap.size ∧ WrS w B vl x.lv ∧ LowS T1 vl x.lv ∧ WrR w T1 vs x.rows ∧ MkQ w T1 T2 vs x.rows ∧ WrS w T2 vb x.keys
/-- Each of the three slices is no longer than its room. -/
def CapRp (vl vs vb : Value) : Prop := CapOk vl ∧ CapI vs ∧ CapOk vb
theorem ArgRp.rd {w : World} {B : Nat} {x : Rp} {vl vs vb : Value} (h : ArgRp w B x vl vs vb) : RdRp w x vl vs vb := by
  obtain ⟨T1, T2, -, -, -, h1, -, h2, -, h3⟩ := h
  exact ⟨h1.rd, h2.rd, h3.rd⟩
theorem ArgRp.same {w w' : World} {B : Nat} {x : Rp} {vl vs vb : Value} (h : ArgRp w B x vl vs vb) (he : ∀ b, B ≤ b → b < w.heap.size → w'.heap[b]? = w.heap[b]?) (hs : w.heap.size ≤ w'.heap.size) : ArgRp w' B x vl vs vb := by
  obtain ⟨T1, T2, h1, h2, h3, h4, h5, h6, h7, h8⟩ := h
  exact ⟨T1, T2, h1, h2, by omega, h4.all he, h5, h6.same fun b hb hl => he b (by omega) hl, h7.same (fun b hb hl => he b (by omega) hl) hs, h8.all fun b hb hl => he b (by omega) hl⟩
theorem ArgRp.keep {w w' : World} {B : Nat} {x : Rp} {vl vs vb : Value} (h : ArgRp w B x vl vs vb) (hb : Below w.heap.size w w') : ArgRp w' B x vl vs vb := h.same (fun b _ hl => hb.block b hl) hb.size
theorem ArgRp.up {w : World} {B C : Nat} {x : Rp} {vl vs vb : Value} (h : ArgRp w B x vl vs vb) (hC : C ≤ B) : ArgRp w C x vl vs vb := by
  obtain ⟨T1, T2, h1, h2, h3, h4, h5, h6, h7, h8⟩ := h
  exact ⟨T1, T2, by omega, h2, h3, h4.up hC, h5, h6, h7, h8⟩
theorem load_rp {W : World} {k : Nat} {xs : Array Value} (h : W.heap[k]? = some (.cells xs 44 (0, 0))) (hn : xs.size = 6) : (loadVar 44 ⟨k, 0, none⟩).run Tryd.prog W = .ok (.agg xs) W :=
  run_loadVar_row W _ _ _ _ _ _ h Tryd.underlying44 rfl (by rw [hn]; kernel_rfl)
/-- A whole replay is stored. -/
def putRp (w : World) (c : Nat) (x : Rp) (vl vs vb : Value) : World := (((((w.setCell ⟨c, 0, none⟩ vl).setCell ⟨c, 1, none⟩ (.int .i64 x.players)).setCell ⟨c, 2, none⟩ (.int .i64 x.seed)).setCell ⟨c, 3, none⟩ (.int .i64 x.every)).setCell ⟨c, 4, none⟩ vs).setCell ⟨c, 5, none⟩ vb
theorem putRp_heap {w : World} {c : Nat} {cs : Array Value} (h : w.heap[c]? = some (.cells cs 44 (0, 0))) (hn : cs.size = 6) (x : Rp) (vl vs vb : Value) : (putRp w c x vl vs vb).heap[c]? = some (.cells (rpC x vl vs vb) 44 (0, 0)) := by
  obtain ⟨l⟩ := cs
  match l, hn with
  | [a0, a1, a2, a3, a4, a5], _ =>
    have h0 := setHRp (k := 0) (v := vl) h
    have h1 := setHRp (k := 1) (v := .int .i64 x.players) h0
    have h2 := setHRp (k := 2) (v := .int .i64 x.seed) h1
    have h3 := setHRp (k := 3) (v := .int .i64 x.every) h2
    have h4 := setHRp (k := 4) (v := vs) h3
    have h5 := setHRp (k := 5) (v := vb) h4
    exact h5
theorem putRp_far {w : World} {c k : Nat} {o : Obj} (h : w.heap[k]? = some o) (hk : k ≠ c) (x : Rp) (vl vs vb : Value) : (putRp w c x vl vs vb).heap[k]? = some o := by
  unfold putRp
  repeat (refine farHeap ?_ hk _)
  exact h
theorem putRp_below {B : Nat} {w0 w : World} {c : Nat} (h : Below B w0 w) (hc : B ≤ c) (x : Rp) (vl vs vb : Value) : Below B w0 (putRp w c x vl vs vb) := by
  unfold putRp
  repeat (refine Below.setCell ?_ (by simpa using hc) _)
  exact h
theorem putRp_size (w : World) (c : Nat) (x : Rp) (vl vs vb : Value) : (putRp w c x vl vs vb).heap.size = w.heap.size := by unfold putRp; simp
theorem putRp_block (w : World) {c b : Nat} (hb : b ≠ c) (x : Rp) (vl vs vb : Value) : (putRp w c x vl vs vb).heap[b]? = w.heap[b]? := by
  unfold putRp
  repeat (rw [Below.heap_setCell _ _ _ b (by simpa using hb)])
theorem ArgRp.far {w : World} {B : Nat} {x : Rp} {vl vs vb : Value} (h : ArgRp w B x vl vs vb) {p : Addr} (hp : p.block < B) (u : Value) : ArgRp (w.setCell p u) B x vl vs vb :=
  h.same (fun b hb _ => Below.heap_setCell _ _ _ b (by omega)) (by simp)
theorem ArgRp.put {w : World} {B : Nat} {x : Rp} {vl vs vb : Value} (h : ArgRp w B x vl vs vb) {c : Nat} (hc : c < B) (y : Rp) (ul us ub : Value) : ArgRp (putRp w c y ul us ub) B x vl vs vb :=
  h.same (fun b hb _ => putRp_block w (by omega) y ul us ub) (by rw [putRp_size]; exact Nat.le_refl _)
def RetRp (w : World) (x : Rp) (e : Ending) (w' : World) : Prop := ∃ vl vs vb, e = .returned (.agg (rpC x vl vs vb)) ∧ ArgRp w' w.heap.size x vl vs vb ∧ CapRp vl vs vb ∧ Below w.heap.size w w'
set_option maxRecDepth 100000 in
set_option maxHeartbeats 4000000 in
theorem toReplay_any {w : World} {x : Rp} {vl vs vb : Value} (h : RdRp w x vl vs vb) (hn : x.few) :
    Calls Tryd.prog 17 #[.agg (rpC x vl vs vb)] w (RetRp w x) := by
  obtain ⟨hn1, ⟨hn2, hn4⟩, hn3⟩ := hn
  have h0 := h
  obtain ⟨al, cl, rfl, -⟩ := id h.1
  obtain ⟨aq, cq, rfl, -⟩ := id h.2.1
  obtain ⟨ab, cb, rfl, -⟩ := id h.2.2
  obtain ⟨W0, hW, hA, hC, hT, hB0, hS0⟩ := rows3 w #[.slice al x.lv.length cl, .int .i64 x.players, .int .i64 x.seed, .int .i64 x.every, .slice aq x.rows.length cq, .slice ab x.keys.length cb] #[.slice none 0 0, .int .i64 0, .int .i64 0, .int .i64 0, .slice none 0 0, .slice none 0 0] #[.slice none 0 0, .int .i64 0, .int .i64 0, .int .i64 0, .slice none 0 0, .slice none 0 0] 39 44 44
  have cA := rowCells hA
  unfold rpC
  go_enter Tryd.func17, Tryd.ntmps17
  go_wp2_with (fail)
  try rw [hW]
  clear hW
  refine (toLevel_cap (h0.keep hB0).1 (by omega)).mono ?_
  rintro e w1 ⟨v1, rfl, ho1, hb1, hc1⟩
  have hA1 := keepHeap hb1 hA
  have hC1 := keepHeap hb1 hC
  have hT1 := keepHeap hb1 hT
  have hb01 := hB0.trans (hb1.mono (by omega))
  have hlo := WrS.low ho1
  have cA1 := rowCells hA1
  have cT1 := rowCells hT1
  have fT1 := fun j => frozenHeap hT1 j
  obtain ⟨a1, c1, rfl, -⟩ := id ho1
  have hs1 := hb1.size
  have hTB : ∀ j : Nat, w.heap.size ≤ (⟨w.heap.size + 1 + 1, j, none⟩ : Addr).block := fun j => by simp; omega
  have hTW : ∀ j : Nat, (⟨w.heap.size + 1 + 1, j, none⟩ : Addr).block < W0.heap.size := fun j => by simp; omega
  have hAT : ∀ j : Nat, w.heap.size ≠ (⟨w.heap.size + 1 + 1, j, none⟩ : Addr).block := fun j => by simp; omega
  have hCT : ∀ j : Nat, w.heap.size + 1 ≠ (⟨w.heap.size + 1 + 1, j, none⟩ : Addr).block := fun j => by simp
  have hA2 := farHeap (farHeap (farHeap (farHeap hA1 (hAT 0) (.slice a1 x.lv.length c1)) (hAT 1) (.int .i64 x.players)) (hAT 2) (.int .i64 x.seed)) (hAT 3) (.int .i64 x.every)
  have hC2 := farHeap (farHeap (farHeap (farHeap hC1 (hCT 0) (.slice a1 x.lv.length c1)) (hCT 1) (.int .i64 x.players)) (hCT 2) (.int .i64 x.seed)) (hCT 3) (.int .i64 x.every)
  have hT2 := setHRp (k := 3) (v := .int .i64 x.every) (setHRp (k := 2) (v := .int .i64 x.seed) (setHRp (k := 1) (v := .int .i64 x.players) (setHRp (k := 0) (v := .slice a1 x.lv.length c1) hT1)))
  have ho2 := (((ho1.far (hTW 0) (.slice a1 x.lv.length c1)).far (hTW 1) (.int .i64 x.players)).far (hTW 2) (.int .i64 x.seed)).far (hTW 3) (.int .i64 x.every)
  have hb02 := (((hb01.setCell (hTB 0) (.slice a1 x.lv.length c1)).setCell (hTB 1) (.int .i64 x.players)).setCell (hTB 2) (.int .i64 x.seed)).setCell (hTB 3) (.int .i64 x.every)
  have hsw : ((((w1.setCell ⟨w.heap.size + 1 + 1, 0, none⟩ (.slice a1 x.lv.length c1)).setCell ⟨w.heap.size + 1 + 1, 1, none⟩ (.int .i64 x.players)).setCell ⟨w.heap.size + 1 + 1, 2, none⟩ (.int .i64 x.seed)).setCell ⟨w.heap.size + 1 + 1, 3, none⟩ (.int .i64 x.every)).heap.size = w1.heap.size := by simp
  clear cA hA hC hT hb1 hA1 hC1 hT1
  go_upto_region 6 with (fail)
  generalize (((w1.setCell ⟨w.heap.size + 1 + 1, 0, none⟩ (.slice a1 x.lv.length c1)).setCell ⟨w.heap.size + 1 + 1, 1, none⟩ (.int .i64 x.players)).setCell ⟨w.heap.size + 1 + 1, 2, none⟩ (.int .i64 x.seed)).setCell ⟨w.heap.size + 1 + 1, 3, none⟩ (.int .i64 x.every) = W2 at *
  have hT2 : W2.heap[w.heap.size + 1 + 1]? = some (.cells #[.slice a1 x.lv.length c1, .int .i64 x.players, .int .i64 x.seed, .int .i64 x.every, .slice none 0 0, .slice none 0 0] 44 (0, 0)) := hT2
  have cA2 := rowCells hA2
  have cT2 := rowCells hT2
  clear cA1 cT1 fT1 ho1 hb01
  go_wp2_with (fail)
  refine (toIntSS_cap (h0.keep hb02).2.1 hn2 hn4).mono ?_
  rintro e w3 ⟨v3, rfl, ho3, hc3, hb3⟩
  have hA3 := keepHeap hb3 hA2
  have hC3 := keepHeap hb3 hC2
  have hT3 := keepHeap hb3 hT2
  have hb03 := hb02.trans (hb3.mono hb02.size)
  have hol3 := ho2.keep hb3
  have hq3 := MkQ.of_wr ho3
  have fT3 := fun j => frozenHeap hT3 j
  have cT3 := rowCells hT3
  have cA3 := rowCells hA3
  obtain ⟨a3, c3, rfl, -⟩ := id ho3
  have hs3 := hb3.size
  have hA4 := farHeap (p := ⟨w.heap.size + 1 + 1, 4, none⟩) hA3 (hAT 4) (.slice a3 x.rows.length c3)
  have hC4 := farHeap (p := ⟨w.heap.size + 1 + 1, 4, none⟩) hC3 (hCT 4) (.slice a3 x.rows.length c3)
  have hT4 := setHRp (k := 4) (v := .slice a3 x.rows.length c3) hT3
  have hol4 := hol3.far (p := ⟨w.heap.size + 1 + 1, 4, none⟩) (hTW 4) (.slice a3 x.rows.length c3)
  have hb04 := hb03.setCell (p := ⟨w.heap.size + 1 + 1, 4, none⟩) (hTB 4) (.slice a3 x.rows.length c3)
  have hsw4 : (w3.setCell ⟨w.heap.size + 1 + 1, 4, none⟩ (.slice a3 x.rows.length c3)).heap.size = w3.heap.size := by simp
  have hsm4 : ∀ b, W2.heap.size ≤ b → (w3.setCell ⟨w.heap.size + 1 + 1, 4, none⟩ (.slice a3 x.rows.length c3)).heap[b]? = w3.heap[b]? := fun b hb => Below.heap_setCell _ _ _ b (by simp; omega)
  have ho4 := ho3.same fun b hb _ => hsm4 b hb
  have hq4 := hq3.same (fun b hb _ => hsm4 b hb) (by simp)
  clear cA2 cT2 hA2 hC2 hT2 hb3 ho2 hA3 hC3 hT3 ho3 hol3 hq3 hb03 hsm4
  go_upto_region 7 with (fail)
  generalize w3.setCell ⟨w.heap.size + 1 + 1, 4, none⟩ (.slice a3 x.rows.length c3) = W4 at *
  have hT4 : W4.heap[w.heap.size + 1 + 1]? = some (.cells #[.slice a1 x.lv.length c1, .int .i64 x.players, .int .i64 x.seed, .int .i64 x.every, .slice a3 x.rows.length c3, .slice none 0 0] 44 (0, 0)) := hT4
  have cA4 := rowCells hA4
  have cT4 := rowCells hT4
  clear cA3 cT3 fT3
  go_wp2_with (fail)
  refine (toStringS_cap (h0.keep hb04).2.2 (by omega)).mono ?_
  rintro e w5 ⟨v5, rfl, ho5, hb5, hc5⟩
  have hC5 := keepHeap hb5 hC4
  have hT5 := keepHeap hb5 hT4
  have hb05 := hb04.trans (hb5.mono hb04.size)
  have hol5 := hol4.keep hb5
  have hor5 := ho4.keep hb5
  have hq5 := hq4.same (fun b _ hl => hb5.block b hl) hb5.size
  have fT5 := fun j => frozenHeap hT5 j
  have cT5 := rowCells hT5
  obtain ⟨a5, c5, rfl, -⟩ := id ho5
  have hs5 := hb5.size
  have hO5 : ArgRp w5 W0.heap.size x (.slice a1 x.lv.length c1) (.slice a3 x.rows.length c3) (.slice a5 x.keys.length c5) := ⟨w1.heap.size, w3.heap.size, by omega, by omega, by omega, hol5, hlo, by rw [hsw] at hor5; exact hor5, by rw [hsw] at hq5; exact hq5, by rw [hsw4] at ho5; exact ho5⟩
  have hC6 := farHeap (p := ⟨w.heap.size + 1 + 1, 5, none⟩) hC5 (hCT 5) (.slice a5 x.keys.length c5)
  have hT6 := setHRp (k := 5) (v := .slice a5 x.keys.length c5) hT5
  have hO6 := hO5.far (p := ⟨w.heap.size + 1 + 1, 5, none⟩) (hTW 5) (.slice a5 x.keys.length c5)
  have hb06 := hb05.setCell (p := ⟨w.heap.size + 1 + 1, 5, none⟩) (hTB 5) (.slice a5 x.keys.length c5)
  clear cA4 cT4 hA4 hC4 hT4 hb5 hol4 hol5 hor5 hq4 hq5 ho4 hC5 hT5 hO5 hb05 ho5
  go_upto_region 8 with (fail)
  generalize w5.setCell ⟨w.heap.size + 1 + 1, 5, none⟩ (.slice a5 x.keys.length c5) = W6 at *
  have hT6 : W6.heap[w.heap.size + 1 + 1]? = some (.cells #[.slice a1 x.lv.length c1, .int .i64 x.players, .int .i64 x.seed, .int .i64 x.every, .slice a3 x.rows.length c3, .slice a5 x.keys.length c5] 44 (0, 0)) := hT6
  have cT6 := rowCells hT6
  have cC6 := rowCells hC6
  have fC6 := fun j => frozenHeap hC6 j
  clear cT5 fT5
  go_wp2_with (fail)
  have hP := putRp_heap hC6 rfl x (.slice a1 x.lv.length c1) (.slice a3 x.rows.length c3) (.slice a5 x.keys.length c5)
  have hbP := putRp_below hb06 (c := w.heap.size + 1) (by omega) x (.slice a1 x.lv.length c1) (.slice a3 x.rows.length c3) (.slice a5 x.keys.length c5)
  have hOP := hO6.put (c := w.heap.size + 1) (by omega) x (.slice a1 x.lv.length c1) (.slice a3 x.rows.length c3) (.slice a5 x.keys.length c5)
  unfold putRp at hP hbP hOP
  refine bodyPost_ret (results_cell_row rfl _ _ (w.heap.size + 1) 44 (rpC x (.slice a1 x.lv.length c1) (.slice a3 x.rows.length c3) (.slice a5 x.keys.length c5)) (0, 0) ?d ?hp ?hg ?hu ?hd ?hi) rfl ?_
  case hp => rfl
  case hg => exact hP
  case hu => exact Tryd.underlying44
  case hd => rfl
  case hi => kernel_rfl
  exact ⟨_, _, _, rfl, hOP.up (by omega), ⟨hc1, hc3, hc5⟩, hbP⟩
set_option maxHeartbeats 2000000 in
theorem eqReplay_same {w : World} {x : Rp} {vl vs vb vl' vs' vb' : Value} (h : RdRp w x vl vs vb) (h' : RdRp w x vl' vs' vb') (hn : x.few) :
    Calls Tryd.prog 19 #[.agg (rpC x vl vs vb), .agg (rpC x vl' vs' vb')] w fun e w' => e = .returned (.bool true) ∧ Below w.heap.size w w' := by
  obtain ⟨hn1, ⟨hn2, hn4⟩, hn3⟩ := hn
  have h0 := h
  have h0' := h'
  obtain ⟨al, cl, rfl, -⟩ := id h.1
  obtain ⟨aq, cq, rfl, -⟩ := id h.2.1
  obtain ⟨ab, cb, rfl, -⟩ := id h.2.2
  obtain ⟨al', cl', rfl, -⟩ := id h'.1
  obtain ⟨aq', cq', rfl, -⟩ := id h'.2.1
  obtain ⟨ab', cb', rfl, -⟩ := id h'.2.2
  unfold rpC
  obtain ⟨W0, hW, hA, hB, hB0, hS0⟩ := rows2 w #[.slice al x.lv.length cl, .int .i64 x.players, .int .i64 x.seed, .int .i64 x.every, .slice aq x.rows.length cq, .slice ab x.keys.length cb] #[.slice al' x.lv.length cl', .int .i64 x.players, .int .i64 x.seed, .int .i64 x.every, .slice aq' x.rows.length cq', .slice ab' x.keys.length cb'] 44 44
  have cA := rowCells hA
  have cB := rowCells hB
  go_enter Tryd.func19, Tryd.ntmps19
  go_wp2_with (fail)
  try rw [hW]
  clear hW
  refine (eqLevel_same (h0.keep hB0).1 (h0'.keep hB0).1 (by omega)).mono ?_
  rintro e w1 ⟨rfl, hb1⟩
  have hb01 := hB0.trans (hb1.mono hB0.size)
  have hA1 := keepHeap hb1 hA
  have hB1 := keepHeap hb1 hB
  have cA1 := rowCells hA1
  have cB1 := rowCells hB1
  clear cA cB
  go_wp2_with (fail)
  refine (eqIntSS_rows (h0.keep hb01).2.1 (h0'.keep hb01).2.1 hn2 hn4).mono ?_
  rintro e w2 ⟨rfl, hb2⟩
  have hb02 := hb01.trans (hb2.mono hb01.size)
  have cA2 := rowCells (keepHeap hb2 hA1)
  have cB2 := rowCells (keepHeap hb2 hB1)
  clear cA1 cB1
  go_wp2_with (fail)
  refine (eqStringS_same (h0.keep hb02).2.2 (h0'.keep hb02).2.2 (by omega)).mono ?_
  rintro e w3 ⟨rfl, n3, rfl⟩
  go_wp2_with (fail)
  go_ret
  exact ⟨rfl, hb02.trans ((belowDrew _ _).mono hb02.size)⟩
section
variable {H : Type} {enc : TypeId × Value → H} {P : Program} {w : World} {base : Nat} {spare : Nat → Bool} {held : Bool}
theorem open_agg6 {r : Reach} {b0 : Nat} {t : TypeId} {f0 f1 f2 f3 f4 f5 : Field} {v : Value} {d : DataW H} {p : List MemPlace} (hs : P.underlying t = some (.struct #[f0, f1, f2, f3, f4, f5])) (hone : oneCellFields P #[f0, f1, f2, f3, f4, f5] = true) (hC : P.cellsOf t = 6)
    (hv : Value.okWide P w r b0 t v) (h : DataW.Trod enc P w base spare held t v d p) :
    ∃ (v0 v1 v2 v3 v4 v5 : Value) (y0 y1 y2 y3 y4 y5 : DataW H × List MemPlace) (n : Nat), v = .agg #[v0, v1, v2, v3, v4, v5] ∧
      DataW.trod enc P w base spare held n f0.type [v0] = some y0 ∧ DataW.trod enc P w base spare held n f1.type [v1] = some y1 ∧ DataW.trod enc P w base spare held n f2.type [v2] = some y2 ∧ DataW.trod enc P w base spare held n f3.type [v3] = some y3 ∧ DataW.trod enc P w base spare held n f4.type [v4] = some y4 ∧ DataW.trod enc P w base spare held n f5.type [v5] = some y5 := by
  obtain ⟨cs, rfl, hsz⟩ := okWide_struct hs hv
  obtain ⟨l⟩ := cs
  match l, hsz.trans hC with
  | [c0, c1, c2, c3, c4, c5], _ =>
    obtain ⟨fuel, hf⟩ := h
    obtain ⟨xs, n, _, hx, _, hlen, hg⟩ := DataW.trod_struct hs hf
    obtain ⟨o0, k0⟩ := hone_of hone 0 f0 rfl
    obtain ⟨o1, k1⟩ := hone_of hone 1 f1 rfl
    obtain ⟨o2, k2⟩ := hone_of hone 2 f2 rfl
    obtain ⟨o3, k3⟩ := hone_of hone 3 f3 rfl
    obtain ⟨o4, k4⟩ := hone_of hone 4 f4 rfl
    obtain ⟨o5, k5⟩ := hone_of hone 5 f5 rfl
    match xs, hlen with
    | [y0, y1, y2, y3, y4, y5], _ =>
      exact ⟨c0, c1, c2, c3, c4, c5, y0, y1, y2, y3, y4, y5, n, rfl, by simpa [Value.cells, o0, k0] using hg 0 f0 rfl, by simpa [Value.cells, o1, k1] using hg 1 f1 rfl, by simpa [Value.cells, o2, k2] using hg 2 f2 rfl, by simpa [Value.cells, o3, k3] using hg 3 f3 rfl, by simpa [Value.cells, o4, k4] using hg 4 f4 rfl, by simpa [Value.cells, o5, k5] using hg 5 f5 rfl⟩
end
set_option maxRecDepth 100000 in
theorem rdR_of_trod {H : Type} {enc : TypeId × Value → H} {w : World} {base : Nat} {spare : Nat → Bool} {held : Bool} {n : Nat} {v0 : Value} {y : DataW H × List MemPlace} (h : DataW.trod enc Tryd.prog w base spare held n 37 [v0] = some y) : ∃ X, RdR w v0 X ∧ SaneR X := open_rows2 h
theorem rdLv_of_trod {H : Type} {enc : TypeId × Value → H} {w : World} {base : Nat} {spare : Nat → Bool} {held : Bool} {n : Nat} {v0 : Value} {y : DataW H × List MemPlace} (h : DataW.trod enc Tryd.prog w base spare held n 36 [v0] = some y) : ∃ ls, RdS w v0 ls ∧ Sane ls := by
  obtain ⟨xs, n', _, hx, _, hlen, hg⟩ := DataW.trod_struct Tryd.underlying36 h
  match xs, hlen with
  | [y0], _ =>
    have h0 := hg 0 _ rfl
    have hcs : Tryd.prog.cellsOf 34 = 1 := by kernel_rfl
    exact rdS_of_trod (n := n') (y := y0) (by simpa [Value.cells, hcs] using h0)
set_option maxRecDepth 100000 in
theorem open_replay {H : Type} {enc : TypeId × Value → H} {w : World} {base : Nat} {spare : Nat → Bool} {held : Bool} {r : Reach} {b0 : Nat} {v : Value} {d : DataW H} {p : List MemPlace}
    (hv : Value.okWide Tryd.prog w r b0 39 v) (h : DataW.Trod enc Tryd.prog w base spare held 39 v d p) : ∃ (x : Rp) (vl vs vb : Value), v = .agg (rpC x vl vs vb) ∧ RdRp w x vl vs vb ∧ x.sane := by
  obtain ⟨v0, v1, v2, v3, v4, v5, y0, y1, y2, y3, y4, y5, n, rfl, h0, h1, h2, h3, h4, h5⟩ := open_agg6 Tryd.underlying39 (by kernel_rfl) (by kernel_rfl) hv h
  obtain ⟨L, r0, s0⟩ := rdLv_of_trod h0
  obtain ⟨m1, rfl, _⟩ := intField h1
  obtain ⟨m2, rfl, _⟩ := intField h2
  obtain ⟨m3, rfl, _⟩ := intField h3
  obtain ⟨l4, r4, s4⟩ := rdR_of_trod h4
  obtain ⟨l5, r5, s5⟩ := rdS_of_trod h5
  exact ⟨⟨L, m1, m2, m3, l4, l5⟩, v0, v4, v5, rfl, ⟨r0, r4, r5⟩, s0, s4, s5⟩
end Go.Proofs.YtecimgennncjkaaDoor
