/-
  Texts of this proof: WdG.
-/
import Derived.Test.YtnlonkkbjkfkmaaGreatDoorM25
import Derived.Test.YtnlonkkbjkfkmaaGreatDoorM26
import Derived.Test.YtnlonkkbjkfkmaaGreatDoorM27
import Derived.Test.YtnlonkkbjkfkmaaGreatDoorM28
import Derived.Test.YtnlonkkbjkfkmaaGreatDoorM31
import Derived.Deep.Cut
import Derived.Deep.CutBlock
namespace Go.Proofs.YtnlonkkbjkfkmaaGreatDoor
open Go.RowKit Go.Joins Go.ChangeShapes Go.WideShapes Go.Deep
set_option linter.all false
def bz : Bd := ⟨0, 0, 0, 0, 0, 0, 0, 0, 0⟩
def z9 : Array Value := #[.int .i64 0, .int .i64 0, .int .i64 0, .int .i64 0, .int .i64 0, .int .i64 0, .int .i64 0, .int .i64 0, .int .i64 0]
theorem z9_at (j : Nat) : z9[j % z9.size]! = Value.int .i64 0 := by
 have h : j % 9 < 9 := Nat.mod_lt _ (by omega)
 show z9[j % 9]! = _
 generalize j % 9 = k at h
 match k, h with
 | 0, _ => rfl | 1, _ => rfl | 2, _ => rfl | 3, _ => rfl | 4, _ => rfl | 5, _ => rfl | 6, _ => rfl | 7, _ => rfl | 8, _ => rfl
theorem made9 (m j : Nat) (h : j < m) : (madeCells z9 m)[j]? = some (.int .i64 0) := by
 unfold madeCells
 rw [Array.getElem?_map, Array.getElem?_range]
 simp only [h, if_true, Option.map_some]
 rw [z9_at]
theorem bz_at {i : Nat} {v : Value} (h : (bdL bz)[i]? = some v) : i < 9 ∧ v = .int .i64 0 := by
 obtain ⟨hi, e⟩ := List.getElem?_eq_some_iff.1 h
 rw [bdL_len] at hi
 refine ⟨hi, ?_⟩
 rw [← e]
 match i, hi with
 | 0, _ => rfl | 1, _ => rfl | 2, _ => rfl | 3, _ => rfl | 4, _ => rfl | 5, _ => rfl | 6, _ => rfl | 7, _ => rfl | 8, _ => rfl
theorem RowBd.zeros (w : World) (n : Nat) (t : TypeId) : RowBd (w.alloc (.cells (madeCells z9 (n * 9)) t)) w.heap.size (List.replicate n bz) := by
 intro j hj
 rw [List.length_replicate] at hj
 refine ⟨fun i v hv => ?_, fun i hi => ?_⟩
 ·rw [List.getElem_replicate] at hv
  obtain ⟨hi, rfl⟩ := bz_at hv
  rw [World.cell?_alloc_mark, made9 _ _ (by omega)]
 ·rw [World.cell?_alloc_mark, made9 _ _ (by omega), World.frozen?_alloc_mark]
  exact ⟨rfl, by simp⟩
theorem szBodyS_any {w : World} {v : Value} {X : List Bd} (h : RdBd w v X) (hs : X.length ≤ 9223372036854775807) (left : Int) (hl0 : 0 ≤ left) (hl1 : left ≤ 1048576) :
  Calls Tryz.prog 76 #[v, .int .i64 left] w (Sz1 left X.length w) := by
 obtain ⟨a, cap, rfl, -⟩ := h
 have hlc : (X.length : Int) ≤ 9223372036854775807 := by omega
 by_cases hneg : left - (X.length : Int) < 0
 ·have z1 : decide (left - (X.length : Int) < 0) = true := by simpa using hneg
  go_enter Tryz.func76, Tryz.ntmps76
  go_wp2_with (fail)
  go_ret
  exact ⟨-1, rfl, .inl rfl, rfl⟩
 ·have z1 : decide (left - (X.length : Int) < 0) = false := by simpa using hneg
  go_enter Tryz.func76, Tryz.ntmps76
  go_wp2_with (fail)
  go_ret
  exact ⟨_, rfl, .inr ⟨by omega, rfl⟩, rfl⟩
def SzW (left : Int) (x : Wd) (w : World) (e : Ending) (w' : World) : Prop := ∃ r : Int, e = .returned (.int .i64 r) ∧ (r = -1 ∨ (0 ≤ r ∧ r = left - (x.rows.length : Int) - (totalS x.rows : Int) - (x.scores.length : Int) - (x.bods.length : Int))) ∧ Below w.heap.size w w'
set_option maxHeartbeats 1000000 in
theorem szWorld_any {w : World} {x : Wd} {vl vs vb : Value} (h : RdW w x vl vs vb) (hs : x.sane) (left : Int) (hl0 : 0 ≤ left) (hl1 : left ≤ 1048576) :
  Calls Tryz.prog 21 #[.agg (wdC x vl vs vb), .int .i64 left] w (SzW left x w) := by
 obtain ⟨hs1, hs2, hs3, -⟩ := hs
 have h0 := h
 obtain ⟨al, cl, rfl, -⟩ := id h.1
 obtain ⟨aq, cq, rfl, -⟩ := id h.2.1
 obtain ⟨ab, cb, rfl, -⟩ := id h.2.2
 unfold wdC
 obtain ⟨W0, hW, hA, hB0, hS0⟩ := rows1 w #[.slice al x.rows.length cl, .int .i64 x.tick, .int .i64 x.seed, .slice aq x.scores.length cq, .slice ab x.bods.length cb] 46
 have cA := rowCells hA
 have hS := szLevel_any (h0.keep hB0).1 hs1 left hl0 hl1
 go_enter Tryz.func21, Tryz.ntmps21
 go_wp2_with (fail)
 try rw [hW]
 clear hW
 refine hS.mono ?_
 rintro e w1 ⟨r, rfl, hr, hb1⟩
 have hb01 := hB0.trans (hb1.mono hB0.size)
 have cA1 := rowCells (keepHeap hb1 hA)
 have hk := h0.keep hb01
 clear cA
 rcases hr with rfl | ⟨hr0, hr1⟩
 ·go_wp2_with (fail)
  go_ret
  exact ⟨-1, rfl, .inl rfl, hb01⟩
 ·have z1 : decide (r < 0) = false := by simpa using hr0
  have hS2 := szIntS_any hk.2.1 hs2 r hr0 (by omega)
  have HR := Lib.hid hr1
  have hrl : r ≤ 1048576 := by omega
  clear hr1
  go_wp2_with (fail)
  refine hS2.mono ?_
  rintro e w2 ⟨q, rfl, hq, rfl⟩
  rcases hq with rfl | ⟨hq0, hq1⟩
  ·go_wp2_with (fail)
   go_ret
   exact ⟨-1, rfl, .inl rfl, hb01⟩
  ·have z2 : decide (q < 0) = false := by simpa using hq0
   have hS3 := szBodyS_any hk.2.2 hs3 q hq0 (by omega)
   have HQ := Lib.hid hq1
   clear hq1
   go_wp2_with (fail)
   refine hS3.mono ?_
   rintro e w2 ⟨p, rfl, hp, rfl⟩
   rcases hp with rfl | ⟨hp0, hp1⟩
   ·go_wp2_with (fail)
    go_ret
    exact ⟨-1, rfl, .inl rfl, hb01⟩
   ·have z3 : decide (p < 0) = false := by simpa using hp0
    have HP := Lib.hid hp1
    clear hp1
    go_wp2_with (fail)
    go_ret
    exact ⟨p, rfl, .inr ⟨hp0, by have := HR.out; have := HQ.out; have := HP.out; omega⟩, hb01⟩
theorem info_BodyS : (Tryz.prog.info? 100).map (fun i => (i.zero, i.size, i.bytes)) = some (some (.agg z9), 9, 72) := by kernel_rfl
theorem run_make_BodyS (W : World) (n : Nat) (hn : n ≤ 1048576) : (Instr.makeSlice 28 (.int .i64 (n : Int)) (.int .i64 (n : Int))).run Tryz.prog W = .ok (.slice (some ⟨W.heap.size, 0, none⟩) n n) (W.alloc (.cells (madeCells z9 (n * 9)) 100)) := by
 obtain ⟨i0, hi, hz0, hz1, hz2⟩ := info_parts info_BodyS
 have := run_make (P := Tryz.prog) W 28 100 i0 (.agg z9) Tryz.underlying28 hi hz0 .i64 .i64 n n (by omega) (Int.le_refl _) (by rw [hz2]; omega) (by omega)
 rw [this, hz1, Int.toNat_natCast]; rfl
theorem cells9 {w : World} {b o : Nat} {x : Bd} (h : w.rangeAt b o (bdL x)) : w.cell? ⟨b, o, none⟩ = some (.int .i64 x.kind) ∧ w.cell? ⟨b, o + 1, none⟩ = some (.int .i64 x.owner) ∧ w.cell? ⟨b, o + 2, none⟩ = some (.int .i64 x.x) ∧ w.cell? ⟨b, o + 3, none⟩ = some (.int .i64 x.y) ∧ w.cell? ⟨b, o + 4, none⟩ = some (.int .i64 x.vx) ∧ w.cell? ⟨b, o + 5, none⟩ = some (.int .i64 x.vy) ∧ w.cell? ⟨b, o + 6, none⟩ = some (.int .i64 x.aim) ∧ w.cell? ⟨b, o + 7, none⟩ = some (.int .i64 x.life) ∧ w.cell? ⟨b, o + 8, none⟩ = some (.int .i64 x.timer) :=
 ⟨h 0 _ rfl, h 1 _ rfl, h 2 _ rfl, h 3 _ rfl, h 4 _ rfl, h 5 _ rfl, h 6 _ rfl, h 7 _ rfl, h 8 _ rfl⟩
theorem free9 {w : World} {b o : Nat} (h : w.there b o 9) : w.frozen? ⟨b, o, none⟩ = false ∧ w.frozen? ⟨b, o + 1, none⟩ = false ∧ w.frozen? ⟨b, o + 2, none⟩ = false ∧ w.frozen? ⟨b, o + 3, none⟩ = false ∧ w.frozen? ⟨b, o + 4, none⟩ = false ∧ w.frozen? ⟨b, o + 5, none⟩ = false ∧ w.frozen? ⟨b, o + 6, none⟩ = false ∧ w.frozen? ⟨b, o + 7, none⟩ = false ∧ w.frozen? ⟨b, o + 8, none⟩ = false :=
 ⟨(h 0 (by omega)).2, (h 1 (by omega)).2, (h 2 (by omega)).2, (h 3 (by omega)).2, (h 4 (by omega)).2, (h 5 (by omega)).2, (h 6 (by omega)).2, (h 7 (by omega)).2, (h 8 (by omega)).2⟩
theorem put9 (w : World) (g o : Nat) (x : Bd) : ((((((((w.setCell ⟨g, o, none⟩ (.int .i64 x.kind)).setCell ⟨g, o + 1, none⟩ (.int .i64 x.owner)).setCell ⟨g, o + 2, none⟩ (.int .i64 x.x)).setCell ⟨g, o + 3, none⟩ (.int .i64 x.y)).setCell ⟨g, o + 4, none⟩ (.int .i64 x.vx)).setCell ⟨g, o + 5, none⟩ (.int .i64 x.vy)).setCell ⟨g, o + 6, none⟩ (.int .i64 x.aim)).setCell ⟨g, o + 7, none⟩ (.int .i64 x.life)).setCell ⟨g, o + 8, none⟩ (.int .i64 x.timer) = w.setCells g o (bdL x) := rfl
def RetBds (w : World) (X : List Bd) (e : Ending) (w' : World) : Prop := ∃ v, e = .returned v ∧ OwnBd w' w.heap.size v X ∧ CapI v ∧ Below w.heap.size w w'
set_option maxRecDepth 100000 in
set_option maxHeartbeats 1000000 in
theorem toBodyS_any {w : World} {v : Value} {X : List Bd} (h : RdBd w v X) (hn : X.length ≤ 1048576) :
  Calls Tryz.prog 79 #[v] w (RetBds w X) := by
 obtain ⟨a, cap, rfl, h⟩ := h
 have hmk := fun W => run_make_BodyS W X.length hn
 by_cases hx : X = []
 ·subst hx
  have hmk0 : ∀ W, (Instr.makeSlice 28 (.int .i64 0) (.int .i64 0)).run Tryz.prog W = .ok (.slice (some ⟨W.heap.size, 0, none⟩) 0 0) (W.alloc (.cells (madeCells z9 (0 * 9)) 100)) := fun W => run_make_BodyS W 0 (by omega)
  clear hmk
  go_enter Tryz.func79, Tryz.ntmps79
  go_wp2
  refine wp_loop_once ?_
  go_wp2
  go_ret
  exact ⟨_, rfl, ⟨_, _, rfl, .inl rfl⟩, ⟨_, _, _, rfl, Nat.le_refl _⟩, (Below.refl _ _).alloc (Nat.le_refl _) _⟩
 ·obtain ⟨b, off, rfl, hc⟩ := h.resolve_left hx
  have hpos : 0 < X.length := List.length_pos_iff.2 hx
  go_enter Tryz.func79, Tryz.ntmps79
  go_wp2_with (fail)
  go_loopw [4] (fun i wr => ∃ (k : Nat) (L : List Bd), k ≤ X.length ∧ i = .int .i64 (k : Int) ∧ L.length = X.length ∧ L.take k = X.take k ∧ RowBd wr w.heap.size L ∧ Below w.heap.size w wr) (fun i _ => X.length - (intOf i).toNat)
  case atStart =>
   exact ⟨0, _, Nat.zero_le _, rfl, List.length_replicate, rfl, RowBd.zeros w _ _, (Below.refl _ _).alloc (Nat.le_refl _) _⟩
  case round =>
   obtain ⟨k, L, hk, rfl, hL, htk, hrow, hbel⟩ := hrel
   by_cases hkl : k < X.length
   ·have c0 := hc k hkl
    have c1 : wr.rangeAt b (off + k * 9) (bdL X[k]) := rangeKeep c0 hbel (rangeLt c0)
    have hgl : w.heap.size < wr.heap.size := hrow.lt (by intro e; rw [e] at hL; simp at hL; omega)
    obtain ⟨x, hx'⟩ : ∃ x, x = X[k] := ⟨_, rfl⟩
    rw [← hx'] at c1
    have HXK := Lib.hid hx'
    have hkk : (k : Int) < (X.length : Int) := by omega
    have HRW := Lib.hid hrow
    have HL := Lib.hid hL
    have HT := Lib.hid htk
    clear hrow hL htk c0 hx' hc hmk
    obtain ⟨d0, d1, d2, d3, d4, d5, d6, d7, d8⟩ := cells9 c1
    have hT := fun W => toBody_any x W
    unfold bdV at hT
    go_wp2_with (fail)
    refine (hT _).mono ?_
    rintro e w1 ⟨rfl, hb1⟩
    have hrow := HRW.out.keep hb1 hgl
    have hbel1 := hbel.trans (hb1.mono hbel.size)
    have hkL : k < L.length := by rw [HL.out]; exact hkl
    obtain ⟨e0, e1, e2, e3, e4, e5, e6, e7, e8⟩ := cells9 (hrow k hkL).1
    obtain ⟨f0, f1, f2, f3, f4, f5, f6, f7, f8⟩ := free9 (hrow k hkL).2
    have HS := Lib.hid (hrow.put k hkL x)
    clear hrow HRW d0 d1 d2 d3 d4 d5 d6 d7 d8 c1 hT
    generalize L[k] = y at *
    go_wp2_with (fail)
    rw [put9]
    go_roundw
    case rel =>
     refine ⟨k + 1, L.set k x, by omega, by go_num, by rw [List.length_set]; exact HL.out, ?_, HS.out, belowCells (Nat.le_refl _) _ _ _ hbel1⟩
     rw [List.take_succ_eq_append_getElem (by rw [List.length_set, HL.out]; exact hkl), List.take_succ_eq_append_getElem hkl, List.take_set_of_le (Nat.le_refl _), HT.out, List.getElem_set_self, HXK.out]
    case measure => simp [intOf]; omega
   ·have e : L = X := by
     rw [List.take_of_length_le (by omega), List.take_of_length_le (by omega)] at htk
     exact htk
    subst e
    go_wp2_with (fail)
    go_ret
    exact ⟨_, rfl, ⟨_, _, rfl, .inr ⟨_, Nat.le_refl _, rfl, hrow⟩⟩, ⟨_, _, _, rfl, Nat.le_refl _⟩, hbel⟩
def OwnW (w : World) (B : Nat) (x : Wd) (vl vs vb : Value) : Prop := ∃ T1 T2, B ≤ T1 ∧ T1 ≤ T2 ∧ T2 ≤ w.heap.size ∧ WrS w B vl x.rows ∧ LowS T1 vl x.rows ∧ OwnIn w T1 T2 vs x.scores ∧ OwnBd w T2 vb x.bods
def CapW (vl vs vb : Value) : Prop := CapI vl ∧ CapI vs ∧ CapI vb
theorem OwnW.rd {w : World} {B : Nat} {x : Wd} {vl vs vb : Value} (h : OwnW w B x vl vs vb) : RdW w x vl vs vb := by
 obtain ⟨T1, T2, -, -, -, h1, -, h2, h3⟩ := h
 exact ⟨h1.rd, h2.own.rd, h3.rd⟩
def putW (w : World) (c : Nat) (x : Wd) (vl vs vb : Value) : World := ((((w.setCell ⟨c, 0, none⟩ vl).setCell ⟨c, 1, none⟩ (.int .i64 x.tick)).setCell ⟨c, 2, none⟩ (.int .i64 x.seed)).setCell ⟨c, 3, none⟩ vs).setCell ⟨c, 4, none⟩ vb
theorem putW_heap {w : World} {c : Nat} {cs : Array Value} (h : w.heap[c]? = some (.cells cs 30 (0, 0))) (hn : cs.size = 5) (x : Wd) (vl vs vb : Value) : (putW w c x vl vs vb).heap[c]? = some (.cells (wdC x vl vs vb) 30 (0, 0)) := by
 obtain ⟨l⟩ := cs
 match l, hn with
 | [a0, a1, a2, a3, a4], _ =>
  have h0 := setH (k := 0) (v := vl) h
  have h1 := setH (k := 1) (v := .int .i64 x.tick) h0
  have h2 := setH (k := 2) (v := .int .i64 x.seed) h1
  have h3 := setH (k := 3) (v := vs) h2
  have h4 := setH (k := 4) (v := vb) h3
  exact h4
theorem putW_below {B : Nat} {w0 w : World} {c : Nat} (h : Below B w0 w) (hc : B ≤ c) (x : Wd) (vl vs vb : Value) : Below B w0 (putW w c x vl vs vb) := by
 unfold putW
 repeat (refine Below.setCell ?_ (by simpa using hc) _)
 exact h
theorem OwnW.far {w : World} {B : Nat} {x : Wd} {vl vs vb : Value} (h : OwnW w B x vl vs vb) {p : Addr} (hp : p.block < B) (u : Value) : OwnW (w.setCell p u) B x vl vs vb := by
 obtain ⟨T1, T2, h1, h2, h7, h3, h4, h5, h6⟩ := h
 exact ⟨T1, T2, h1, h2, by simpa using h7, h3.far hp u, h4, h5.far (by omega) u, h6.far (by omega) u⟩
theorem OwnW.put {w : World} {B : Nat} {x : Wd} {vl vs vb : Value} (h : OwnW w B x vl vs vb) {c : Nat} (hc : c < B) (y : Wd) (ul us ub : Value) : OwnW (putW w c y ul us ub) B x vl vs vb := by
 unfold putW
 repeat (refine OwnW.far ?_ (by simpa using hc) _)
 exact h
theorem OwnW.up {w : World} {B C : Nat} {x : Wd} {vl vs vb : Value} (h : OwnW w B x vl vs vb) (hC : C ≤ B) : OwnW w C x vl vs vb := by
 obtain ⟨T1, T2, h1, h2, h7, h3, h4, h5, h6⟩ := h
 exact ⟨T1, T2, by omega, h2, h7, h3.up hC, h4, h5, h6⟩
def RetWd (w : World) (x : Wd) (e : Ending) (w' : World) : Prop := ∃ vl vs vb, e = .returned (.agg (wdC x vl vs vb)) ∧ OwnW w' w.heap.size x vl vs vb ∧ CapW vl vs vb ∧ Below w.heap.size w w'
set_option maxRecDepth 100000 in
set_option maxHeartbeats 4000000 in
theorem toWorld_any {w : World} {x : Wd} {vl vs vb : Value} (h : RdW w x vl vs vb) (hn : x.few) :
  Calls Tryz.prog 23 #[.agg (wdC x vl vs vb)] w (RetWd w x) := by
 obtain ⟨hn1, hn2, hn3⟩ := hn
 have h0 := h
 obtain ⟨al, cl, rfl, -⟩ := id h.1
 obtain ⟨aq, cq, rfl, -⟩ := id h.2.1
 obtain ⟨ab, cb, rfl, -⟩ := id h.2.2
 obtain ⟨W0, hW, hA, hC, hT, hB0, hS0⟩ := rows3 w #[.slice al x.rows.length cl, .int .i64 x.tick, .int .i64 x.seed, .slice aq x.scores.length cq, .slice ab x.bods.length cb] #[.slice none 0 0, .int .i64 0, .int .i64 0, .slice none 0 0, .slice none 0 0] #[.slice none 0 0, .int .i64 0, .int .i64 0, .slice none 0 0, .slice none 0 0] 46 30 30
 have cA := rowCells hA
 unfold wdC
 go_enter Tryz.func23, Tryz.ntmps23
 go_wp2_with (fail)
 try rw [hW]
 clear hW
 refine (toLevel_cap (h0.keep hB0).1 (by omega)).mono ?_
 rintro e w1 ⟨v1, rfl, ho1, hb1, hc1⟩
 have hA1 := keepHeap hb1 hA
 have hC1 := keepHeap hb1 hC
 have hT1 := keepHeap hb1 hT
 have hb01 := hB0.trans (hb1.mono (by omega))
 have hlo := WrS.low ho1
 have cA1 := rowCells hA1
 have cT1 := rowCells hT1
 have fT1 := fun j => frozenHeap hT1 j
 obtain ⟨a1, c1, rfl, -⟩ := id ho1
 have hs1 := hb1.size
 have hTB : ∀ j : Nat, w.heap.size ≤ (⟨w.heap.size + 1 + 1, j, none⟩ : Addr).block := fun j => by simp; omega
 have hTW : ∀ j : Nat, (⟨w.heap.size + 1 + 1, j, none⟩ : Addr).block < W0.heap.size := fun j => by simp; omega
 have hAT : ∀ j : Nat, w.heap.size ≠ (⟨w.heap.size + 1 + 1, j, none⟩ : Addr).block := fun j => by simp; omega
 have hCT : ∀ j : Nat, w.heap.size + 1 ≠ (⟨w.heap.size + 1 + 1, j, none⟩ : Addr).block := fun j => by simp
 have hA2 := farHeap (farHeap (farHeap hA1 (hAT 0) (.slice a1 x.rows.length c1)) (hAT 1) (.int .i64 x.tick)) (hAT 2) (.int .i64 x.seed)
 have hC2 := farHeap (farHeap (farHeap hC1 (hCT 0) (.slice a1 x.rows.length c1)) (hCT 1) (.int .i64 x.tick)) (hCT 2) (.int .i64 x.seed)
 have hT2 := setH (k := 2) (v := .int .i64 x.seed) (setH (k := 1) (v := .int .i64 x.tick) (setH (k := 0) (v := .slice a1 x.rows.length c1) hT1))
 have ho2 := ((ho1.far (hTW 0) (.slice a1 x.rows.length c1)).far (hTW 1) (.int .i64 x.tick)).far (hTW 2) (.int .i64 x.seed)
 have hb02 := ((hb01.setCell (hTB 0) (.slice a1 x.rows.length c1)).setCell (hTB 1) (.int .i64 x.tick)).setCell (hTB 2) (.int .i64 x.seed)
 have hsw : (((w1.setCell ⟨w.heap.size + 1 + 1, 0, none⟩ (.slice a1 x.rows.length c1)).setCell ⟨w.heap.size + 1 + 1, 1, none⟩ (.int .i64 x.tick)).setCell ⟨w.heap.size + 1 + 1, 2, none⟩ (.int .i64 x.seed)).heap.size = w1.heap.size := by simp
 clear cA hA hC hT hb1 hA1 hC1 hT1
 go_upto_region 5 with (fail)
 generalize ((w1.setCell ⟨w.heap.size + 1 + 1, 0, none⟩ (.slice a1 x.rows.length c1)).setCell ⟨w.heap.size + 1 + 1, 1, none⟩ (.int .i64 x.tick)).setCell ⟨w.heap.size + 1 + 1, 2, none⟩ (.int .i64 x.seed) = W2 at *
 have hT2 : W2.heap[w.heap.size + 1 + 1]? = some (.cells #[.slice a1 x.rows.length c1, .int .i64 x.tick, .int .i64 x.seed, .slice none 0 0, .slice none 0 0] 30 (0, 0)) := hT2
 have cA2 := rowCells hA2
 have cT2 := rowCells hT2
 clear cA1 cT1 fT1 ho1 hb01
 go_wp2_with (fail)
 refine (toIntS_cap (h0.keep hb02).2.1 (by omega)).mono ?_
 rintro e w3 ⟨v3, rfl, ho3, hc3, hb3⟩
 have hA3 := keepHeap hb3 hA2
 have hC3 := keepHeap hb3 hC2
 have hT3 := keepHeap hb3 hT2
 have hb03 := hb02.trans (hb3.mono hb02.size)
 have hol3 := ho2.keep hb3
 have hoi3 := OwnIn.of ho3
 have fT3 := fun j => frozenHeap hT3 j
 have cT3 := rowCells hT3
 have cA3 := rowCells hA3
 obtain ⟨a3, c3, rfl, -⟩ := id ho3
 have hs3 := hb3.size
 have hA4 := farHeap (p := ⟨w.heap.size + 1 + 1, 3, none⟩) hA3 (hAT 3) (.slice a3 x.scores.length c3)
 have hC4 := farHeap (p := ⟨w.heap.size + 1 + 1, 3, none⟩) hC3 (hCT 3) (.slice a3 x.scores.length c3)
 have hT4 := setH (k := 3) (v := .slice a3 x.scores.length c3) hT3
 have hol4 := hol3.far (p := ⟨w.heap.size + 1 + 1, 3, none⟩) (hTW 3) (.slice a3 x.scores.length c3)
 have hoi4 := hoi3.far (p := ⟨w.heap.size + 1 + 1, 3, none⟩) (by simp; omega) (.slice a3 x.scores.length c3)
 have hb04 := hb03.setCell (p := ⟨w.heap.size + 1 + 1, 3, none⟩) (hTB 3) (.slice a3 x.scores.length c3)
 have hsw4 : (w3.setCell ⟨w.heap.size + 1 + 1, 3, none⟩ (.slice a3 x.scores.length c3)).heap.size = w3.heap.size := by simp
 clear cA2 cT2 hA2 hC2 hT2 hb3 ho2 hA3 hC3 hT3 ho3 hol3 hoi3 hb03
 go_upto_region 6 with (fail)
 generalize w3.setCell ⟨w.heap.size + 1 + 1, 3, none⟩ (.slice a3 x.scores.length c3) = W4 at *
 have hT4 : W4.heap[w.heap.size + 1 + 1]? = some (.cells #[.slice a1 x.rows.length c1, .int .i64 x.tick, .int .i64 x.seed, .slice a3 x.scores.length c3, .slice none 0 0] 30 (0, 0)) := hT4
 have cA4 := rowCells hA4
 have cT4 := rowCells hT4
 clear cA3 cT3 fT3
 go_wp2_with (fail)
 refine (toBodyS_any (h0.keep hb04).2.2 (by omega)).mono ?_
 rintro e w5 ⟨v5, rfl, ho5, hc5, hb5⟩
 have hC5 := keepHeap hb5 hC4
 have hT5 := keepHeap hb5 hT4
 have hb05 := hb04.trans (hb5.mono hb04.size)
 have hol5 := hol4.keep hb5
 have hoi5 := hoi4.same (w' := w5) (fun hx b _ hb _ => hb5.block b (by omega))
 have fT5 := fun j => frozenHeap hT5 j
 have cT5 := rowCells hT5
 obtain ⟨a5, c5, rfl, -⟩ := id ho5
 have hs5 := hb5.size
 have hO5 : OwnW w5 W0.heap.size x (.slice a1 x.rows.length c1) (.slice a3 x.scores.length c3) (.slice a5 x.bods.length c5) := ⟨w1.heap.size, w3.heap.size, by omega, by omega, by omega, hol5, hlo, by rw [hsw] at hoi5; exact hoi5, by rw [hsw4] at ho5; exact ho5⟩
 have hC6 := farHeap (p := ⟨w.heap.size + 1 + 1, 4, none⟩) hC5 (hCT 4) (.slice a5 x.bods.length c5)
 have hT6 := setH (k := 4) (v := .slice a5 x.bods.length c5) hT5
 have hO6 := hO5.far (p := ⟨w.heap.size + 1 + 1, 4, none⟩) (hTW 4) (.slice a5 x.bods.length c5)
 have hb06 := hb05.setCell (p := ⟨w.heap.size + 1 + 1, 4, none⟩) (hTB 4) (.slice a5 x.bods.length c5)
 clear cA4 cT4 hA4 hC4 hT4 hb5 hol4 hoi4 hol5 hoi5 hC5 hT5 hO5 hb05 ho5
 go_upto_region 7 with (fail)
 generalize w5.setCell ⟨w.heap.size + 1 + 1, 4, none⟩ (.slice a5 x.bods.length c5) = W6 at *
 have hT6 : W6.heap[w.heap.size + 1 + 1]? = some (.cells #[.slice a1 x.rows.length c1, .int .i64 x.tick, .int .i64 x.seed, .slice a3 x.scores.length c3, .slice a5 x.bods.length c5] 30 (0, 0)) := hT6
 have cT6 := rowCells hT6
 have cC6 := rowCells hC6
 have fC6 := fun j => frozenHeap hC6 j
 clear cT5 fT5
 go_wp2_with (fail)
 have hP := putW_heap hC6 rfl x (.slice a1 x.rows.length c1) (.slice a3 x.scores.length c3) (.slice a5 x.bods.length c5)
 have hbP := putW_below hb06 (c := w.heap.size + 1) (by omega) x (.slice a1 x.rows.length c1) (.slice a3 x.scores.length c3) (.slice a5 x.bods.length c5)
 have hOP := hO6.put (c := w.heap.size + 1) (by omega) x (.slice a1 x.rows.length c1) (.slice a3 x.scores.length c3) (.slice a5 x.bods.length c5)
 unfold putW at hP hbP hOP
 refine bodyPost_ret (results_cell_row rfl _ _ (w.heap.size + 1) 30 (wdC x (.slice a1 x.rows.length c1) (.slice a3 x.scores.length c3) (.slice a5 x.bods.length c5)) (0, 0) ?d ?hp ?hg ?hu ?hd ?hi) rfl ?_
 case hp => rfl
 case hg => exact hP
 case hu => exact Tryz.underlying30
 case hd => rfl
 case hi => kernel_rfl
 exact ⟨_, _, _, rfl, hOP.up (by omega), ⟨hc1, hc3, hc5⟩, hbP⟩
end Go.Proofs.YtnlonkkbjkfkmaaGreatDoor
