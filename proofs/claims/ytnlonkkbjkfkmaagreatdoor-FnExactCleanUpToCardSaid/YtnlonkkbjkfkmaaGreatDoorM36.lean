/-
  Texts of this proof: Pr.
-/
import Derived.Test.YtnlonkkbjkfkmaaGreatDoorM33
import Derived.Test.YtnlonkkbjkfkmaaGreatDoorM34
import Derived.Test.YtnlonkkbjkfkmaaGreatDoorM35
import Derived.Test.YtnlonkkbjkfkmaaGreatDoorM30
import Derived.Laws.CopyOwn
namespace Go.Proofs.YtnlonkkbjkfkmaaGreatDoor
open Go.RowKit Go.Joins Go.ChangeShapes Go.WideShapes Go.Deep
set_option linter.all false
structure Pr where
 me : Int
 delay : Int
 ahead : Int
 seed : Int
 tracks : Rowi
 base : Wd
 now : Wd
 used : Rowi
 saves : List Sv
 sums : List Int
 fault : Ft
 rolls : Int
 again : Int
def Pr.sane (p : Pr) : Prop := SaneR p.tracks ∧ p.base.sane ∧ p.now.sane ∧ SaneR p.used ∧ (p.saves.length ≤ 9223372036854775807 ∧ ∀ f ∈ p.saves, f.fits) ∧ p.sums.length ≤ 9223372036854775807
def Pr.few (p : Pr) : Prop := (p.tracks.length ≤ 1048576 ∧ ∀ x ∈ p.tracks, x.length ≤ 1048576) ∧ p.base.few ∧ p.now.few ∧ (p.used.length ≤ 1048576 ∧ ∀ x ∈ p.used, x.length ≤ 1048576) ∧ p.saves.length ≤ 1048576 ∧ p.sums.length ≤ 1048576
def prC (p : Pr) (vt bl bs bb nl ns nb vu vv vs : Value) : Array Value := #[.int .i64 p.me, .int .i64 p.delay, .int .i64 p.ahead, .int .i64 p.seed, vt, bl, .int .i64 p.base.tick, .int .i64 p.base.seed, bs, bb, nl, .int .i64 p.now.tick, .int .i64 p.now.seed, ns, nb, vu, vv, vs, .int .i64 p.fault.tick, .int .i64 p.fault.player, .int .i64 p.fault.add, .int .i64 p.rolls, .int .i64 p.again]
def RdPr (w : World) (p : Pr) (vt bl bs bb nl ns nb vu vv vs : Value) : Prop := RdR w vt p.tracks ∧ RdW w p.base bl bs bb ∧ RdW w p.now nl ns nb ∧ RdR w vu p.used ∧ RdSv w vv p.saves ∧ RdI w vs p.sums
theorem RdPr.keep {w w' : World} {p : Pr} {vt bl bs bb nl ns nb vu vv vs : Value} (h : RdPr w p vt bl bs bb nl ns nb vu vv vs) (hb : Below w.heap.size w w') : RdPr w' p vt bl bs bb nl ns nb vu vv vs := ⟨h.1.keep hb, h.2.1.keep hb, h.2.2.1.keep hb, h.2.2.2.1.keep hb, h.2.2.2.2.1.keep hb, h.2.2.2.2.2.keep hb⟩
theorem OwnI.sameP {w w' : World} {B : Nat} {v : Value} {xs : List Int} (h : OwnI w B v xs) (he : ∀ b, B ≤ b → b < w.heap.size → w'.heap[b]? = w.heap[b]?) : OwnI w' B v xs := by
 obtain ⟨a, cap, rfl, h⟩ := h
 refine ⟨a, cap, rfl, ?_⟩
 by_cases hx : xs = []
 ·exact .inl hx
 rcases h with h | ⟨b, hB, rfl, hr⟩
 ·exact .inl h
 ·exact .inr ⟨b, hB, rfl, hr.same (he b hB (hr.lt hx))⟩
theorem WrR.sameP {w w' : World} {B : Nat} {v : Value} {X : Rowi} (h : WrR w B v X) (he : ∀ b, B ≤ b → b < w.heap.size → w'.heap[b]? = w.heap[b]?) : WrR w' B v X := by
 obtain ⟨a, cap, rfl, h⟩ := h
 refine ⟨a, cap, rfl, ?_⟩
 by_cases hx : X = []
 ·exact .inl hx
 rcases h with h | ⟨g, hB, rfl, hr⟩
 ·exact .inl h
 ·have hg := hr.lt hx
  have hh := he g hB hg
  refine .inr ⟨g, hB, rfl, fun j hj => ?_, fun j hj => ?_⟩
  ·obtain ⟨u, h1, h2⟩ := hr.1 j hj
   exact ⟨u, by rw [World.cell?_of_block (w := w) hh]; exact h1, h2.sameP fun b hb hl => he b (by omega) hl⟩
  ·rw [frozen_of_block hh]; exact hr.2 j hj
theorem RowSv.same {w w' : World} {g : Nat} {X : List Sv} (h : RowSv w g X) (he : w'.heap[g]? = w.heap[g]?) : RowSv w' g X := fun j hj => ⟨rangeSame (h j hj).1 he, thereSame (h j hj).2 he⟩
theorem OwnSv.sameP {w w' : World} {B : Nat} {v : Value} {X : List Sv} (h : OwnSv w B v X) (he : ∀ b, B ≤ b → b < w.heap.size → w'.heap[b]? = w.heap[b]?) : OwnSv w' B v X := by
 obtain ⟨a, cap, rfl, h⟩ := h
 refine ⟨a, cap, rfl, ?_⟩
 by_cases hx : X = []
 ·exact .inl hx
 rcases h with h | ⟨g, hB, rfl, hr⟩
 ·exact .inl h
 ·exact .inr ⟨g, hB, rfl, hr.same (he g hB (hr.lt hx))⟩
theorem OwnBd.sameP {w w' : World} {B : Nat} {v : Value} {X : List Bd} (h : OwnBd w B v X) (he : ∀ b, B ≤ b → b < w.heap.size → w'.heap[b]? = w.heap[b]?) : OwnBd w' B v X := by
 obtain ⟨a, cap, rfl, h⟩ := h
 refine ⟨a, cap, rfl, ?_⟩
 by_cases hx : X = []
 ·exact .inl hx
 rcases h with h | ⟨g, hB, rfl, hr⟩
 ·exact .inl h
 ·exact .inr ⟨g, hB, rfl, hr.same (he g hB (hr.lt hx))⟩
theorem OwnW.sameP {w w' : World} {B : Nat} {x : Wd} {vl vs vb : Value} (h : OwnW w B x vl vs vb) (he : ∀ b, B ≤ b → b < w.heap.size → w'.heap[b]? = w.heap[b]?) (hs : w.heap.size ≤ w'.heap.size) : OwnW w' B x vl vs vb := by
 obtain ⟨T1, T2, h1, h2, h7, h3, h4, h5, h6⟩ := h
 exact ⟨T1, T2, h1, h2, by omega, h3.same h4 fun b hb _ hl => he b hb hl, h4, h5.same fun _ b hb1 hb2 _ => he b (by omega) (by omega), h6.sameP fun b hb hl => he b (by omega) hl⟩
theorem setHPr {w : World} {c k : Nat} {v : Value} {l : List Value} {T : TypeId} (h : w.heap[c]? = some (.cells ⟨l⟩ T (0, 0))) : (w.setCell ⟨c, k, none⟩ v).heap[c]? = some (.cells ⟨l.set k v⟩ T (0, 0)) := by
 rw [setHeap h]; simp

def SzPr (p : Pr) (w : World) (e : Ending) (w' : World) : Prop := ∃ r : Int, e = .returned (.int .i64 r) ∧ (r = -1 ∨ (0 ≤ r ∧ r ≤ 1048576 ∧ p.few)) ∧ Below w.heap.size w w'
set_option maxRecDepth 100000 in
set_option maxHeartbeats 4000000 in
theorem szPeer_any {w : World} {p : Pr} {vt bl bs bb nl ns nb vu vv vs : Value} (h : RdPr w p vt bl bs bb nl ns nb vu vv vs) (hs : p.sane) (left : Int) (hl0 : 0 ≤ left) (hl1 : left ≤ 1048576) :
  Calls Tryz.prog 41 #[.agg (prC p vt bl bs bb nl ns nb vu vv vs), .int .i64 left] w (SzPr p w) := by
 obtain ⟨hs1, hs2, hs3, hs4, ⟨hs5, hs6⟩, hs7⟩ := hs
 have h0 := h
 obtain ⟨a0, c0, rfl, -⟩ := id h.1
 obtain ⟨a1, c1, rfl, -⟩ := id h.2.1.1
 obtain ⟨a2, c2, rfl, -⟩ := id h.2.1.2.1
 obtain ⟨a3, c3, rfl, -⟩ := id h.2.1.2.2
 obtain ⟨a4, c4, rfl, -⟩ := id h.2.2.1.1
 obtain ⟨a5, c5, rfl, -⟩ := id h.2.2.1.2.1
 obtain ⟨a6, c6, rfl, -⟩ := id h.2.2.1.2.2
 obtain ⟨a7, c7, rfl, -⟩ := id h.2.2.2.1
 obtain ⟨a8, c8, rfl, -⟩ := id h.2.2.2.2.1
 obtain ⟨a9, c9, rfl, -⟩ := id h.2.2.2.2.2
 unfold prC
 obtain ⟨W0, hW, hA, hB0, hS0⟩ := rows1 w #[Value.int .i64 p.me, .int .i64 p.delay, .int .i64 p.ahead, .int .i64 p.seed, (.slice a0 p.tracks.length c0), (.slice a1 p.base.rows.length c1), .int .i64 p.base.tick, .int .i64 p.base.seed, (.slice a2 p.base.scores.length c2), (.slice a3 p.base.bods.length c3), (.slice a4 p.now.rows.length c4), .int .i64 p.now.tick, .int .i64 p.now.seed, (.slice a5 p.now.scores.length c5), (.slice a6 p.now.bods.length c6), (.slice a7 p.used.length c7), (.slice a8 p.saves.length c8), (.slice a9 p.sums.length c9), .int .i64 p.fault.tick, .int .i64 p.fault.player, .int .i64 p.fault.add, .int .i64 p.rolls, .int .i64 p.again] 75
 have cA0 := rowCells hA
 have hA0 := hA
 have q0 := hB0
 clear hA hB0
 go_enter Tryz.func41, Tryz.ntmps41
 go_wp2_with (fail)
 try rw [hW]
 clear hW
 refine (szTrackS_any (h0.keep q0).1 hs1 left hl0 hl1).mono ?_
 rintro e w1 ⟨r1, rfl, hr, hb⟩
 have q1 := q0.trans (hb.mono q0.size)
 have hA1 := keepHeap hb hA0
 have cA1 := rowCells hA1
 clear hb cA0 hA0 q0
 rcases hr with rfl | ⟨hr10, hr11⟩
 ·go_wp2_with (fail)
  go_ret
  exact ⟨-1, rfl, .inl rfl, q1⟩
 have g1 := hr10
 have z1 : decide (r1 < 0) = false := by simpa using hr10
 have l1 : r1 ≤ 1048576 := by omega
 have H1 := Lib.hid hr11
 clear hr11
 go_wp2_with (fail)
 refine (szWorld_any (h0.keep q1).2.1 hs2 r1 g1 (by omega)).mono ?_
 rintro e w2 ⟨r2, rfl, hr, hb⟩
 have q2 := q1.trans (hb.mono q1.size)
 have hA2 := keepHeap hb hA1
 have cA2 := rowCells hA2
 clear hb cA1 hA1 q1
 rcases hr with rfl | ⟨hr20, hr21⟩
 ·go_wp2_with (fail)
  go_ret
  exact ⟨-1, rfl, .inl rfl, q2⟩
 have g2 := hr20
 have z2 : decide (r2 < 0) = false := by simpa using hr20
 have l2 : r2 ≤ 1048576 := by omega
 have H2 := Lib.hid hr21
 clear hr21
 go_wp2_with (fail)
 refine (szWorld_any (h0.keep q2).2.2.1 hs3 r2 g2 (by omega)).mono ?_
 rintro e w3 ⟨r3, rfl, hr, hb⟩
 have q3 := q2.trans (hb.mono q2.size)
 have hA3 := keepHeap hb hA2
 have cA3 := rowCells hA3
 clear hb cA2 hA2 q2
 rcases hr with rfl | ⟨hr30, hr31⟩
 ·go_wp2_with (fail)
  go_ret
  exact ⟨-1, rfl, .inl rfl, q3⟩
 have g3 := hr30
 have z3 : decide (r3 < 0) = false := by simpa using hr30
 have l3 : r3 ≤ 1048576 := by omega
 have H3 := Lib.hid hr31
 clear hr31
 go_wp2_with (fail)
 refine (szIntSS_any (h0.keep q3).2.2.2.1 hs4 r3 g3 (by omega)).mono ?_
 rintro e w4 ⟨r4, rfl, hr, hb⟩
 have q4 := q3.trans (hb.mono q3.size)
 have hA4 := keepHeap hb hA3
 have cA4 := rowCells hA4
 clear hb cA3 hA3 q3
 rcases hr with rfl | ⟨hr40, hr41⟩
 ·go_wp2_with (fail)
  go_ret
  exact ⟨-1, rfl, .inl rfl, q4⟩
 have g4 := hr40
 have z4 : decide (r4 < 0) = false := by simpa using hr40
 have l4 : r4 ≤ 1048576 := by omega
 have H4 := Lib.hid hr41
 clear hr41
 go_wp2_with (fail)
 refine (szSaveS_any (h0.keep q4).2.2.2.2.1 hs5 hs6 r4 g4 (by omega)).mono ?_
 rintro e w5 ⟨r5, rfl, hr, hb⟩
 have q5 := q4.trans (hb.mono q4.size)
 have hA5 := keepHeap hb hA4
 have cA5 := rowCells hA5
 clear hb cA4 hA4 q4
 rcases hr with rfl | ⟨hr50, hr51, hr52, hr53⟩
 ·go_wp2_with (fail)
  go_ret
  exact ⟨-1, rfl, .inl rfl, q5⟩
 have g5 := hr50
 have z5 : decide (r5 < 0) = false := by simpa using hr50
 go_wp2_with (fail)
 refine (szIntS_any (h0.keep q5).2.2.2.2.2 hs7 r5 g5 (by omega)).mono ?_
 rintro e w6 ⟨r6, rfl, hr, rfl⟩
 have q6 := q5
 rcases hr with rfl | ⟨hr60, hr61⟩
 ·go_wp2_with (fail)
  go_ret
  exact ⟨-1, rfl, .inl rfl, q6⟩
 have g6 := hr60
 have z6 : decide (r6 < 0) = false := by simpa using hr60
 have l6 : r6 ≤ 1048576 := by omega
 have H6 := Lib.hid hr61
 clear hr61
 go_wp2_with (fail)
 go_ret
 refine ⟨r6, rfl, .inr ⟨g6, l6, ?_⟩, q6⟩
 have e1 := H1.out
 have e2 := H2.out
 have e3 := H3.out
 have e4 := H4.out
 have e6 := H6.out
 refine ⟨⟨by omega, fun x hx => ?_⟩, ⟨by omega, by omega, by omega⟩, ⟨by omega, by omega, by omega⟩, ⟨by omega, fun x hx => ?_⟩, hr52, by omega⟩
 ·have := totalR_mem hx; omega
 ·have := totalR_mem hx; omega

def RetPr (w : World) (p : Pr) (e : Ending) (w' : World) : Prop := ∃ vt bl bs bb nl ns nb vu vv vs, e = .returned (.agg (prC p vt bl bs bb nl ns nb vu vv vs)) ∧ RdPr w' p vt bl bs bb nl ns nb vu vv vs ∧ Below w.heap.size w w'

set_option maxRecDepth 100000 in
set_option maxHeartbeats 16000000 in
theorem toPeer_any {w : World} {p : Pr} {vt bl bs bb nl ns nb vu vv vs : Value} (h : RdPr w p vt bl bs bb nl ns nb vu vv vs) (hn : p.few) :
  Calls Tryz.prog 43 #[.agg (prC p vt bl bs bb nl ns nb vu vv vs)] w (RetPr w p) := by
 obtain ⟨⟨f1, f2⟩, f3, f4, ⟨f5, f6⟩, f7, f8⟩ := hn
 have h0 := h
 obtain ⟨a0, c0, rfl, -⟩ := id h.1
 obtain ⟨a1, c1, rfl, -⟩ := id h.2.1.1
 obtain ⟨a2, c2, rfl, -⟩ := id h.2.1.2.1
 obtain ⟨a3, c3, rfl, -⟩ := id h.2.1.2.2
 obtain ⟨a4, c4, rfl, -⟩ := id h.2.2.1.1
 obtain ⟨a5, c5, rfl, -⟩ := id h.2.2.1.2.1
 obtain ⟨a6, c6, rfl, -⟩ := id h.2.2.1.2.2
 obtain ⟨a7, c7, rfl, -⟩ := id h.2.2.2.1
 obtain ⟨a8, c8, rfl, -⟩ := id h.2.2.2.2.1
 obtain ⟨a9, c9, rfl, -⟩ := id h.2.2.2.2.2
 unfold prC
 obtain ⟨W0, hW, hA, hC, hT, hB0, hS0⟩ := rows3 w #[Value.int .i64 p.me, .int .i64 p.delay, .int .i64 p.ahead, .int .i64 p.seed, (.slice a0 p.tracks.length c0), (.slice a1 p.base.rows.length c1), .int .i64 p.base.tick, .int .i64 p.base.seed, (.slice a2 p.base.scores.length c2), (.slice a3 p.base.bods.length c3), (.slice a4 p.now.rows.length c4), .int .i64 p.now.tick, .int .i64 p.now.seed, (.slice a5 p.now.scores.length c5), (.slice a6 p.now.bods.length c6), (.slice a7 p.used.length c7), (.slice a8 p.saves.length c8), (.slice a9 p.sums.length c9), .int .i64 p.fault.tick, .int .i64 p.fault.player, .int .i64 p.fault.add, .int .i64 p.rolls, .int .i64 p.again] #[Value.int .i64 0, .int .i64 0, .int .i64 0, .int .i64 0, (.slice none 0 0), (.slice none 0 0), .int .i64 0, .int .i64 0, (.slice none 0 0), (.slice none 0 0), (.slice none 0 0), .int .i64 0, .int .i64 0, (.slice none 0 0), (.slice none 0 0), (.slice none 0 0), (.slice none 0 0), (.slice none 0 0), .int .i64 0, .int .i64 0, .int .i64 0, .int .i64 0, .int .i64 0] #[Value.int .i64 0, .int .i64 0, .int .i64 0, .int .i64 0, (.slice none 0 0), (.slice none 0 0), .int .i64 0, .int .i64 0, (.slice none 0 0), (.slice none 0 0), (.slice none 0 0), .int .i64 0, .int .i64 0, (.slice none 0 0), (.slice none 0 0), (.slice none 0 0), (.slice none 0 0), (.slice none 0 0), .int .i64 0, .int .i64 0, .int .i64 0, .int .i64 0, .int .i64 0] 75 63 63
 have hTW : ∀ j : Nat, (⟨w.heap.size + 1 + 1, j, none⟩ : Addr).block < W0.heap.size := fun j => by simp; omega
 have cA := rowCells hA
 go_enter Tryz.func43, Tryz.ntmps43
 have hFA := fun W => toFault_any p.fault W
 unfold ftV at hFA
 have hAw := hA
 have hCw := hC
 have hTw := hT
 have qw := hB0
 clear hA hC hT hB0
 have cTw := rowCells hTw
 have fT := fun j => frozenHeap hTw j
 go_upto_region 2 with (fail)
 try rw [hW]
 clear hW
 obtain ⟨W1, eW1⟩ : ∃ W, (((W0.setCell ⟨w.heap.size + 1 + 1, 0, none⟩ (.int .i64 p.me)).setCell ⟨w.heap.size + 1 + 1, 1, none⟩ (.int .i64 p.delay)).setCell ⟨w.heap.size + 1 + 1, 2, none⟩ (.int .i64 p.ahead)).setCell ⟨w.heap.size + 1 + 1, 3, none⟩ (.int .i64 p.seed) = W := ⟨_, rfl⟩
 have sb1 : ∀ b, b ≠ w.heap.size + 1 + 1 → W1.heap[b]? = W0.heap[b]? := fun b hb => by
  rw [← eW1]
  repeat (rw [Below.heap_setCell _ _ _ b (by simpa using hb)])
 have ss1 : W1.heap.size = W0.heap.size := by rw [← eW1]; simp
 have hA1 := (sb1 w.heap.size (by omega)).trans hAw
 have hC1 := (sb1 (w.heap.size + 1) (by omega)).trans hCw
 have hTs0 : (_ : World).heap[w.heap.size + 1 + 1]? = some (.cells #[Value.int .i64 p.me, .int .i64 0, .int .i64 0, .int .i64 0, (.slice none 0 0), (.slice none 0 0), .int .i64 0, .int .i64 0, (.slice none 0 0), (.slice none 0 0), (.slice none 0 0), .int .i64 0, .int .i64 0, (.slice none 0 0), (.slice none 0 0), (.slice none 0 0), (.slice none 0 0), (.slice none 0 0), .int .i64 0, .int .i64 0, .int .i64 0, .int .i64 0, .int .i64 0] 63 (0, 0)) := setHPr (k := 0) (v := .int .i64 p.me) hTw
 have hTs1 : (_ : World).heap[w.heap.size + 1 + 1]? = some (.cells #[Value.int .i64 p.me, .int .i64 p.delay, .int .i64 0, .int .i64 0, (.slice none 0 0), (.slice none 0 0), .int .i64 0, .int .i64 0, (.slice none 0 0), (.slice none 0 0), (.slice none 0 0), .int .i64 0, .int .i64 0, (.slice none 0 0), (.slice none 0 0), (.slice none 0 0), (.slice none 0 0), (.slice none 0 0), .int .i64 0, .int .i64 0, .int .i64 0, .int .i64 0, .int .i64 0] 63 (0, 0)) := setHPr (k := 1) (v := .int .i64 p.delay) hTs0
 have hTs2 : (_ : World).heap[w.heap.size + 1 + 1]? = some (.cells #[Value.int .i64 p.me, .int .i64 p.delay, .int .i64 p.ahead, .int .i64 0, (.slice none 0 0), (.slice none 0 0), .int .i64 0, .int .i64 0, (.slice none 0 0), (.slice none 0 0), (.slice none 0 0), .int .i64 0, .int .i64 0, (.slice none 0 0), (.slice none 0 0), (.slice none 0 0), (.slice none 0 0), (.slice none 0 0), .int .i64 0, .int .i64 0, .int .i64 0, .int .i64 0, .int .i64 0] 63 (0, 0)) := setHPr (k := 2) (v := .int .i64 p.ahead) hTs1
 have hTs3 : (_ : World).heap[w.heap.size + 1 + 1]? = some (.cells #[Value.int .i64 p.me, .int .i64 p.delay, .int .i64 p.ahead, .int .i64 p.seed, (.slice none 0 0), (.slice none 0 0), .int .i64 0, .int .i64 0, (.slice none 0 0), (.slice none 0 0), (.slice none 0 0), .int .i64 0, .int .i64 0, (.slice none 0 0), (.slice none 0 0), (.slice none 0 0), (.slice none 0 0), (.slice none 0 0), .int .i64 0, .int .i64 0, .int .i64 0, .int .i64 0, .int .i64 0] 63 (0, 0)) := setHPr (k := 3) (v := .int .i64 p.seed) hTs2
 have hT1 := hTs3
 clear hTs0 hTs1 hTs2 hTs3
 have q1 := ((((qw.setCell (p := ⟨w.heap.size + 1 + 1, 0, none⟩) (by simp; omega) (.int .i64 p.me)).setCell (p := ⟨w.heap.size + 1 + 1, 1, none⟩) (by simp; omega) (.int .i64 p.delay)).setCell (p := ⟨w.heap.size + 1 + 1, 2, none⟩) (by simp; omega) (.int .i64 p.ahead)).setCell (p := ⟨w.heap.size + 1 + 1, 3, none⟩) (by simp; omega) (.int .i64 p.seed))
 rw [eW1] at hT1 q1
 have EW1 := Lib.hid eW1
 clear eW1 hAw hCw hTw qw
 go_upto_region 6 with (fail)
 rw [EW1.out]
 clear EW1
 have cA1 := rowCells hA1
 have cT1 := rowCells hT1
 clear cA cTw fT
 go_wp2_with (fail)
 refine (toTrackS_any (h0.keep q1).1 f1 f2).mono ?_
 rintro e w2 ⟨u0, rfl, o0, hb⟩
 have hsb := hb.size
 obtain ⟨b0, d0, rfl, -⟩ := id o0.rd
 have hAw := keepHeap hb hA1
 have hCw := keepHeap hb hC1
 have hTw := keepHeap hb hT1
 have qw := q1.trans (hb.mono q1.size)
 have cAw := rowCells hAw
 have cTw := rowCells hTw
 have fT := fun j => frozenHeap hTw j
 clear hA1 hC1 hT1 cA1 cT1 hb
 obtain ⟨W2, eW2⟩ : ∃ W, w2.setCell ⟨w.heap.size + 1 + 1, 4, none⟩ (.slice b0 p.tracks.length d0) = W := ⟨_, rfl⟩
 have sb2 : ∀ b, b ≠ w.heap.size + 1 + 1 → W2.heap[b]? = w2.heap[b]? := fun b hb => by
  rw [← eW2]
  repeat (rw [Below.heap_setCell _ _ _ b (by simpa using hb)])
 have ss2 : W2.heap.size = w2.heap.size := by rw [← eW2]; simp
 have hA2 := (sb2 w.heap.size (by omega)).trans hAw
 have hC2 := (sb2 (w.heap.size + 1) (by omega)).trans hCw
 have hTs4 : (_ : World).heap[w.heap.size + 1 + 1]? = some (.cells #[Value.int .i64 p.me, .int .i64 p.delay, .int .i64 p.ahead, .int .i64 p.seed, (.slice b0 p.tracks.length d0), (.slice none 0 0), .int .i64 0, .int .i64 0, (.slice none 0 0), (.slice none 0 0), (.slice none 0 0), .int .i64 0, .int .i64 0, (.slice none 0 0), (.slice none 0 0), (.slice none 0 0), (.slice none 0 0), (.slice none 0 0), .int .i64 0, .int .i64 0, .int .i64 0, .int .i64 0, .int .i64 0] 63 (0, 0)) := setHPr (k := 4) (v := (.slice b0 p.tracks.length d0)) hTw
 have hT2 := hTs4
 clear hTs4
 have q2 := (qw.setCell (p := ⟨w.heap.size + 1 + 1, 4, none⟩) (by simp; omega) ((.slice b0 p.tracks.length d0)))
 rw [eW2] at hT2 q2
 have EW2 := Lib.hid eW2
 clear eW2 hAw hCw hTw qw
 go_upto_region 7 with (fail)
 rw [EW2.out]
 clear EW2
 have cA2 := rowCells hA2
 have cT2 := rowCells hT2
 have o0 := o0.sameP (fun b hb _ => sb2 b (by omega))
 have o0 := o0.up (C := W0.heap.size) (by omega)
 clear cAw cTw fT q1 sb2
 go_wp2_with (fail)
 refine (toWorld_any (h0.keep q2).2.1 f3).mono ?_
 rintro e w3 ⟨u1, u2, u3, rfl, o1, -, hb⟩
 have hsb := hb.size
 have o0 := o0.sameP (fun b _ hl => hb.block b hl)
 have rd1 := o1.rd
 obtain ⟨b1, d1, rfl, -⟩ := id rd1.1
 obtain ⟨b2, d2, rfl, -⟩ := id rd1.2.1
 obtain ⟨b3, d3, rfl, -⟩ := id rd1.2.2
 clear rd1
 unfold wdC
 have hAw := keepHeap hb hA2
 have hCw := keepHeap hb hC2
 have hTw := keepHeap hb hT2
 have qw := q2.trans (hb.mono q2.size)
 have cAw := rowCells hAw
 have cTw := rowCells hTw
 have fT := fun j => frozenHeap hTw j
 clear hA2 hC2 hT2 cA2 cT2 hb
 obtain ⟨W3, eW3⟩ : ∃ W, ((((w3.setCell ⟨w.heap.size + 1 + 1, 5, none⟩ (.slice b1 p.base.rows.length d1)).setCell ⟨w.heap.size + 1 + 1, 6, none⟩ (.int .i64 p.base.tick)).setCell ⟨w.heap.size + 1 + 1, 7, none⟩ (.int .i64 p.base.seed)).setCell ⟨w.heap.size + 1 + 1, 8, none⟩ (.slice b2 p.base.scores.length d2)).setCell ⟨w.heap.size + 1 + 1, 9, none⟩ (.slice b3 p.base.bods.length d3) = W := ⟨_, rfl⟩
 have sb3 : ∀ b, b ≠ w.heap.size + 1 + 1 → W3.heap[b]? = w3.heap[b]? := fun b hb => by
  rw [← eW3]
  repeat (rw [Below.heap_setCell _ _ _ b (by simpa using hb)])
 have ss3 : W3.heap.size = w3.heap.size := by rw [← eW3]; simp
 have hA3 := (sb3 w.heap.size (by omega)).trans hAw
 have hC3 := (sb3 (w.heap.size + 1) (by omega)).trans hCw
 have hTs5 : (_ : World).heap[w.heap.size + 1 + 1]? = some (.cells #[Value.int .i64 p.me, .int .i64 p.delay, .int .i64 p.ahead, .int .i64 p.seed, (.slice b0 p.tracks.length d0), (.slice b1 p.base.rows.length d1), .int .i64 0, .int .i64 0, (.slice none 0 0), (.slice none 0 0), (.slice none 0 0), .int .i64 0, .int .i64 0, (.slice none 0 0), (.slice none 0 0), (.slice none 0 0), (.slice none 0 0), (.slice none 0 0), .int .i64 0, .int .i64 0, .int .i64 0, .int .i64 0, .int .i64 0] 63 (0, 0)) := setHPr (k := 5) (v := (.slice b1 p.base.rows.length d1)) hTw
 have hTs6 : (_ : World).heap[w.heap.size + 1 + 1]? = some (.cells #[Value.int .i64 p.me, .int .i64 p.delay, .int .i64 p.ahead, .int .i64 p.seed, (.slice b0 p.tracks.length d0), (.slice b1 p.base.rows.length d1), .int .i64 p.base.tick, .int .i64 0, (.slice none 0 0), (.slice none 0 0), (.slice none 0 0), .int .i64 0, .int .i64 0, (.slice none 0 0), (.slice none 0 0), (.slice none 0 0), (.slice none 0 0), (.slice none 0 0), .int .i64 0, .int .i64 0, .int .i64 0, .int .i64 0, .int .i64 0] 63 (0, 0)) := setHPr (k := 6) (v := .int .i64 p.base.tick) hTs5
 have hTs7 : (_ : World).heap[w.heap.size + 1 + 1]? = some (.cells #[Value.int .i64 p.me, .int .i64 p.delay, .int .i64 p.ahead, .int .i64 p.seed, (.slice b0 p.tracks.length d0), (.slice b1 p.base.rows.length d1), .int .i64 p.base.tick, .int .i64 p.base.seed, (.slice none 0 0), (.slice none 0 0), (.slice none 0 0), .int .i64 0, .int .i64 0, (.slice none 0 0), (.slice none 0 0), (.slice none 0 0), (.slice none 0 0), (.slice none 0 0), .int .i64 0, .int .i64 0, .int .i64 0, .int .i64 0, .int .i64 0] 63 (0, 0)) := setHPr (k := 7) (v := .int .i64 p.base.seed) hTs6
 have hTs8 : (_ : World).heap[w.heap.size + 1 + 1]? = some (.cells #[Value.int .i64 p.me, .int .i64 p.delay, .int .i64 p.ahead, .int .i64 p.seed, (.slice b0 p.tracks.length d0), (.slice b1 p.base.rows.length d1), .int .i64 p.base.tick, .int .i64 p.base.seed, (.slice b2 p.base.scores.length d2), (.slice none 0 0), (.slice none 0 0), .int .i64 0, .int .i64 0, (.slice none 0 0), (.slice none 0 0), (.slice none 0 0), (.slice none 0 0), (.slice none 0 0), .int .i64 0, .int .i64 0, .int .i64 0, .int .i64 0, .int .i64 0] 63 (0, 0)) := setHPr (k := 8) (v := (.slice b2 p.base.scores.length d2)) hTs7
 have hTs9 : (_ : World).heap[w.heap.size + 1 + 1]? = some (.cells #[Value.int .i64 p.me, .int .i64 p.delay, .int .i64 p.ahead, .int .i64 p.seed, (.slice b0 p.tracks.length d0), (.slice b1 p.base.rows.length d1), .int .i64 p.base.tick, .int .i64 p.base.seed, (.slice b2 p.base.scores.length d2), (.slice b3 p.base.bods.length d3), (.slice none 0 0), .int .i64 0, .int .i64 0, (.slice none 0 0), (.slice none 0 0), (.slice none 0 0), (.slice none 0 0), (.slice none 0 0), .int .i64 0, .int .i64 0, .int .i64 0, .int .i64 0, .int .i64 0] 63 (0, 0)) := setHPr (k := 9) (v := (.slice b3 p.base.bods.length d3)) hTs8
 have hT3 := hTs9
 clear hTs5 hTs6 hTs7 hTs8 hTs9
 have q3 := (((((qw.setCell (p := ⟨w.heap.size + 1 + 1, 5, none⟩) (by simp; omega) ((.slice b1 p.base.rows.length d1))).setCell (p := ⟨w.heap.size + 1 + 1, 6, none⟩) (by simp; omega) (.int .i64 p.base.tick)).setCell (p := ⟨w.heap.size + 1 + 1, 7, none⟩) (by simp; omega) (.int .i64 p.base.seed)).setCell (p := ⟨w.heap.size + 1 + 1, 8, none⟩) (by simp; omega) ((.slice b2 p.base.scores.length d2))).setCell (p := ⟨w.heap.size + 1 + 1, 9, none⟩) (by simp; omega) ((.slice b3 p.base.bods.length d3)))
 rw [eW3] at hT3 q3
 have EW3 := Lib.hid eW3
 clear eW3 hAw hCw hTw qw
 go_upto_region 8 with (fail)
 rw [EW3.out]
 clear EW3
 have cA3 := rowCells hA3
 have cT3 := rowCells hT3
 have o0 := o0.sameP (fun b hb _ => sb3 b (by omega))
 have o1 := o1.sameP (fun b hb _ => sb3 b (by omega)) (by rw [ss3]; exact Nat.le_refl _)
 have o1 := o1.up (C := W0.heap.size) (by omega)
 clear cAw cTw fT q2 sb3
 go_wp2_with (fail)
 refine (toWorld_any (h0.keep q3).2.2.1 f4).mono ?_
 rintro e w4 ⟨u4, u5, u6, rfl, o4, -, hb⟩
 have hsb := hb.size
 have o0 := o0.sameP (fun b _ hl => hb.block b hl)
 have o1 := o1.sameP (fun b _ hl => hb.block b hl) hb.size
 have rd2 := o4.rd
 obtain ⟨b4, d4, rfl, -⟩ := id rd2.1
 obtain ⟨b5, d5, rfl, -⟩ := id rd2.2.1
 obtain ⟨b6, d6, rfl, -⟩ := id rd2.2.2
 clear rd2
 unfold wdC
 have hAw := keepHeap hb hA3
 have hCw := keepHeap hb hC3
 have hTw := keepHeap hb hT3
 have qw := q3.trans (hb.mono q3.size)
 have cAw := rowCells hAw
 have cTw := rowCells hTw
 have fT := fun j => frozenHeap hTw j
 clear hA3 hC3 hT3 cA3 cT3 hb
 obtain ⟨W4, eW4⟩ : ∃ W, ((((w4.setCell ⟨w.heap.size + 1 + 1, 10, none⟩ (.slice b4 p.now.rows.length d4)).setCell ⟨w.heap.size + 1 + 1, 11, none⟩ (.int .i64 p.now.tick)).setCell ⟨w.heap.size + 1 + 1, 12, none⟩ (.int .i64 p.now.seed)).setCell ⟨w.heap.size + 1 + 1, 13, none⟩ (.slice b5 p.now.scores.length d5)).setCell ⟨w.heap.size + 1 + 1, 14, none⟩ (.slice b6 p.now.bods.length d6) = W := ⟨_, rfl⟩
 have sb4 : ∀ b, b ≠ w.heap.size + 1 + 1 → W4.heap[b]? = w4.heap[b]? := fun b hb => by
  rw [← eW4]
  repeat (rw [Below.heap_setCell _ _ _ b (by simpa using hb)])
 have ss4 : W4.heap.size = w4.heap.size := by rw [← eW4]; simp
 have hA4 := (sb4 w.heap.size (by omega)).trans hAw
 have hC4 := (sb4 (w.heap.size + 1) (by omega)).trans hCw
 have hTs10 : (_ : World).heap[w.heap.size + 1 + 1]? = some (.cells #[Value.int .i64 p.me, .int .i64 p.delay, .int .i64 p.ahead, .int .i64 p.seed, (.slice b0 p.tracks.length d0), (.slice b1 p.base.rows.length d1), .int .i64 p.base.tick, .int .i64 p.base.seed, (.slice b2 p.base.scores.length d2), (.slice b3 p.base.bods.length d3), (.slice b4 p.now.rows.length d4), .int .i64 0, .int .i64 0, (.slice none 0 0), (.slice none 0 0), (.slice none 0 0), (.slice none 0 0), (.slice none 0 0), .int .i64 0, .int .i64 0, .int .i64 0, .int .i64 0, .int .i64 0] 63 (0, 0)) := setHPr (k := 10) (v := (.slice b4 p.now.rows.length d4)) hTw
 have hTs11 : (_ : World).heap[w.heap.size + 1 + 1]? = some (.cells #[Value.int .i64 p.me, .int .i64 p.delay, .int .i64 p.ahead, .int .i64 p.seed, (.slice b0 p.tracks.length d0), (.slice b1 p.base.rows.length d1), .int .i64 p.base.tick, .int .i64 p.base.seed, (.slice b2 p.base.scores.length d2), (.slice b3 p.base.bods.length d3), (.slice b4 p.now.rows.length d4), .int .i64 p.now.tick, .int .i64 0, (.slice none 0 0), (.slice none 0 0), (.slice none 0 0), (.slice none 0 0), (.slice none 0 0), .int .i64 0, .int .i64 0, .int .i64 0, .int .i64 0, .int .i64 0] 63 (0, 0)) := setHPr (k := 11) (v := .int .i64 p.now.tick) hTs10
 have hTs12 : (_ : World).heap[w.heap.size + 1 + 1]? = some (.cells #[Value.int .i64 p.me, .int .i64 p.delay, .int .i64 p.ahead, .int .i64 p.seed, (.slice b0 p.tracks.length d0), (.slice b1 p.base.rows.length d1), .int .i64 p.base.tick, .int .i64 p.base.seed, (.slice b2 p.base.scores.length d2), (.slice b3 p.base.bods.length d3), (.slice b4 p.now.rows.length d4), .int .i64 p.now.tick, .int .i64 p.now.seed, (.slice none 0 0), (.slice none 0 0), (.slice none 0 0), (.slice none 0 0), (.slice none 0 0), .int .i64 0, .int .i64 0, .int .i64 0, .int .i64 0, .int .i64 0] 63 (0, 0)) := setHPr (k := 12) (v := .int .i64 p.now.seed) hTs11
 have hTs13 : (_ : World).heap[w.heap.size + 1 + 1]? = some (.cells #[Value.int .i64 p.me, .int .i64 p.delay, .int .i64 p.ahead, .int .i64 p.seed, (.slice b0 p.tracks.length d0), (.slice b1 p.base.rows.length d1), .int .i64 p.base.tick, .int .i64 p.base.seed, (.slice b2 p.base.scores.length d2), (.slice b3 p.base.bods.length d3), (.slice b4 p.now.rows.length d4), .int .i64 p.now.tick, .int .i64 p.now.seed, (.slice b5 p.now.scores.length d5), (.slice none 0 0), (.slice none 0 0), (.slice none 0 0), (.slice none 0 0), .int .i64 0, .int .i64 0, .int .i64 0, .int .i64 0, .int .i64 0] 63 (0, 0)) := setHPr (k := 13) (v := (.slice b5 p.now.scores.length d5)) hTs12
 have hTs14 : (_ : World).heap[w.heap.size + 1 + 1]? = some (.cells #[Value.int .i64 p.me, .int .i64 p.delay, .int .i64 p.ahead, .int .i64 p.seed, (.slice b0 p.tracks.length d0), (.slice b1 p.base.rows.length d1), .int .i64 p.base.tick, .int .i64 p.base.seed, (.slice b2 p.base.scores.length d2), (.slice b3 p.base.bods.length d3), (.slice b4 p.now.rows.length d4), .int .i64 p.now.tick, .int .i64 p.now.seed, (.slice b5 p.now.scores.length d5), (.slice b6 p.now.bods.length d6), (.slice none 0 0), (.slice none 0 0), (.slice none 0 0), .int .i64 0, .int .i64 0, .int .i64 0, .int .i64 0, .int .i64 0] 63 (0, 0)) := setHPr (k := 14) (v := (.slice b6 p.now.bods.length d6)) hTs13
 have hT4 := hTs14
 clear hTs10 hTs11 hTs12 hTs13 hTs14
 have q4 := (((((qw.setCell (p := ⟨w.heap.size + 1 + 1, 10, none⟩) (by simp; omega) ((.slice b4 p.now.rows.length d4))).setCell (p := ⟨w.heap.size + 1 + 1, 11, none⟩) (by simp; omega) (.int .i64 p.now.tick)).setCell (p := ⟨w.heap.size + 1 + 1, 12, none⟩) (by simp; omega) (.int .i64 p.now.seed)).setCell (p := ⟨w.heap.size + 1 + 1, 13, none⟩) (by simp; omega) ((.slice b5 p.now.scores.length d5))).setCell (p := ⟨w.heap.size + 1 + 1, 14, none⟩) (by simp; omega) ((.slice b6 p.now.bods.length d6)))
 rw [eW4] at hT4 q4
 have EW4 := Lib.hid eW4
 clear eW4 hAw hCw hTw qw
 go_upto_region 9 with (fail)
 rw [EW4.out]
 clear EW4
 have cA4 := rowCells hA4
 have cT4 := rowCells hT4
 have o0 := o0.sameP (fun b hb _ => sb4 b (by omega))
 have o1 := o1.sameP (fun b hb _ => sb4 b (by omega)) (by rw [ss4]; exact Nat.le_refl _)
 have o4 := o4.sameP (fun b hb _ => sb4 b (by omega)) (by rw [ss4]; exact Nat.le_refl _)
 have o4 := o4.up (C := W0.heap.size) (by omega)
 clear cAw cTw fT q3 sb4
 go_wp2_with (fail)
 refine (toIntSS_any (h0.keep q4).2.2.2.1 f5 f6).mono ?_
 rintro e w5 ⟨u7, rfl, o7, hb⟩
 have hsb := hb.size
 have o0 := o0.sameP (fun b _ hl => hb.block b hl)
 have o1 := o1.sameP (fun b _ hl => hb.block b hl) hb.size
 have o4 := o4.sameP (fun b _ hl => hb.block b hl) hb.size
 obtain ⟨b7, d7, rfl, -⟩ := id o7.rd
 have hAw := keepHeap hb hA4
 have hCw := keepHeap hb hC4
 have hTw := keepHeap hb hT4
 have qw := q4.trans (hb.mono q4.size)
 have cAw := rowCells hAw
 have cTw := rowCells hTw
 have fT := fun j => frozenHeap hTw j
 clear hA4 hC4 hT4 cA4 cT4 hb
 obtain ⟨W5, eW5⟩ : ∃ W, w5.setCell ⟨w.heap.size + 1 + 1, 15, none⟩ (.slice b7 p.used.length d7) = W := ⟨_, rfl⟩
 have sb5 : ∀ b, b ≠ w.heap.size + 1 + 1 → W5.heap[b]? = w5.heap[b]? := fun b hb => by
  rw [← eW5]
  repeat (rw [Below.heap_setCell _ _ _ b (by simpa using hb)])
 have ss5 : W5.heap.size = w5.heap.size := by rw [← eW5]; simp
 have hA5 := (sb5 w.heap.size (by omega)).trans hAw
 have hC5 := (sb5 (w.heap.size + 1) (by omega)).trans hCw
 have hTs15 : (_ : World).heap[w.heap.size + 1 + 1]? = some (.cells #[Value.int .i64 p.me, .int .i64 p.delay, .int .i64 p.ahead, .int .i64 p.seed, (.slice b0 p.tracks.length d0), (.slice b1 p.base.rows.length d1), .int .i64 p.base.tick, .int .i64 p.base.seed, (.slice b2 p.base.scores.length d2), (.slice b3 p.base.bods.length d3), (.slice b4 p.now.rows.length d4), .int .i64 p.now.tick, .int .i64 p.now.seed, (.slice b5 p.now.scores.length d5), (.slice b6 p.now.bods.length d6), (.slice b7 p.used.length d7), (.slice none 0 0), (.slice none 0 0), .int .i64 0, .int .i64 0, .int .i64 0, .int .i64 0, .int .i64 0] 63 (0, 0)) := setHPr (k := 15) (v := (.slice b7 p.used.length d7)) hTw
 have hT5 := hTs15
 clear hTs15
 have q5 := (qw.setCell (p := ⟨w.heap.size + 1 + 1, 15, none⟩) (by simp; omega) ((.slice b7 p.used.length d7)))
 rw [eW5] at hT5 q5
 have EW5 := Lib.hid eW5
 clear eW5 hAw hCw hTw qw
 go_upto_region 10 with (fail)
 rw [EW5.out]
 clear EW5
 have cA5 := rowCells hA5
 have cT5 := rowCells hT5
 have o0 := o0.sameP (fun b hb _ => sb5 b (by omega))
 have o1 := o1.sameP (fun b hb _ => sb5 b (by omega)) (by rw [ss5]; exact Nat.le_refl _)
 have o4 := o4.sameP (fun b hb _ => sb5 b (by omega)) (by rw [ss5]; exact Nat.le_refl _)
 have o7 := o7.sameP (fun b hb _ => sb5 b (by omega))
 have o7 := o7.up (C := W0.heap.size) (by omega)
 clear cAw cTw fT q4 sb5
 go_wp2_with (fail)
 refine (toSaveS_any (h0.keep q5).2.2.2.2.1 f7).mono ?_
 rintro e w6 ⟨u8, rfl, o8, -, hb⟩
 have hsb := hb.size
 have o0 := o0.sameP (fun b _ hl => hb.block b hl)
 have o1 := o1.sameP (fun b _ hl => hb.block b hl) hb.size
 have o4 := o4.sameP (fun b _ hl => hb.block b hl) hb.size
 have o7 := o7.sameP (fun b _ hl => hb.block b hl)
 obtain ⟨b8, d8, rfl, -⟩ := id o8.rd
 have hAw := keepHeap hb hA5
 have hCw := keepHeap hb hC5
 have hTw := keepHeap hb hT5
 have qw := q5.trans (hb.mono q5.size)
 have cAw := rowCells hAw
 have cTw := rowCells hTw
 have fT := fun j => frozenHeap hTw j
 clear hA5 hC5 hT5 cA5 cT5 hb
 obtain ⟨W6, eW6⟩ : ∃ W, w6.setCell ⟨w.heap.size + 1 + 1, 16, none⟩ (.slice b8 p.saves.length d8) = W := ⟨_, rfl⟩
 have sb6 : ∀ b, b ≠ w.heap.size + 1 + 1 → W6.heap[b]? = w6.heap[b]? := fun b hb => by
  rw [← eW6]
  repeat (rw [Below.heap_setCell _ _ _ b (by simpa using hb)])
 have ss6 : W6.heap.size = w6.heap.size := by rw [← eW6]; simp
 have hA6 := (sb6 w.heap.size (by omega)).trans hAw
 have hC6 := (sb6 (w.heap.size + 1) (by omega)).trans hCw
 have hTs16 : (_ : World).heap[w.heap.size + 1 + 1]? = some (.cells #[Value.int .i64 p.me, .int .i64 p.delay, .int .i64 p.ahead, .int .i64 p.seed, (.slice b0 p.tracks.length d0), (.slice b1 p.base.rows.length d1), .int .i64 p.base.tick, .int .i64 p.base.seed, (.slice b2 p.base.scores.length d2), (.slice b3 p.base.bods.length d3), (.slice b4 p.now.rows.length d4), .int .i64 p.now.tick, .int .i64 p.now.seed, (.slice b5 p.now.scores.length d5), (.slice b6 p.now.bods.length d6), (.slice b7 p.used.length d7), (.slice b8 p.saves.length d8), (.slice none 0 0), .int .i64 0, .int .i64 0, .int .i64 0, .int .i64 0, .int .i64 0] 63 (0, 0)) := setHPr (k := 16) (v := (.slice b8 p.saves.length d8)) hTw
 have hT6 := hTs16
 clear hTs16
 have q6 := (qw.setCell (p := ⟨w.heap.size + 1 + 1, 16, none⟩) (by simp; omega) ((.slice b8 p.saves.length d8)))
 rw [eW6] at hT6 q6
 have EW6 := Lib.hid eW6
 clear eW6 hAw hCw hTw qw
 go_upto_region 11 with (fail)
 rw [EW6.out]
 clear EW6
 have cA6 := rowCells hA6
 have cT6 := rowCells hT6
 have o0 := o0.sameP (fun b hb _ => sb6 b (by omega))
 have o1 := o1.sameP (fun b hb _ => sb6 b (by omega)) (by rw [ss6]; exact Nat.le_refl _)
 have o4 := o4.sameP (fun b hb _ => sb6 b (by omega)) (by rw [ss6]; exact Nat.le_refl _)
 have o7 := o7.sameP (fun b hb _ => sb6 b (by omega))
 have o8 := o8.sameP (fun b hb _ => sb6 b (by omega))
 have o8 := o8.up (C := W0.heap.size) (by omega)
 clear cAw cTw fT q5 sb6
 go_wp2_with (fail)
 refine (toIntS_own (h0.keep q6).2.2.2.2.2 (by omega)).mono ?_
 rintro e w7 ⟨u9, rfl, o9, hb⟩
 have hsb := hb.size
 have o0 := o0.sameP (fun b _ hl => hb.block b hl)
 have o1 := o1.sameP (fun b _ hl => hb.block b hl) hb.size
 have o4 := o4.sameP (fun b _ hl => hb.block b hl) hb.size
 have o7 := o7.sameP (fun b _ hl => hb.block b hl)
 have o8 := o8.sameP (fun b _ hl => hb.block b hl)
 obtain ⟨b9, d9, rfl, -⟩ := id o9.rd
 have hAw := keepHeap hb hA6
 have hCw := keepHeap hb hC6
 have hTw := keepHeap hb hT6
 have qw := q6.trans (hb.mono q6.size)
 have cAw := rowCells hAw
 have cTw := rowCells hTw
 have fT := fun j => frozenHeap hTw j
 clear hA6 hC6 hT6 cA6 cT6 hb
 obtain ⟨W7, eW7⟩ : ∃ W, w7.setCell ⟨w.heap.size + 1 + 1, 17, none⟩ (.slice b9 p.sums.length d9) = W := ⟨_, rfl⟩
 have sb7 : ∀ b, b ≠ w.heap.size + 1 + 1 → W7.heap[b]? = w7.heap[b]? := fun b hb => by
  rw [← eW7]
  repeat (rw [Below.heap_setCell _ _ _ b (by simpa using hb)])
 have ss7 : W7.heap.size = w7.heap.size := by rw [← eW7]; simp
 have hA7 := (sb7 w.heap.size (by omega)).trans hAw
 have hC7 := (sb7 (w.heap.size + 1) (by omega)).trans hCw
 have hTs17 : (_ : World).heap[w.heap.size + 1 + 1]? = some (.cells #[Value.int .i64 p.me, .int .i64 p.delay, .int .i64 p.ahead, .int .i64 p.seed, (.slice b0 p.tracks.length d0), (.slice b1 p.base.rows.length d1), .int .i64 p.base.tick, .int .i64 p.base.seed, (.slice b2 p.base.scores.length d2), (.slice b3 p.base.bods.length d3), (.slice b4 p.now.rows.length d4), .int .i64 p.now.tick, .int .i64 p.now.seed, (.slice b5 p.now.scores.length d5), (.slice b6 p.now.bods.length d6), (.slice b7 p.used.length d7), (.slice b8 p.saves.length d8), (.slice b9 p.sums.length d9), .int .i64 0, .int .i64 0, .int .i64 0, .int .i64 0, .int .i64 0] 63 (0, 0)) := setHPr (k := 17) (v := (.slice b9 p.sums.length d9)) hTw
 have hT7 := hTs17
 clear hTs17
 have q7 := (qw.setCell (p := ⟨w.heap.size + 1 + 1, 17, none⟩) (by simp; omega) ((.slice b9 p.sums.length d9)))
 rw [eW7] at hT7 q7
 have EW7 := Lib.hid eW7
 clear eW7 hAw hCw hTw qw
 go_upto_region 12 with (fail)
 rw [EW7.out]
 clear EW7
 have cA7 := rowCells hA7
 have cT7 := rowCells hT7
 have o0 := o0.sameP (fun b hb _ => sb7 b (by omega))
 have o1 := o1.sameP (fun b hb _ => sb7 b (by omega)) (by rw [ss7]; exact Nat.le_refl _)
 have o4 := o4.sameP (fun b hb _ => sb7 b (by omega)) (by rw [ss7]; exact Nat.le_refl _)
 have o7 := o7.sameP (fun b hb _ => sb7 b (by omega))
 have o8 := o8.sameP (fun b hb _ => sb7 b (by omega))
 have o9 := o9.sameP (fun b hb _ => sb7 b (by omega))
 have o9 := o9.up (C := W0.heap.size) (by omega)
 clear cAw cTw fT q6 sb7
 go_wp2_with (fail)
 refine (hFA _).mono ?_
 rintro e w8 ⟨rfl, hb⟩
 have hsb := hb.size
 have o0 := o0.sameP (fun b _ hl => hb.block b hl)
 have o1 := o1.sameP (fun b _ hl => hb.block b hl) hb.size
 have o4 := o4.sameP (fun b _ hl => hb.block b hl) hb.size
 have o7 := o7.sameP (fun b _ hl => hb.block b hl)
 have o8 := o8.sameP (fun b _ hl => hb.block b hl)
 have o9 := o9.sameP (fun b _ hl => hb.block b hl)
 have hAw := keepHeap hb hA7
 have hCw := keepHeap hb hC7
 have hTw := keepHeap hb hT7
 have qw := q7.trans (hb.mono q7.size)
 have cAw := rowCells hAw
 have cTw := rowCells hTw
 have fT := fun j => frozenHeap hTw j
 clear hA7 hC7 hT7 cA7 cT7 hb
 obtain ⟨W8, eW8⟩ : ∃ W, ((((w8.setCell ⟨w.heap.size + 1 + 1, 18, none⟩ (.int .i64 p.fault.tick)).setCell ⟨w.heap.size + 1 + 1, 19, none⟩ (.int .i64 p.fault.player)).setCell ⟨w.heap.size + 1 + 1, 20, none⟩ (.int .i64 p.fault.add)).setCell ⟨w.heap.size + 1 + 1, 21, none⟩ (.int .i64 p.rolls)).setCell ⟨w.heap.size + 1 + 1, 22, none⟩ (.int .i64 p.again) = W := ⟨_, rfl⟩
 have sb8 : ∀ b, b ≠ w.heap.size + 1 + 1 → W8.heap[b]? = w8.heap[b]? := fun b hb => by
  rw [← eW8]
  repeat (rw [Below.heap_setCell _ _ _ b (by simpa using hb)])
 have ss8 : W8.heap.size = w8.heap.size := by rw [← eW8]; simp
 have hA8 := (sb8 w.heap.size (by omega)).trans hAw
 have hC8 := (sb8 (w.heap.size + 1) (by omega)).trans hCw
 have hTs18 : (_ : World).heap[w.heap.size + 1 + 1]? = some (.cells #[Value.int .i64 p.me, .int .i64 p.delay, .int .i64 p.ahead, .int .i64 p.seed, (.slice b0 p.tracks.length d0), (.slice b1 p.base.rows.length d1), .int .i64 p.base.tick, .int .i64 p.base.seed, (.slice b2 p.base.scores.length d2), (.slice b3 p.base.bods.length d3), (.slice b4 p.now.rows.length d4), .int .i64 p.now.tick, .int .i64 p.now.seed, (.slice b5 p.now.scores.length d5), (.slice b6 p.now.bods.length d6), (.slice b7 p.used.length d7), (.slice b8 p.saves.length d8), (.slice b9 p.sums.length d9), .int .i64 p.fault.tick, .int .i64 0, .int .i64 0, .int .i64 0, .int .i64 0] 63 (0, 0)) := setHPr (k := 18) (v := .int .i64 p.fault.tick) hTw
 have hTs19 : (_ : World).heap[w.heap.size + 1 + 1]? = some (.cells #[Value.int .i64 p.me, .int .i64 p.delay, .int .i64 p.ahead, .int .i64 p.seed, (.slice b0 p.tracks.length d0), (.slice b1 p.base.rows.length d1), .int .i64 p.base.tick, .int .i64 p.base.seed, (.slice b2 p.base.scores.length d2), (.slice b3 p.base.bods.length d3), (.slice b4 p.now.rows.length d4), .int .i64 p.now.tick, .int .i64 p.now.seed, (.slice b5 p.now.scores.length d5), (.slice b6 p.now.bods.length d6), (.slice b7 p.used.length d7), (.slice b8 p.saves.length d8), (.slice b9 p.sums.length d9), .int .i64 p.fault.tick, .int .i64 p.fault.player, .int .i64 0, .int .i64 0, .int .i64 0] 63 (0, 0)) := setHPr (k := 19) (v := .int .i64 p.fault.player) hTs18
 have hTs20 : (_ : World).heap[w.heap.size + 1 + 1]? = some (.cells #[Value.int .i64 p.me, .int .i64 p.delay, .int .i64 p.ahead, .int .i64 p.seed, (.slice b0 p.tracks.length d0), (.slice b1 p.base.rows.length d1), .int .i64 p.base.tick, .int .i64 p.base.seed, (.slice b2 p.base.scores.length d2), (.slice b3 p.base.bods.length d3), (.slice b4 p.now.rows.length d4), .int .i64 p.now.tick, .int .i64 p.now.seed, (.slice b5 p.now.scores.length d5), (.slice b6 p.now.bods.length d6), (.slice b7 p.used.length d7), (.slice b8 p.saves.length d8), (.slice b9 p.sums.length d9), .int .i64 p.fault.tick, .int .i64 p.fault.player, .int .i64 p.fault.add, .int .i64 0, .int .i64 0] 63 (0, 0)) := setHPr (k := 20) (v := .int .i64 p.fault.add) hTs19
 have hTs21 : (_ : World).heap[w.heap.size + 1 + 1]? = some (.cells #[Value.int .i64 p.me, .int .i64 p.delay, .int .i64 p.ahead, .int .i64 p.seed, (.slice b0 p.tracks.length d0), (.slice b1 p.base.rows.length d1), .int .i64 p.base.tick, .int .i64 p.base.seed, (.slice b2 p.base.scores.length d2), (.slice b3 p.base.bods.length d3), (.slice b4 p.now.rows.length d4), .int .i64 p.now.tick, .int .i64 p.now.seed, (.slice b5 p.now.scores.length d5), (.slice b6 p.now.bods.length d6), (.slice b7 p.used.length d7), (.slice b8 p.saves.length d8), (.slice b9 p.sums.length d9), .int .i64 p.fault.tick, .int .i64 p.fault.player, .int .i64 p.fault.add, .int .i64 p.rolls, .int .i64 0] 63 (0, 0)) := setHPr (k := 21) (v := .int .i64 p.rolls) hTs20
 have hTs22 : (_ : World).heap[w.heap.size + 1 + 1]? = some (.cells #[Value.int .i64 p.me, .int .i64 p.delay, .int .i64 p.ahead, .int .i64 p.seed, (.slice b0 p.tracks.length d0), (.slice b1 p.base.rows.length d1), .int .i64 p.base.tick, .int .i64 p.base.seed, (.slice b2 p.base.scores.length d2), (.slice b3 p.base.bods.length d3), (.slice b4 p.now.rows.length d4), .int .i64 p.now.tick, .int .i64 p.now.seed, (.slice b5 p.now.scores.length d5), (.slice b6 p.now.bods.length d6), (.slice b7 p.used.length d7), (.slice b8 p.saves.length d8), (.slice b9 p.sums.length d9), .int .i64 p.fault.tick, .int .i64 p.fault.player, .int .i64 p.fault.add, .int .i64 p.rolls, .int .i64 p.again] 63 (0, 0)) := setHPr (k := 22) (v := .int .i64 p.again) hTs21
 have hT8 := hTs22
 clear hTs18 hTs19 hTs20 hTs21 hTs22
 have q8 := (((((qw.setCell (p := ⟨w.heap.size + 1 + 1, 18, none⟩) (by simp; omega) (.int .i64 p.fault.tick)).setCell (p := ⟨w.heap.size + 1 + 1, 19, none⟩) (by simp; omega) (.int .i64 p.fault.player)).setCell (p := ⟨w.heap.size + 1 + 1, 20, none⟩) (by simp; omega) (.int .i64 p.fault.add)).setCell (p := ⟨w.heap.size + 1 + 1, 21, none⟩) (by simp; omega) (.int .i64 p.rolls)).setCell (p := ⟨w.heap.size + 1 + 1, 22, none⟩) (by simp; omega) (.int .i64 p.again))
 rw [eW8] at hT8 q8
 have EW8 := Lib.hid eW8
 clear eW8 hAw hCw hTw qw
 go_upto_region 15 with (fail)
 rw [EW8.out]
 clear EW8
 have cA8 := rowCells hA8
 have cT8 := rowCells hT8
 have o0 := o0.sameP (fun b hb _ => sb8 b (by omega))
 have o1 := o1.sameP (fun b hb _ => sb8 b (by omega)) (by rw [ss8]; exact Nat.le_refl _)
 have o4 := o4.sameP (fun b hb _ => sb8 b (by omega)) (by rw [ss8]; exact Nat.le_refl _)
 have o7 := o7.sameP (fun b hb _ => sb8 b (by omega))
 have o8 := o8.sameP (fun b hb _ => sb8 b (by omega))
 have o9 := o9.sameP (fun b hb _ => sb8 b (by omega))
 clear cAw cTw fT q7 sb8
 have h1c : (prC p (.slice b0 p.tracks.length d0) (.slice b1 p.base.rows.length d1) (.slice b2 p.base.scores.length d2) (.slice b3 p.base.bods.length d3) (.slice b4 p.now.rows.length d4) (.slice b5 p.now.scores.length d5) (.slice b6 p.now.bods.length d6) (.slice b7 p.used.length d7) (.slice b8 p.saves.length d8) (.slice b9 p.sums.length d9)).all (·.oneCell') = true := by simp [prC, Value.oneCell']
 have hP := setRow_heap W8 (w.heap.size + 1) _ (prC p (.slice b0 p.tracks.length d0) (.slice b1 p.base.rows.length d1) (.slice b2 p.base.scores.length d2) (.slice b3 p.base.bods.length d3) (.slice b4 p.now.rows.length d4) (.slice b5 p.now.scores.length d5) (.slice b6 p.now.bods.length d6) (.slice b7 p.used.length d7) (.slice b8 p.saves.length d8) (.slice b9 p.sums.length d9)) _ _ hC8
 have hbP := below_setRow (g := w.heap.size + 1) q8 (by omega) (prC p (.slice b0 p.tracks.length d0) (.slice b1 p.base.rows.length d1) (.slice b2 p.base.scores.length d2) (.slice b3 p.base.bods.length d3) (.slice b4 p.now.rows.length d4) (.slice b5 p.now.scores.length d5) (.slice b6 p.now.bods.length d6) (.slice b7 p.used.length d7) (.slice b8 p.saves.length d8) (.slice b9 p.sums.length d9))
 have hsP := size_setRow W8 (w.heap.size + 1) (prC p (.slice b0 p.tracks.length d0) (.slice b1 p.base.rows.length d1) (.slice b2 p.base.scores.length d2) (.slice b3 p.base.bods.length d3) (.slice b4 p.now.rows.length d4) (.slice b5 p.now.scores.length d5) (.slice b6 p.now.bods.length d6) (.slice b7 p.used.length d7) (.slice b8 p.saves.length d8) (.slice b9 p.sums.length d9))
 have hkP : ∀ b, W0.heap.size ≤ b → (W8.setRow (w.heap.size + 1) (prC p (.slice b0 p.tracks.length d0) (.slice b1 p.base.rows.length d1) (.slice b2 p.base.scores.length d2) (.slice b3 p.base.bods.length d3) (.slice b4 p.now.rows.length d4) (.slice b5 p.now.scores.length d5) (.slice b6 p.now.bods.length d6) (.slice b7 p.used.length d7) (.slice b8 p.saves.length d8) (.slice b9 p.sums.length d9))).heap[b]? = W8.heap[b]? := fun b hb => setRow_other _ _ b _ (by omega)
 have o0 := o0.sameP (fun b hb _ => hkP b hb)
 have o1 := o1.sameP (fun b hb _ => hkP b hb) (Nat.le_of_eq hsP.symm)
 have o4 := o4.sameP (fun b hb _ => hkP b hb) (Nat.le_of_eq hsP.symm)
 have o7 := o7.sameP (fun b hb _ => hkP b hb)
 have o8 := o8.sameP (fun b hb _ => hkP b hb)
 have o9 := o9.sameP (fun b hb _ => hkP b hb)
 have hR := (⟨o0.rd, o1.rd, o4.rd, o7.rd, o8.rd, o9.rd⟩ : RdPr (W8.setRow (w.heap.size + 1) (prC p (.slice b0 p.tracks.length d0) (.slice b1 p.base.rows.length d1) (.slice b2 p.base.scores.length d2) (.slice b3 p.base.bods.length d3) (.slice b4 p.now.rows.length d4) (.slice b5 p.now.scores.length d5) (.slice b6 p.now.bods.length d6) (.slice b7 p.used.length d7) (.slice b8 p.saves.length d8) (.slice b9 p.sums.length d9))) p (.slice b0 p.tracks.length d0) (.slice b1 p.base.rows.length d1) (.slice b2 p.base.scores.length d2) (.slice b3 p.base.bods.length d3) (.slice b4 p.now.rows.length d4) (.slice b5 p.now.scores.length d5) (.slice b6 p.now.bods.length d6) (.slice b7 p.used.length d7) (.slice b8 p.saves.length d8) (.slice b9 p.sums.length d9))
 clear hkP hsP o0 o1 o4 o7 o8 o9
 refine wp_region_lit ?_
 refine wpList_load_row rfl 63 _ rfl (w.heap.size + 1 + 1) rfl 63 _ (0, 0) _ hT8 Tryz.underlying63 rfl (by kernel_rfl) ?_
 refine wpList_store_row rfl 63 _ _ rfl (w.heap.size + 1) (prC p (.slice b0 p.tracks.length d0) (.slice b1 p.base.rows.length d1) (.slice b2 p.base.scores.length d2) (.slice b3 p.base.bods.length d3) (.slice b4 p.now.rows.length d4) (.slice b5 p.now.scores.length d5) (.slice b6 p.now.bods.length d6) (.slice b7 p.used.length d7) (.slice b8 p.saves.length d8) (.slice b9 p.sums.length d9)) rfl rfl 63 _ hC8 (by kernel_rfl) rfl h1c ?_
 go_wp2
 refine bodyPost_ret (results_cell_row rfl _ _ (w.heap.size + 1) 63 (prC p (.slice b0 p.tracks.length d0) (.slice b1 p.base.rows.length d1) (.slice b2 p.base.scores.length d2) (.slice b3 p.base.bods.length d3) (.slice b4 p.now.rows.length d4) (.slice b5 p.now.scores.length d5) (.slice b6 p.now.bods.length d6) (.slice b7 p.used.length d7) (.slice b8 p.saves.length d8) (.slice b9 p.sums.length d9)) (0, 0) ?d ?hp ?hg ?hu ?hd ?hi) rfl ?_
 case hp => rfl
 case hg => exact hP
 case hu => exact Tryz.underlying63
 case hd => rfl
 case hi => kernel_rfl
 exact ⟨_, _, _, _, _, _, _, _, _, _, rfl, hR, hbP⟩

set_option maxHeartbeats 1000000 in
theorem eqFault_same (f : Ft) (w : World) : Calls Tryz.prog 96 #[ftV f, ftV f] w fun e w' => e = .returned (.bool true) ∧ Below w.heap.size w w' := by
 unfold ftV
 go_enter Tryz.func96, Tryz.ntmps96
 go_wp2_with (fail)
 go_ret
 exact ⟨rfl, below2 _ _ _⟩
set_option maxRecDepth 100000 in
set_option maxHeartbeats 8000000 in
theorem eqPeer_same {w : World} {p : Pr} {vt bl bs bb nl ns nb vu vv vs vt' bl' bs' bb' nl' ns' nb' vu' vv' vs' : Value} (h : RdPr w p vt bl bs bb nl ns nb vu vv vs) (h' : RdPr w p vt' bl' bs' bb' nl' ns' nb' vu' vv' vs') (hn : p.few) :
  Calls Tryz.prog 36 #[.agg (prC p vt bl bs bb nl ns nb vu vv vs), .agg (prC p vt' bl' bs' bb' nl' ns' nb' vu' vv' vs')] w fun e w' => e = .returned (.bool true) ∧ Below w.heap.size w w' := by
 obtain ⟨⟨f1, f2⟩, f3, f4, ⟨f5, f6⟩, f7, f8⟩ := hn
 have h0 := h
 have h0' := h'
 obtain ⟨a0, c0, rfl, -⟩ := id h.1
 obtain ⟨a1, c1, rfl, -⟩ := id h.2.1.1
 obtain ⟨a2, c2, rfl, -⟩ := id h.2.1.2.1
 obtain ⟨a3, c3, rfl, -⟩ := id h.2.1.2.2
 obtain ⟨a4, c4, rfl, -⟩ := id h.2.2.1.1
 obtain ⟨a5, c5, rfl, -⟩ := id h.2.2.1.2.1
 obtain ⟨a6, c6, rfl, -⟩ := id h.2.2.1.2.2
 obtain ⟨a7, c7, rfl, -⟩ := id h.2.2.2.1
 obtain ⟨a8, c8, rfl, -⟩ := id h.2.2.2.2.1
 obtain ⟨a9, c9, rfl, -⟩ := id h.2.2.2.2.2
 obtain ⟨a0', c0', rfl, -⟩ := id h'.1
 obtain ⟨a1', c1', rfl, -⟩ := id h'.2.1.1
 obtain ⟨a2', c2', rfl, -⟩ := id h'.2.1.2.1
 obtain ⟨a3', c3', rfl, -⟩ := id h'.2.1.2.2
 obtain ⟨a4', c4', rfl, -⟩ := id h'.2.2.1.1
 obtain ⟨a5', c5', rfl, -⟩ := id h'.2.2.1.2.1
 obtain ⟨a6', c6', rfl, -⟩ := id h'.2.2.1.2.2
 obtain ⟨a7', c7', rfl, -⟩ := id h'.2.2.2.1
 obtain ⟨a8', c8', rfl, -⟩ := id h'.2.2.2.2.1
 obtain ⟨a9', c9', rfl, -⟩ := id h'.2.2.2.2.2
 unfold prC
 obtain ⟨W0, hW, hA0, hB0, q0, hS0⟩ := rows2 w #[Value.int .i64 p.me, .int .i64 p.delay, .int .i64 p.ahead, .int .i64 p.seed, (.slice a0 p.tracks.length c0), (.slice a1 p.base.rows.length c1), .int .i64 p.base.tick, .int .i64 p.base.seed, (.slice a2 p.base.scores.length c2), (.slice a3 p.base.bods.length c3), (.slice a4 p.now.rows.length c4), .int .i64 p.now.tick, .int .i64 p.now.seed, (.slice a5 p.now.scores.length c5), (.slice a6 p.now.bods.length c6), (.slice a7 p.used.length c7), (.slice a8 p.saves.length c8), (.slice a9 p.sums.length c9), .int .i64 p.fault.tick, .int .i64 p.fault.player, .int .i64 p.fault.add, .int .i64 p.rolls, .int .i64 p.again] #[Value.int .i64 p.me, .int .i64 p.delay, .int .i64 p.ahead, .int .i64 p.seed, (.slice a0' p.tracks.length c0'), (.slice a1' p.base.rows.length c1'), .int .i64 p.base.tick, .int .i64 p.base.seed, (.slice a2' p.base.scores.length c2'), (.slice a3' p.base.bods.length c3'), (.slice a4' p.now.rows.length c4'), .int .i64 p.now.tick, .int .i64 p.now.seed, (.slice a5' p.now.scores.length c5'), (.slice a6' p.now.bods.length c6'), (.slice a7' p.used.length c7'), (.slice a8' p.saves.length c8'), (.slice a9' p.sums.length c9'), .int .i64 p.fault.tick, .int .i64 p.fault.player, .int .i64 p.fault.add, .int .i64 p.rolls, .int .i64 p.again] 63 63
 have cA0 := rowCells hA0
 have cB0 := rowCells hB0
 have hFE := fun W => eqFault_same p.fault W
 unfold ftV at hFE
 go_enter Tryz.func36, Tryz.ntmps36
 go_wp2_with (fail)
 try rw [hW]
 clear hW
 refine (eqTrackS_rows (h0.keep q0).1 (h0'.keep q0).1 f1 f2).mono ?_
 rintro e w1 ⟨rfl, hb⟩
 have q1 := q0.trans (hb.mono q0.size)
 have hA1 := keepHeap hb hA0
 have hB1 := keepHeap hb hB0
 have cA1 := rowCells hA1
 have cB1 := rowCells hB1
 clear hb cA0 cB0 hA0 hB0 q0
 go_wp2_with (fail)
 refine (eqWorld_same (h0.keep q1).2.1 (h0'.keep q1).2.1 f3).mono ?_
 rintro e w2 ⟨rfl, hb⟩
 have q2 := q1.trans (hb.mono q1.size)
 have hA2 := keepHeap hb hA1
 have hB2 := keepHeap hb hB1
 have cA2 := rowCells hA2
 have cB2 := rowCells hB2
 clear hb cA1 cB1 hA1 hB1 q1
 go_wp2_with (fail)
 refine (eqWorld_same (h0.keep q2).2.2.1 (h0'.keep q2).2.2.1 f4).mono ?_
 rintro e w3 ⟨rfl, hb⟩
 have q3 := q2.trans (hb.mono q2.size)
 have hA3 := keepHeap hb hA2
 have hB3 := keepHeap hb hB2
 have cA3 := rowCells hA3
 have cB3 := rowCells hB3
 clear hb cA2 cB2 hA2 hB2 q2
 go_wp2_with (fail)
 refine (eqIntSS_rows (h0.keep q3).2.2.2.1 (h0'.keep q3).2.2.2.1 f5 f6).mono ?_
 rintro e w4 ⟨rfl, hb⟩
 have q4 := q3.trans (hb.mono q3.size)
 have hA4 := keepHeap hb hA3
 have hB4 := keepHeap hb hB3
 have cA4 := rowCells hA4
 have cB4 := rowCells hB4
 clear hb cA3 cB3 hA3 hB3 q3
 go_wp2_with (fail)
 refine (eqSaveS_same (h0.keep q4).2.2.2.2.1 (h0'.keep q4).2.2.2.2.1 f7).mono ?_
 rintro e w5 ⟨rfl, hb⟩
 have q5 := q4.trans (hb.mono q4.size)
 have hA5 := keepHeap hb hA4
 have hB5 := keepHeap hb hB4
 have cA5 := rowCells hA5
 have cB5 := rowCells hB5
 clear hb cA4 cB4 hA4 hB4 q4
 go_wp2_with (fail)
 refine (eqIntS_same (h0.keep q5).2.2.2.2.2 (h0'.keep q5).2.2.2.2.2 (by omega)).mono ?_
 rintro e w6 ⟨rfl, n5, hw5⟩
 have hb : Below w5.heap.size w5 w6 := by rw [hw5]; exact belowDrew _ _
 clear hw5
 have q6 := q5.trans (hb.mono q5.size)
 have hA6 := keepHeap hb hA5
 have hB6 := keepHeap hb hB5
 have cA6 := rowCells hA6
 have cB6 := rowCells hB6
 clear hb cA5 cB5 hA5 hB5 q5
 go_wp2_with (fail)
 refine (hFE _).mono ?_
 rintro e w7 ⟨rfl, hb⟩
 have q7 := q6.trans (hb.mono q6.size)
 have hA7 := keepHeap hb hA6
 have hB7 := keepHeap hb hB6
 have cA7 := rowCells hA7
 have cB7 := rowCells hB7
 clear hb cA6 cB6 hA6 hB6 q6
 go_wp2_with (fail)
 go_ret
 exact ⟨rfl, q7⟩

section
variable {H : Type} {enc : TypeId × Value → H} {w : World} {base : Nat} {spare : Nat → Bool} {held : Bool}
set_option maxRecDepth 100000 in
theorem rdWd_of_trod {n : Nat} {c0 c1 c2 c3 c4 : Value} {y : DataW H × List MemPlace} (h : DataW.trod enc Tryz.prog w base spare held n 46 [c0, c1, c2, c3, c4] = some y) : ∃ (x : Wd) (vl vs vb : Value), c0 = vl ∧ c1 = .int .i64 x.tick ∧ c2 = .int .i64 x.seed ∧ c3 = vs ∧ c4 = vb ∧ RdW w x vl vs vb ∧ x.sane := by
 obtain ⟨xs, n', _, hx, _, hlen, hg⟩ := DataW.trod_struct Tryz.underlying46 h
 match xs, hlen with
 | [y0, y1, y2, y3, y4], _ =>
  have hc0 : Tryz.prog.cellsOf 43 = 1 := by kernel_rfl
  have hc1 : Tryz.prog.cellsOf 3 = 1 := by kernel_rfl
  have hc3 : Tryz.prog.cellsOf 27 = 1 := by kernel_rfl
  have hc4 : Tryz.prog.cellsOf 44 = 1 := by kernel_rfl
  have t0 := hg 0 _ rfl
  have t1 := hg 1 _ rfl
  have t2 := hg 2 _ rfl
  have t3 := hg 3 _ rfl
  have t4 := hg 4 _ rfl
  simp [hc0, hc1, hc3, hc4] at t0 t1 t2 t3 t4
  obtain ⟨L, r0, s0⟩ := rdL_of_trod t0
  obtain ⟨m1, rfl, _⟩ := intField t1
  obtain ⟨m2, rfl, _⟩ := intField t2
  obtain ⟨l3, r3, s3⟩ := rdI_of_trod t3
  obtain ⟨l4, r4, s4, f4⟩ := rdBd_of_trod t4
  exact ⟨⟨L, m1, m2, l3, l4⟩, c0, c3, c4, rfl, rfl, rfl, rfl, rfl, ⟨r0, r3, r4⟩, s0, s3, s4, f4⟩
set_option maxRecDepth 100000 in
theorem rdFt_of_trod {n : Nat} {c0 c1 c2 : Value} {y : DataW H × List MemPlace} (h : DataW.trod enc Tryz.prog w base spare held n 48 [c0, c1, c2] = some y) : ∃ f : Ft, c0 = .int .i64 f.tick ∧ c1 = .int .i64 f.player ∧ c2 = .int .i64 f.add := by
 obtain ⟨xs, n', _, hx, _, hlen, hg⟩ := DataW.trod_struct Tryz.underlying48 h
 match xs, hlen with
 | [y0, y1, y2], _ =>
  have hc1 : Tryz.prog.cellsOf 3 = 1 := by kernel_rfl
  have t0 := hg 0 _ rfl
  have t1 := hg 1 _ rfl
  have t2 := hg 2 _ rfl
  simp [hc1] at t0 t1 t2
  obtain ⟨m0, rfl, _⟩ := intField t0
  obtain ⟨m1, rfl, _⟩ := intField t1
  obtain ⟨m2, rfl, _⟩ := intField t2
  exact ⟨⟨m0, m1, m2⟩, rfl, rfl, rfl⟩
set_option maxRecDepth 100000 in
set_option maxHeartbeats 4000000 in
theorem open_peer {r : Reach} {b0 : Nat} {v : Value} {d : DataW H} {q : List MemPlace}
  (hv : Value.okWide Tryz.prog w r b0 75 v) (h : DataW.Trod enc Tryz.prog w base spare held 75 v d q) : ∃ (p : Pr) (vt bl bs bb nl ns nb vu vv vs : Value), v = .agg (prC p vt bl bs bb nl ns nb vu vv vs) ∧ RdPr w p vt bl bs bb nl ns nb vu vv vs ∧ p.sane := by
 obtain ⟨cs, rfl, hsz⟩ := okWide_struct Tryz.underlying75 hv
 have hC : Tryz.prog.cellsOf 75 = 23 := by kernel_rfl
 obtain ⟨l⟩ := cs
 match l, hsz.trans hC with
 | [x0, x1, x2, x3, x4, x5, x6, x7, x8, x9, x10, x11, x12, x13, x14, x15, x16, x17, x18, x19, x20, x21, x22], _ =>
  obtain ⟨fuel, hf⟩ := h
  obtain ⟨xs, n, _, hx, _, hlen, hg⟩ := DataW.trod_struct Tryz.underlying75 hf
  match xs, hlen with
  | [y0, y1, y2, y3, y4, y5, y6, y7, y8, y9, y10, y11, y12], _ =>
   have k1 : Tryz.prog.cellsOf 3 = 1 := by kernel_rfl
   have k2 : Tryz.prog.cellsOf 72 = 1 := by kernel_rfl
   have k3 : Tryz.prog.cellsOf 46 = 5 := by kernel_rfl
   have k4 : Tryz.prog.cellsOf 31 = 1 := by kernel_rfl
   have k5 : Tryz.prog.cellsOf 73 = 1 := by kernel_rfl
   have k6 : Tryz.prog.cellsOf 27 = 1 := by kernel_rfl
   have k7 : Tryz.prog.cellsOf 48 = 3 := by kernel_rfl
   have t0 := hg 0 _ rfl
   have t1 := hg 1 _ rfl
   have t2 := hg 2 _ rfl
   have t3 := hg 3 _ rfl
   have t4 := hg 4 _ rfl
   have t5 := hg 5 _ rfl
   have t6 := hg 6 _ rfl
   have t7 := hg 7 _ rfl
   have t8 := hg 8 _ rfl
   have t9 := hg 9 _ rfl
   have t10 := hg 10 _ rfl
   have t11 := hg 11 _ rfl
   have t12 := hg 12 _ rfl
   simp [Value.cells, k1, k2, k3, k4, k5, k6, k7] at t0 t1 t2 t3 t4 t5 t6 t7 t8 t9 t10 t11 t12
   obtain ⟨m0, rfl, _⟩ := intField t0
   obtain ⟨m1, rfl, _⟩ := intField t1
   obtain ⟨m2, rfl, _⟩ := intField t2
   obtain ⟨m3, rfl, _⟩ := intField t3
   obtain ⟨m11, rfl, _⟩ := intField t11
   obtain ⟨m12, rfl, _⟩ := intField t12
   obtain ⟨l4, r4, s4⟩ := open_tracks t4
   obtain ⟨x5, e1, e2, e3, rfl, rfl, rfl, rfl, rfl, r5, s5⟩ := rdWd_of_trod t5
   obtain ⟨x6, e4, e5, e6, rfl, rfl, rfl, rfl, rfl, r6, s6⟩ := rdWd_of_trod t6
   obtain ⟨l7, r7, s7⟩ := open_rows2 t7
   obtain ⟨l8, r8, s8, g8⟩ := rdSv_of_trod t8
   obtain ⟨l9, r9, s9⟩ := rdI_of_trod t9
   obtain ⟨ff, rfl, rfl, rfl⟩ := rdFt_of_trod t10
   exact ⟨⟨m0, m1, m2, m3, l4, x5, x6, l7, l8, l9, ff, m11, m12⟩, _, _, _, _, _, _, _, _, _, _, rfl, ⟨r4, r5, r6, r7, r8, r9⟩, s4, s5, s6, s7, ⟨s8, g8⟩, s9⟩
end
end Go.Proofs.YtnlonkkbjkfkmaaGreatDoor
