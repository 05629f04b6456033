/-
  Packets as the laws hand them over: szPacket, toPacket, eqPacket; a packet that came in, opened to its fields. No condition.
-/
import Derived.Test.YtiidocjpeepheaaGreatDoorTrO
import Derived.Test.YtiidocjpeepheaaGreatDoorRowL
import Derived.Deep.Cut
import Derived.Deep.CutBlock
namespace Go.Proofs.YtiidocjpeepheaaGreatDoor
open Go.RowKit Go.Joins Go.ChangeShapes Go.WideShapes Go.Deep
set_option linter.all false
structure Pk where
  fr : Int
  tick : Int
  first : Int
  ins : List Int
  acks : List Int
  sumTick : Int
  sum : Int
  time : Int
  echo : Int
def Pk.sane (p : Pk) : Prop := p.ins.length ≤ 9223372036854775807 ∧ p.acks.length ≤ 9223372036854775807
def Pk.few (p : Pk) : Prop := p.ins.length ≤ 1048576 ∧ p.acks.length ≤ 1048576
/-- A packet's cells, its two lists' slices given. -/
def pkC (p : Pk) (vi va : Value) : Array Value := #[.int .i64 p.fr, .int .i64 p.tick, .int .i64 p.first, vi, va, .int .i64 p.sumTick, .int .i64 p.sum, .int .i64 p.time, .int .i64 p.echo]
/-- The two slices read as the packet's lists. -/
def RdP (w : World) (p : Pk) (vi va : Value) : Prop := RdI w vi p.ins ∧ RdI w va p.acks
theorem RdP.keep {w w' : World} {p : Pk} {vi va : Value} (h : RdP w p vi va) (hb : Below w.heap.size w w') : RdP w' p vi va := ⟨h.1.keep hb, h.2.keep hb⟩
set_option maxHeartbeats 1000000 in
theorem szPacket_any {w : World} {p : Pk} {vi va : Value} (h : RdP w p vi va) (hs : p.sane) (left : Int) (hl0 : 0 ≤ left) (hl1 : left ≤ 1048576) :
    Calls Tryz.prog 17 #[.agg (pkC p vi va), .int .i64 left] w fun e w' => ∃ r : Int, e = .returned (.int .i64 r) ∧ (r = -1 ∨ (0 ≤ r ∧ r = left - (p.ins.length : Int) - (p.acks.length : Int))) ∧ Below w.heap.size w w' := by
  obtain ⟨hs1, hs2⟩ := hs
  have h1 := h.1
  obtain ⟨ai, ci, rfl, -⟩ := id h.1
  obtain ⟨aa, ca, rfl, -⟩ := id h.2
  unfold pkC
  obtain ⟨W0, hW, hA, hB0, hS0⟩ := rows1 w #[.int .i64 p.fr, .int .i64 p.tick, .int .i64 p.first, (.slice ai p.ins.length ci), (.slice aa p.acks.length ca), .int .i64 p.sumTick, .int .i64 p.sum, .int .i64 p.time, .int .i64 p.echo] 52
  have cA := rowCells hA
  have hk := h.keep hB0
  have hS := szIntS_any hk.1 hs1 left hl0 hl1
  go_enter Tryz.func17, Tryz.ntmps17
  go_wp2_with (fail)
  clear hW
  refine hS.mono ?_
  rintro e w1 ⟨r, rfl, hr, rfl⟩
  rcases hr with rfl | ⟨hr0, hr1⟩
  · go_wp2_with (fail)
    go_ret
    exact ⟨-1, rfl, .inl rfl, hB0⟩
  · have z1 : decide (r < 0) = false := by simpa using hr0
    have hS2 := szIntS_any hk.2 hs2 r hr0 (by omega)
    have HR := Lib.hid hr1
    clear hr1
    go_wp2_with (fail)
    refine hS2.mono ?_
    rintro e w1 ⟨q, rfl, hq, rfl⟩
    rcases hq with rfl | ⟨hq0, hq1⟩
    · go_wp2_with (fail)
      go_ret
      exact ⟨-1, rfl, .inl rfl, hB0⟩
    · have z2 : decide (q < 0) = false := by simpa using hq0
      have HQ := Lib.hid hq1
      clear hq1
      go_wp2_with (fail)
      go_ret
      exact ⟨q, rfl, .inr ⟨hq0, by have := HR.out; have := HQ.out; omega⟩, hB0⟩
theorem load_pk {W : World} {k : Nat} {xs : Array Value} (h : W.heap[k]? = some (.cells xs 55 (0, 0))) (hn : xs.size = 9) : (loadVar 55 ⟨k, 0, none⟩).run Tryz.prog W = .ok (.agg xs) W :=
  run_loadVar_row W _ _ _ _ _ _ h Tryz.underlying55 rfl (by rw [hn]; kernel_rfl)
theorem setHl {w : World} {c k : Nat} {v : Value} {l : List Value} {T : TypeId} (h : w.heap[c]? = some (.cells ⟨l⟩ T (0, 0))) : (w.setCell ⟨c, k, none⟩ v).heap[c]? = some (.cells ⟨l.set k v⟩ T (0, 0)) := by
  rw [setHeap h]; simp
/-- A whole packet is stored. -/
def putP (w : World) (c : Nat) (p : Pk) (vi va : Value) : World := ((((((((w.setCell ⟨c, 0, none⟩ (.int .i64 p.fr)).setCell ⟨c, 1, none⟩ (.int .i64 p.tick)).setCell ⟨c, 2, none⟩ (.int .i64 p.first)).setCell ⟨c, 3, none⟩ vi).setCell ⟨c, 4, none⟩ va).setCell ⟨c, 5, none⟩ (.int .i64 p.sumTick)).setCell ⟨c, 6, none⟩ (.int .i64 p.sum)).setCell ⟨c, 7, none⟩ (.int .i64 p.time)).setCell ⟨c, 8, none⟩ (.int .i64 p.echo)
set_option maxHeartbeats 1000000 in
theorem putP_heap {w : World} {c : Nat} {cs : Array Value} (h : w.heap[c]? = some (.cells cs 55 (0, 0))) (hn : cs.size = 9) (p : Pk) (vi va : Value) : (putP w c p vi va).heap[c]? = some (.cells (pkC p vi va) 55 (0, 0)) := by
  obtain ⟨l⟩ := cs
  match l, hn with
  | [a0, a1, a2, a3, a4, a5, a6, a7, a8], _ =>
    have h0 := setHl (k := 0) (v := .int .i64 p.fr) h
    have h1 := setHl (k := 1) (v := .int .i64 p.tick) h0
    have h2 := setHl (k := 2) (v := .int .i64 p.first) h1
    have h3 := setHl (k := 3) (v := vi) h2
    have h4 := setHl (k := 4) (v := va) h3
    have h5 := setHl (k := 5) (v := .int .i64 p.sumTick) h4
    have h6 := setHl (k := 6) (v := .int .i64 p.sum) h5
    have h7 := setHl (k := 7) (v := .int .i64 p.time) h6
    have h8 := setHl (k := 8) (v := .int .i64 p.echo) h7
    exact h8
theorem putP_far {w : World} {c k : Nat} {o : Obj} (h : w.heap[k]? = some o) (hk : k ≠ c) (p : Pk) (vi va : Value) : (putP w c p vi va).heap[k]? = some o := by
  unfold putP
  repeat (refine farHeap ?_ hk _)
  exact h
theorem putP_below {B : Nat} {w0 w : World} {c : Nat} (h : Below B w0 w) (hc : B ≤ c) (p : Pk) (vi va : Value) : Below B w0 (putP w c p vi va) := by
  unfold putP
  repeat (refine Below.setCell ?_ (by simpa using hc) _)
  exact h
theorem putP_own {w : World} {c B : Nat} {v : Value} {xs : List Int} (h : OwnI w B v xs) (hc : c < B) (p : Pk) (vi va : Value) : OwnI (putP w c p vi va) B v xs := by
  unfold putP
  repeat (refine OwnI.far ?_ (by simpa using hc) _)
  exact h
def RetPk (w : World) (p : Pk) (e : Ending) (w' : World) : Prop := ∃ vi va, e = .returned (.agg (pkC p vi va)) ∧ OwnI w' w.heap.size vi p.ins ∧ CapI vi ∧ OwnI w' w.heap.size va p.acks ∧ CapI va ∧ Below w.heap.size w w'
set_option maxRecDepth 100000 in
set_option maxHeartbeats 4000000 in
theorem toPacket_any {w : World} {p : Pk} {vi va : Value} (h : RdP w p vi va) (hn : p.few) :
    Calls Tryz.prog 19 #[.agg (pkC p vi va)] w (RetPk w p) := by
  obtain ⟨hn1, hn2⟩ := hn
  have h0 := h
  obtain ⟨ai, ci, rfl, -⟩ := id h.1
  obtain ⟨aa, ca, rfl, -⟩ := id h.2
  obtain ⟨W0, hW, hA, hC, hT, hB0, hS0⟩ := rows3 w #[.int .i64 p.fr, .int .i64 p.tick, .int .i64 p.first, (.slice ai p.ins.length ci), (.slice aa p.acks.length ca), .int .i64 p.sumTick, .int .i64 p.sum, .int .i64 p.time, .int .i64 p.echo] #[.int .i64 0, .int .i64 0, .int .i64 0, .slice none 0 0, .slice none 0 0, .int .i64 0, .int .i64 0, .int .i64 0, .int .i64 0] #[.int .i64 p.fr, .int .i64 p.tick, .int .i64 p.first, .slice none 0 0, .slice none 0 0, .int .i64 0, .int .i64 0, .int .i64 0, .int .i64 0] 52 55 55
  have cA := rowCells hA
  unfold pkC
  go_enter Tryz.func19, Tryz.ntmps19
  go_wp2_with (fail)
  try rw [hW]
  clear hW
  refine (toIntS_cap (h.keep hB0).1 (by omega)).mono ?_
  rintro e w1 ⟨v1, rfl, ho1, hc1, hb1⟩
  have hA1 := keepHeap hb1 hA
  have hC1 := keepHeap hb1 hC
  have hT1 := keepHeap hb1 hT
  have hb01 := hB0.trans (hb1.mono (by omega))
  have fT1 := frozenHeap hT1 3
  have cT1 := rowCells hT1
  have cA1 := rowCells hA1
  obtain ⟨a1, c1, rfl, -⟩ := id ho1
  have hA2 := farHeap (p := ⟨w.heap.size + 1 + 1, 3, none⟩) hA1 (by simp; omega) (.slice a1 p.ins.length c1)
  have hC2 := farHeap (p := ⟨w.heap.size + 1 + 1, 3, none⟩) hC1 (by simp) (.slice a1 p.ins.length c1)
  have hT2 := setHl (k := 3) (v := .slice a1 p.ins.length c1) hT1
  have ho2 := ho1.far (p := ⟨w.heap.size + 1 + 1, 3, none⟩) (by simp; omega) (.slice a1 p.ins.length c1)
  have hb02 := hb01.setCell (p := ⟨w.heap.size + 1 + 1, 3, none⟩) (by simp; omega) (.slice a1 p.ins.length c1)
  have hs1 : w.heap.size + 1 + 1 < w1.heap.size := (Array.getElem?_eq_some_iff.1 hT1).1
  clear cA hA hC hT hb1 hA1 hC1
  go_upto_region 6 with (fail)
  have hsw : (w1.setCell ⟨w.heap.size + 1 + 1, 3, none⟩ (.slice a1 p.ins.length c1)).heap.size = w1.heap.size := by simp
  generalize w1.setCell ⟨w.heap.size + 1 + 1, 3, none⟩ (.slice a1 p.ins.length c1) = W2 at *
  have cA2 := rowCells hA2
  clear cA1 cT1 fT1 ho1
  go_wp2_with (fail)
  refine (toIntS_cap (h.keep hb02).2 (by omega)).mono ?_
  rintro e w3 ⟨v3, rfl, ho3, hc3, hb3⟩
  have hA3 := keepHeap hb3 hA2
  have hC3 := keepHeap hb3 hC2
  have hT3 := keepHeap hb3 hT2
  have hb03 := hb02.trans (hb3.mono hb02.size)
  have hoi3 := ho2.keep hb3
  have fT3 := fun j => frozenHeap hT3 j
  have cT3 := rowCells hT3
  have cA3 := rowCells hA3
  obtain ⟨a3, c3, rfl, -⟩ := id ho3
  have hs3 := hb3.size
  clear cA2 hA2 hC2 hT2 hb3 ho2
  go_upto_region 11 with (fail)
  have h4 := setHl (k := 4) (v := .slice a3 p.acks.length c3) hT3
  have h5 := setHl (k := 5) (v := .int .i64 p.sumTick) h4
  have h6 := setHl (k := 6) (v := .int .i64 p.sum) h5
  have h7 := setHl (k := 7) (v := .int .i64 p.time) h6
  have h8 := setHl (k := 8) (v := .int .i64 p.echo) h7
  have hC4 := farHeap (p := ⟨w.heap.size + 1 + 1, 8, none⟩) (farHeap (p := ⟨w.heap.size + 1 + 1, 7, none⟩) (farHeap (p := ⟨w.heap.size + 1 + 1, 6, none⟩) (farHeap (p := ⟨w.heap.size + 1 + 1, 5, none⟩) (farHeap (p := ⟨w.heap.size + 1 + 1, 4, none⟩) hC3 (by simp) (.slice a3 p.acks.length c3)) (by simp) (.int .i64 p.sumTick)) (by simp) (.int .i64 p.sum)) (by simp) (.int .i64 p.time)) (by simp) (.int .i64 p.echo)
  have hTB : ∀ j : Nat, w.heap.size ≤ (⟨w.heap.size + 1 + 1, j, none⟩ : Addr).block := fun j => by simp; omega
  have hb04 := (((((hb03.setCell (hTB 4) (.slice a3 p.acks.length c3)).setCell (hTB 5) (.int .i64 p.sumTick)).setCell (hTB 6) (.int .i64 p.sum)).setCell (hTB 7) (.int .i64 p.time)).setCell (hTB 8) (.int .i64 p.echo))
  have ho34 := ((((ho3.far (p := ⟨w.heap.size + 1 + 1, 4, none⟩) (by simp; omega) (.slice a3 p.acks.length c3)).far (p := ⟨w.heap.size + 1 + 1, 5, none⟩) (by simp; omega) (.int .i64 p.sumTick)).far (p := ⟨w.heap.size + 1 + 1, 6, none⟩) (by simp; omega) (.int .i64 p.sum)).far (p := ⟨w.heap.size + 1 + 1, 7, none⟩) (by simp; omega) (.int .i64 p.time)).far (p := ⟨w.heap.size + 1 + 1, 8, none⟩) (by simp; omega) (.int .i64 p.echo)
  have hoi4 := ((((hoi3.far (p := ⟨w.heap.size + 1 + 1, 4, none⟩) (by simp; omega) (.slice a3 p.acks.length c3)).far (p := ⟨w.heap.size + 1 + 1, 5, none⟩) (by simp; omega) (.int .i64 p.sumTick)).far (p := ⟨w.heap.size + 1 + 1, 6, none⟩) (by simp; omega) (.int .i64 p.sum)).far (p := ⟨w.heap.size + 1 + 1, 7, none⟩) (by simp; omega) (.int .i64 p.time)).far (p := ⟨w.heap.size + 1 + 1, 8, none⟩) (by simp; omega) (.int .i64 p.echo)
  have hsw : (((((w3.setCell ⟨w.heap.size + 1 + 1, 4, none⟩ (.slice a3 p.acks.length c3)).setCell ⟨w.heap.size + 1 + 1, 5, none⟩ (.int .i64 p.sumTick)).setCell ⟨w.heap.size + 1 + 1, 6, none⟩ (.int .i64 p.sum)).setCell ⟨w.heap.size + 1 + 1, 7, none⟩ (.int .i64 p.time)).setCell ⟨w.heap.size + 1 + 1, 8, none⟩ (.int .i64 p.echo)).heap.size = w3.heap.size := by simp
  clear h4 h5 h6 h7 hT3 hC3 cT3 fT3 ho3 hoi3
  generalize ((((w3.setCell ⟨w.heap.size + 1 + 1, 4, none⟩ (.slice a3 p.acks.length c3)).setCell ⟨w.heap.size + 1 + 1, 5, none⟩ (.int .i64 p.sumTick)).setCell ⟨w.heap.size + 1 + 1, 6, none⟩ (.int .i64 p.sum)).setCell ⟨w.heap.size + 1 + 1, 7, none⟩ (.int .i64 p.time)).setCell ⟨w.heap.size + 1 + 1, 8, none⟩ (.int .i64 p.echo) = W4 at *
  have h8 : W4.heap[w.heap.size + 1 + 1]? = some (.cells #[.int .i64 p.fr, .int .i64 p.tick, .int .i64 p.first, (.slice a1 p.ins.length c1), (.slice a3 p.acks.length c3), .int .i64 p.sumTick, .int .i64 p.sum, .int .i64 p.time, .int .i64 p.echo] 55 (0, 0)) := h8
  have cT4 := rowCells h8
  have cC4 := rowCells hC4
  have fC4 := fun j => frozenHeap hC4 j
  go_wp2_with (fail)
  have hP := putP_heap hC4 rfl p (.slice a1 p.ins.length c1) (.slice a3 p.acks.length c3)
  have hbP := putP_below hb04 (c := w.heap.size + 1) (by omega) p (.slice a1 p.ins.length c1) (.slice a3 p.acks.length c3)
  have hoP := putP_own (c := w.heap.size + 1) hoi4 (by omega) p (.slice a1 p.ins.length c1) (.slice a3 p.acks.length c3)
  have haP := putP_own (c := w.heap.size + 1) ho34 (by omega) p (.slice a1 p.ins.length c1) (.slice a3 p.acks.length c3)
  unfold putP at hP hbP hoP haP
  refine bodyPost_ret (results_cell_row rfl _ _ (w.heap.size + 1) 55 (pkC p (.slice a1 p.ins.length c1) (.slice a3 p.acks.length c3)) (0, 0) ?d ?hp ?hg ?hu ?hd ?hi) rfl ?_
  case hp => rfl
  case hg => exact hP
  case hu => exact Tryz.underlying55
  case hd => rfl
  case hi => kernel_rfl
  exact ⟨_, _, rfl, hoP.up (by omega), hc1, haP.up (by omega), hc3, hbP⟩
set_option maxHeartbeats 2000000 in
theorem eqPacket_same {w : World} {p : Pk} {vi va vi' va' : Value} (h : RdP w p vi va) (h' : RdP w p vi' va') (hn : p.few) :
    Calls Tryz.prog 21 #[.agg (pkC p vi va), .agg (pkC p vi' va')] w fun e w' => e = .returned (.bool true) ∧ Below w.heap.size w w' := by
  obtain ⟨hn1, hn2⟩ := hn
  have h0 := h
  have h0' := h'
  obtain ⟨ai, ci, rfl, -⟩ := id h.1
  obtain ⟨aa, ca, rfl, -⟩ := id h.2
  obtain ⟨ai', ci', rfl, -⟩ := id h'.1
  obtain ⟨aa', ca', rfl, -⟩ := id h'.2
  unfold pkC
  obtain ⟨W0, hW, hA, hB, hB0, hS0⟩ := rows2 w #[.int .i64 p.fr, .int .i64 p.tick, .int .i64 p.first, (.slice ai p.ins.length ci), (.slice aa p.acks.length ca), .int .i64 p.sumTick, .int .i64 p.sum, .int .i64 p.time, .int .i64 p.echo] #[.int .i64 p.fr, .int .i64 p.tick, .int .i64 p.first, (.slice ai' p.ins.length ci'), (.slice aa' p.acks.length ca'), .int .i64 p.sumTick, .int .i64 p.sum, .int .i64 p.time, .int .i64 p.echo] 55 55
  have cA := rowCells hA
  have cB := rowCells hB
  go_enter Tryz.func21, Tryz.ntmps21
  go_wp2_with (fail)
  try rw [hW]
  clear hW
  refine (eqIntS_same (h0.keep hB0).1 (h0'.keep hB0).1 (by omega)).mono ?_
  rintro e w1 ⟨rfl, n1, hw1⟩
  have hb1 : Below W0.heap.size W0 w1 := by rw [hw1]; exact belowDrew _ _
  clear hw1
  have hb01 := hB0.trans (hb1.mono hB0.size)
  have cA1 := rowCells (keepHeap hb1 hA)
  have cB1 := rowCells (keepHeap hb1 hB)
  clear cA cB
  go_wp2_with (fail)
  refine (eqIntS_same (h0.keep hb01).2 (h0'.keep hb01).2 (by omega)).mono ?_
  rintro e w2 ⟨rfl, n2, hw2⟩
  have hb2 : Below w1.heap.size w1 w2 := by rw [hw2]; exact belowDrew _ _
  clear hw2
  have hb02 := hb01.trans (hb2.mono hb01.size)
  have cA2 := rowCells (keepHeap hb2 (keepHeap hb1 hA))
  have cB2 := rowCells (keepHeap hb2 (keepHeap hb1 hB))
  clear cA1 cB1
  go_wp2_with (fail)
  go_ret
  exact ⟨rfl, hb02⟩
section
variable {H : Type} {enc : TypeId × Value → H} {P : Program} {w : World} {base : Nat} {spare : Nat → Bool} {held : Bool}
theorem open_agg9p {r : Reach} {b0 : Nat} {t : TypeId} {f0 f1 f2 f3 f4 f5 f6 f7 f8 : Field} {v : Value} {d : DataW H} {p : List MemPlace} (hs : P.underlying t = some (.struct #[f0, f1, f2, f3, f4, f5, f6, f7, f8])) (hone : oneCellFields P #[f0, f1, f2, f3, f4, f5, f6, f7, f8] = true) (hC : P.cellsOf t = 9)
    (hv : Value.okWide P w r b0 t v) (h : DataW.Trod enc P w base spare held t v d p) :
    ∃ (v0 v1 v2 v3 v4 v5 v6 v7 v8 : Value) (y0 y1 y2 y3 y4 y5 y6 y7 y8 : DataW H × List MemPlace) (n : Nat), v = .agg #[v0, v1, v2, v3, v4, v5, v6, v7, v8] ∧ d = .agg [y0.1, y1.1, y2.1, y3.1, y4.1, y5.1, y6.1, y7.1, y8.1] ∧ p = y0.2 ++ (y1.2 ++ (y2.2 ++ (y3.2 ++ (y4.2 ++ (y5.2 ++ (y6.2 ++ (y7.2 ++ (y8.2)))))))) ∧
      DataW.trod enc P w base spare held n f0.type [v0] = some y0 ∧ DataW.trod enc P w base spare held n f1.type [v1] = some y1 ∧ DataW.trod enc P w base spare held n f2.type [v2] = some y2 ∧ DataW.trod enc P w base spare held n f3.type [v3] = some y3 ∧ DataW.trod enc P w base spare held n f4.type [v4] = some y4 ∧ DataW.trod enc P w base spare held n f5.type [v5] = some y5 ∧ DataW.trod enc P w base spare held n f6.type [v6] = some y6 ∧ DataW.trod enc P w base spare held n f7.type [v7] = some y7 ∧ DataW.trod enc P w base spare held n f8.type [v8] = some y8 := by
  obtain ⟨cs, rfl, hsz⟩ := okWide_struct hs hv
  obtain ⟨l⟩ := cs
  match l, hsz.trans hC with
  | [c0, c1, c2, c3, c4, c5, c6, c7, c8], _ =>
    obtain ⟨fuel, hf⟩ := h
    obtain ⟨xs, n, _, hx, _, hlen, hg⟩ := DataW.trod_struct hs hf
    obtain ⟨o0, k0⟩ := hone_of hone 0 f0 rfl
    obtain ⟨o1, k1⟩ := hone_of hone 1 f1 rfl
    obtain ⟨o2, k2⟩ := hone_of hone 2 f2 rfl
    obtain ⟨o3, k3⟩ := hone_of hone 3 f3 rfl
    obtain ⟨o4, k4⟩ := hone_of hone 4 f4 rfl
    obtain ⟨o5, k5⟩ := hone_of hone 5 f5 rfl
    obtain ⟨o6, k6⟩ := hone_of hone 6 f6 rfl
    obtain ⟨o7, k7⟩ := hone_of hone 7 f7 rfl
    obtain ⟨o8, k8⟩ := hone_of hone 8 f8 rfl
    match xs, hlen with
    | [y0, y1, y2, y3, y4, y5, y6, y7, y8], _ =>
      simp only [Prod.mk.injEq] at hx
      exact ⟨c0, c1, c2, c3, c4, c5, c6, c7, c8, y0, y1, y2, y3, y4, y5, y6, y7, y8, n, rfl, by simpa using hx.1, by simpa using hx.2, by simpa [Value.cells, o0, k0] using hg 0 f0 rfl, by simpa [Value.cells, o1, k1] using hg 1 f1 rfl, by simpa [Value.cells, o2, k2] using hg 2 f2 rfl, by simpa [Value.cells, o3, k3] using hg 3 f3 rfl, by simpa [Value.cells, o4, k4] using hg 4 f4 rfl, by simpa [Value.cells, o5, k5] using hg 5 f5 rfl, by simpa [Value.cells, o6, k6] using hg 6 f6 rfl, by simpa [Value.cells, o7, k7] using hg 7 f7 rfl, by simpa [Value.cells, o8, k8] using hg 8 f8 rfl⟩
end
set_option maxRecDepth 100000 in
theorem open_packet {H : Type} {enc : TypeId × Value → H} {w : World} {base : Nat} {spare : Nat → Bool} {held : Bool} {r : Reach} {b0 : Nat} {v : Value} {d : DataW H} {q : List MemPlace}
    (hv : Value.okWide Tryz.prog w r b0 52 v) (h : DataW.Trod enc Tryz.prog w base spare held 52 v d q) : ∃ (p : Pk) (vi va : Value), v = .agg (pkC p vi va) ∧ RdP w p vi va ∧ p.sane := by
  obtain ⟨v0, v1, v2, v3, v4, v5, v6, v7, v8, y0, y1, y2, y3, y4, y5, y6, y7, y8, n, rfl, rfl, rfl, h0, h1, h2, h3, h4, h5, h6, h7, h8⟩ := open_agg9p Tryz.underlying52 (by kernel_rfl) (by kernel_rfl) hv h
  obtain ⟨m0, e0, _, _⟩ := DataW.trod_int Tryz.underlying3 h0
  obtain rfl : v0 = .int .i64 m0 := by simpa using e0
  obtain ⟨m1, e1, _, _⟩ := DataW.trod_int Tryz.underlying3 h1
  obtain rfl : v1 = .int .i64 m1 := by simpa using e1
  obtain ⟨m2, e2, _, _⟩ := DataW.trod_int Tryz.underlying3 h2
  obtain rfl : v2 = .int .i64 m2 := by simpa using e2
  obtain ⟨l3, r3, s3⟩ := rdI_of_trod h3
  obtain ⟨l4, r4, s4⟩ := rdI_of_trod h4
  obtain ⟨m5, e5, _, _⟩ := DataW.trod_int Tryz.underlying3 h5
  obtain rfl : v5 = .int .i64 m5 := by simpa using e5
  obtain ⟨m6, e6, _, _⟩ := DataW.trod_int Tryz.underlying3 h6
  obtain rfl : v6 = .int .i64 m6 := by simpa using e6
  obtain ⟨m7, e7, _, _⟩ := DataW.trod_int Tryz.underlying3 h7
  obtain rfl : v7 = .int .i64 m7 := by simpa using e7
  obtain ⟨m8, e8, _, _⟩ := DataW.trod_int Tryz.underlying3 h8
  obtain rfl : v8 = .int .i64 m8 := by simpa using e8
  exact ⟨⟨m0, m1, m2, l3, l4, m5, m6, m7, m8⟩, v3, v4, rfl, ⟨r3, r4⟩, s3, s4⟩
end Go.Proofs.YtiidocjpeepheaaGreatDoor
