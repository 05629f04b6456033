/-
  Alarms as the laws hand them over: szAlarm, toAlarm, eqAlarm, markAlarm, heldAlarm; an alarm that came in, opened. Lists of at most 2^20.
-/
import Derived.Test.YtikaiimafliceaaDoorLevel
import Derived.Test.YtikaiimafliceaaDoorCap
import Derived.Test.YtikaiimafliceaaDoorMarkL
import Derived.Test.YtikaiimafliceaaDoorOpenS
import Derived.Deep.Cut
import Derived.Deep.CutBlock
namespace Go.Proofs.YtikaiimafliceaaDoor
open Go.RowKit Go.Joins Go.ChangeShapes Go.WideShapes Go.Deep
set_option linter.all false
/-- An alarm's cells, its parts' slice given. -/
def alC (t : Int) (v : Value) : Array Value := #[.int .i64 t, v]
theorem loadAl {W : World} {k : Nat} {xs : Array Value} (h : W.heap[k]? = some (.cells xs 27 (0, 0))) (hn : xs.size = 2) : (loadVar 27 ⟨k, 0, none⟩).run Tryd.prog W = .ok (.agg xs) W :=
  run_loadVar_row W _ _ _ _ _ _ h Tryd.underlying27 rfl (by rw [hn]; kernel_rfl)
theorem setHAl {w : World} {c k : Nat} {v : Value} {l : List Value} {T : TypeId} (h : w.heap[c]? = some (.cells ⟨l⟩ T (0, 0))) : (w.setCell ⟨c, k, none⟩ v).heap[c]? = some (.cells ⟨l.set k v⟩ T (0, 0)) := by
  rw [setHeap h]; simp
/-- A whole one is stored. -/
def boxAl (w : World) (c : Nat) (t : Int) (v : Value) : World := (w.setCell ⟨c, 0, none⟩ (.int .i64 t)).setCell ⟨c, 1, none⟩ v
theorem boxAl_heap {w : World} {c : Nat} {cs : Array Value} {T : TypeId} (h : w.heap[c]? = some (.cells cs T (0, 0))) (hn : cs.size = 2) (t : Int) (v : Value) : (boxAl w c t v).heap[c]? = some (.cells #[.int .i64 t, v] T (0, 0)) := by
  obtain ⟨l⟩ := cs
  match l, hn with
  | [a0, a1], _ =>
    have h0 := h
    have h1 := setHAl (k := 0) (v := .int .i64 t) h0
    have h2 := setHAl (k := 1) (v := v) h1
    exact h2
theorem boxAl_far {w : World} {c k : Nat} {o : Obj} (h : w.heap[k]? = some o) (hk : k ≠ c) (t : Int) (v : Value) : (boxAl w c t v).heap[k]? = some o := by
  unfold boxAl
  repeat (refine farHeap ?_ hk _)
  exact h
theorem boxAl_below {B : Nat} {w0 w : World} {c : Nat} (h : Below B w0 w) (hc : B ≤ c) (t : Int) (v : Value) : Below B w0 (boxAl w c t v) := by
  unfold boxAl
  repeat (refine Below.setCell ?_ (by simpa using hc) _)
  exact h
set_option maxHeartbeats 1000000 in
theorem szAlarm_any {w : World} {t : Int} {v : Value} {ls : List (List UInt8)} (h : RdS w v ls) (hs : Sane ls) (left : Int) (hl0 : 0 ≤ left) (hl1 : left ≤ 1048576) :
    Calls Tryd.prog 11 #[.agg (alC t v), .int .i64 left] w (SzBelow left ls.length (totalS ls) w) := by
  have hk := h.keep ((Below.refl _ _).alloc (Nat.le_refl _) (.cells #[.int .i64 t, v] 32))
  have hS := szStringS_any hk hs left hl0 hl1
  obtain ⟨a, cap, rfl, _⟩ := h
  unfold alC
  go_enter Tryd.func11, Tryd.ntmps11
  go_wp2_with (fail)
  refine hS.mono ?_
  rintro e w1 ⟨r, rfl, hr, rfl⟩
  rcases hr with rfl | ⟨hr0, hr1⟩
  · go_wp2_with (fail)
    go_ret
    exact ⟨-1, rfl, .inl rfl, (Below.refl _ _).alloc (Nat.le_refl _) _⟩
  · have z1 : decide (r < 0) = false := by simpa using hr0
    have HR := Lib.hid hr1
    clear hr1
    go_wp2_with (fail)
    go_ret
    exact ⟨r, rfl, .inr ⟨hr0, HR.out⟩, (Below.refl _ _).alloc (Nat.le_refl _) _⟩
/-- What toAlarm leaves: rows of the call's own, no longer than their room. -/
def RetAl (w : World) (t : Int) (xs : List (List UInt8)) (e : Ending) (w' : World) : Prop := ∃ v, e = .returned (.agg (alC t v)) ∧ WrS w' w.heap.size v xs ∧ Below w.heap.size w w' ∧ CapOk v
set_option maxHeartbeats 1000000 in
theorem toAlarm_any {w : World} {t : Int} {v : Value} {xs : List (List UInt8)} (h : RdS w v xs) (hn : xs.length ≤ 1099511627776) :
    Calls Tryd.prog 13 #[.agg (alC t v)] w (RetAl w t xs) := by
  obtain ⟨a, cap, rfl, h0⟩ := id h
  unfold alC
  obtain ⟨W0, hW, hA, hB, hC, hB0, hS0⟩ := rows3 w #[.int .i64 t, .slice a xs.length cap] #[.int .i64 0, .slice none 0 0] #[.int .i64 0, .slice none 0 0] 32 27 27
  have cA := rowCells hA
  have cC := rowCells hC
  have fC := fun j => frozenHeap hC j
  have hC1 := setHAl (k := 0) (v := .int .i64 t) hC
  have hA1 := farHeap (p := ⟨w.heap.size + 1 + 1, 0, none⟩) hA (by simp; omega) (.int .i64 t)
  have hB1 := farHeap (p := ⟨w.heap.size + 1 + 1, 0, none⟩) hB (by simp) (.int .i64 t)
  have hb1 := hB0.setCell (p := ⟨w.heap.size + 1 + 1, 0, none⟩) (by simp; omega) (.int .i64 t)
  obtain ⟨W1, hW1⟩ : ∃ W1, W1 = W0.setCell ⟨w.heap.size + 1 + 1, 0, none⟩ (.int .i64 t) := ⟨_, rfl⟩
  rw [← hW1] at hC1 hA1 hB1 hb1
  have hs1 : W1.heap.size = W0.heap.size := by rw [hW1]; simp
  go_enter Tryd.func13, Tryd.ntmps13
  go_upto_region 3 with (fail)
  try rw [hW]
  clear hW
  try rw [← hW1]
  clear hW1 hA hB hC cA cC fC
  have cA1 := rowCells hA1
  go_wp2_with (fail)
  refine (toStringS_cap (h.keep hb1) hn).mono ?_
  rintro e w1 ⟨v1, rfl, hv, hb2, hcp⟩
  have hB2 := keepHeap hb2 hB1
  have hC2 := keepHeap hb2 hC1
  have cC := rowCells hC2
  have cB := rowCells hB2
  have fC := fun j => frozenHeap hC2 j
  have fB := fun j => frozenHeap hB2 j
  clear cA1
  obtain ⟨a1, c1, rfl, hv1⟩ := id hv
  go_wp2_with (fail)
  have hC3 := setHAl (k := 1) (v := .slice a1 xs.length c1) hC2
  have hB3 := farHeap (p := ⟨w.heap.size + 1 + 1, 1, none⟩) hB2 (by simp) (.slice a1 xs.length c1)
  refine bodyPost_ret (results_cell_row rfl _ _ (w.heap.size + 1) 27 #[.int .i64 t, .slice a1 xs.length c1] (0, 0) ?d ?hp ?hg ?hu ?hd ?hi) rfl ?_
  case hp => rfl
  case hg => exact boxAl_heap hB3 rfl t (.slice a1 xs.length c1)
  case hu => exact Tryd.underlying27
  case hd => rfl
  case hi => kernel_rfl
  have hv2 := ((hv.far (p := ⟨w.heap.size + 1 + 1, 1, none⟩) (by simp; omega) (.slice a1 xs.length c1)).far (p := ⟨w.heap.size + 1, 0, none⟩) (by simp; omega) (.int .i64 t)).far (p := ⟨w.heap.size + 1, 1, none⟩) (by simp; omega) (.slice a1 xs.length c1)
  exact ⟨_, rfl, hv2.up (by omega), boxAl_below ((hb1.trans (hb2.mono (by omega))).setCell (p := ⟨w.heap.size + 1 + 1, 1, none⟩) (by simp; omega) (.slice a1 xs.length c1)) (by omega) t (.slice a1 xs.length c1), hcp⟩
set_option maxHeartbeats 1000000 in
theorem eqAlarm_same {w : World} {t : Int} {v v' : Value} {xs : List (List UInt8)} (h : RdS w v xs) (h' : RdS w v' xs) (hn : xs.length ≤ 1099511627776) :
    Calls Tryd.prog 14 #[.agg (alC t v), .agg (alC t v')] w fun e w' => e = .returned (.bool true) ∧ Below w.heap.size w w' := by
  obtain ⟨a, cap, rfl, h0⟩ := id h
  obtain ⟨a', cap', rfl, h0'⟩ := id h'
  unfold alC
  have hb : Below w.heap.size w ((w.alloc (.cells #[.int .i64 t, .slice a xs.length cap] 27)).alloc (.cells #[.int .i64 t, .slice a' xs.length cap'] 27)) := ((Below.refl _ _).alloc (Nat.le_refl _) _).alloc (by simp) _
  go_enter Tryd.func14, Tryd.ntmps14
  go_wp2_with (fail)
  refine (eqStringS_same (h.keep hb) (h'.keep hb) hn).mono ?_
  rintro e w1 ⟨rfl, n, rfl⟩
  go_wp2_with (fail)
  go_ret
  exact ⟨rfl, hb.trans ⟨rfl, rfl, rfl, Nat.le_refl _, fun _ _ => rfl⟩⟩
set_option maxHeartbeats 1000000 in
theorem markAlarm_far {w : World} {B T : Nat} {t : Int} {v : Value} {xs : List (List UInt8)} (h : WrS w B v xs) (hT : LowS T v xs) (hTw : T ≤ w.heap.size) (hB0 : B ≤ w.heap.size) (hn : xs.length ≤ 1099511627776) (k0 : Nat) (h0 : 0 < k0) (h1 : k0 ≤ 1099511627776) :
    Calls Tryd.prog 16 #[.agg (alC t v), .int .i64 (k0 : Int)] w (RetMarkT w B T v xs.length k0) := by
  obtain ⟨a, cap, rfl, -⟩ := id h
  unfold alC
  obtain ⟨W1, hW, hA1, hb1⟩ : ∃ W1, w.alloc (.cells #[.int .i64 t, .slice a xs.length cap] 27) = W1 ∧ W1.heap[w.heap.size]? = some (.cells #[.int .i64 t, .slice a xs.length cap] 27 (0, 0)) ∧ Below w.heap.size w W1 := ⟨_, rfl, heap_alloc_new w _, below1 _ _⟩
  have cA1 := rowCells hA1
  have hs1 := hb1.size
  have hw1 := h.keep hb1
  go_enter Tryd.func16, Tryd.ntmps16
  go_wp2_with (fail)
  clear hW
  refine (markStringS_far hw1 hT (by omega) hn k0 h0 h1).mono ?_
  rintro e w2 ⟨rfl, wr2, hb2, hf2⟩
  go_wp2_with (fail)
  go_ret
  exact ⟨rfl, wr2, (hb1.mono hB0).trans hb2, fun j hj1 hj2 => (hf2 j hj1 (by omega)).trans (hb1.block j hj2)⟩
set_option maxHeartbeats 1000000 in
theorem heldAlarm_any {w : World} {t : Int} {v : Value} (n : Nat) (k0 : Nat) (h : RdS w v (marksT k0 n)) (hn : n ≤ 1099511627776) (h0 : 0 < k0) (h1 : k0 ≤ 1099511627776) :
    Calls Tryd.prog 17 #[.agg (alC t v), .int .i64 (k0 : Int)] w fun e w' => e = .returned (.int .i64 ((k0 + n : Nat) : Int)) ∧ Below w.heap.size w w' := by
  obtain ⟨a, cap, rfl, -⟩ := id h
  unfold alC
  obtain ⟨m, hm⟩ : ∃ m, m = (marksT k0 n).length := ⟨_, rfl⟩
  rw [← hm] at h ⊢
  obtain ⟨W1, hW, hA1, hb1⟩ : ∃ W1, w.alloc (.cells #[.int .i64 t, .slice a m cap] 27) = W1 ∧ W1.heap[w.heap.size]? = some (.cells #[.int .i64 t, .slice a m cap] 27 (0, 0)) ∧ Below w.heap.size w W1 := ⟨_, rfl, heap_alloc_new w _, below1 _ _⟩
  have cA1 := rowCells hA1
  have hs1 := hb1.size
  have r1 := h.keep hb1
  obtain ⟨q, hq⟩ : ∃ q : Nat, q = k0 + n := ⟨_, rfl⟩
  have hC := heldStringS_any n k0 r1 hn h0 h1
  rw [← hq] at hC ⊢
  have zq : decide ((q : Int) < 0) = false := by simp
  clear hm hq
  go_enter Tryd.func17, Tryd.ntmps17
  go_wp2_with (fail)
  clear hW
  refine hC.mono ?_
  rintro e w2 ⟨rfl, hb2⟩
  go_wp2_with (fail)
  go_ret
  exact ⟨rfl, hb1.trans (hb2.mono hs1)⟩
set_option maxRecDepth 100000 in
theorem open_alarm {H : Type} {enc : TypeId × Value → H} {w : World} {base : Nat} {spare : Nat → Bool} {held : Bool} {r : Reach} {b0 : Nat} {v : Value} {d : DataW H} {p : List MemPlace}
    (hv : Value.okWide Tryd.prog w r b0 32 v) (h : DataW.Trod enc Tryd.prog w base spare held 32 v d p) : ∃ (t : Int) (v0 : Value) (ls : List (List UInt8)), v = .agg (alC t v0) ∧ (Lit.int .i64 t).wf = true ∧ RdS w v0 ls ∧ Sane ls := by
  obtain ⟨cs, rfl, hsz⟩ := okWide_struct Tryd.underlying32 hv
  have hC : Tryd.prog.cellsOf 32 = 2 := by kernel_rfl
  obtain ⟨l⟩ := cs
  match l, hsz.trans hC with
  | [c0, c1], _ =>
    obtain ⟨fuel, hf⟩ := h
    obtain ⟨xs, n, _, hx, _, hlen, hg⟩ := DataW.trod_struct Tryd.underlying32 hf
    match xs, hlen with
    | [y0, y1], _ =>
      have g0 := hg 0 _ rfl
      have g1 := hg 1 _ rfl
      have hc0 : Tryd.prog.cellsOf 3 = 1 := by kernel_rfl
      have hcs : Tryd.prog.cellsOf 25 = 1 := by kernel_rfl
      have h0 : DataW.trod enc Tryd.prog w base spare held n 3 [c0] = some y0 := by simpa [Value.cells, hc0] using g0
      have h1 : DataW.trod enc Tryd.prog w base spare held n 25 [c1] = some y1 := by simpa [Value.cells, hcs, hc0] using g1
      obtain ⟨m0, e0, -, w0⟩ := DataW.trod_int Tryd.underlying3 h0
      obtain rfl : c0 = .int .i64 m0 := by simpa using e0
      obtain ⟨ls, r1, r2⟩ := rdS_of_trod h1
      exact ⟨m0, c1, ls, rfl, w0, r1, r2⟩
end Go.Proofs.YtikaiimafliceaaDoor
