/-
  Wires as the laws hand them over: szWire, toWire, eqWire; a wire that came in, opened. Lists of at most 2^20.
-/
import Derived.Test.YteafgghpkohfpabFls
import Derived.Deep.Cut
import Derived.Deep.CutBlock
namespace Go.Proofs.Yteafgghpkohfpab
open Go.RowKit Go.Joins Go.ChangeShapes Go.WideShapes Go.Deep
set_option linter.all false
structure Wi where
  seed : Int
  delay : Int
  jitter : Int
  loss : Int
  copies : Int
  damage : Int
  now : Int
  fls : List Fl
  sent : Int
  lost : Int
def Wi.sane (x : Wi) : Prop := x.fls.length ≤ 9223372036854775807 ∧ ∀ f ∈ x.fls, f.fits
def Wi.few (x : Wi) : Prop := x.fls.length ≤ 1048576 ∧ ∀ f ∈ x.fls, f.data.length ≤ 1048576
/-- A wire's cells, its list's slice given. -/
def wiC (x : Wi) (vf : Value) : Array Value := #[.int .i64 x.seed, .int .i64 x.delay, .int .i64 x.jitter, .int .i64 x.loss, .int .i64 x.copies, .int .i64 x.damage, .int .i64 x.now, vf, .int .i64 x.sent, .int .i64 x.lost]
def SzF (left : Int) (X : List Fl) (w : World) (e : Ending) (w' : World) : Prop := ∃ r : Int, e = .returned (.int .i64 r) ∧ (r = -1 ∨ (0 ≤ r ∧ r ≤ 1048576 ∧ X.length ≤ 1048576 ∧ ∀ f ∈ X, f.data.length ≤ 1048576)) ∧ Below w.heap.size w w'
theorem szFlight_any (q : Fl) (left : Int) (hl : q.data.length ≤ 9223372036854775807) (h0 : 0 ≤ left) (h1 : left ≤ 1048576) (w : World) :
    Calls Try.prog 82 #[flV q, .int .i64 left] w fun e w' => (∃ r : Int, e = .returned (.int .i64 r) ∧ (r = -1 ∨ (0 ≤ r ∧ r ≤ left ∧ q.data.length ≤ 1048576))) ∧ Below w.heap.size w w' := by
  unfold flV
  have hlc : (q.data.length : Int) ≤ 9223372036854775807 := by omega
  by_cases hneg : left - (q.data.length : Int) < 0
  · have z1 : decide (left - (q.data.length : Int) < 0) = true := by simpa using hneg
    go_enter Try.func82, Try.ntmps82
    go_wp2_with (fail)
    go_ret
    exact ⟨⟨-1, rfl, .inl rfl⟩, below1 _ _⟩
  · have z1 : decide (left - (q.data.length : Int) < 0) = false := by simpa using hneg
    go_enter Try.func82, Try.ntmps82
    go_wp2_with (fail)
    go_ret
    exact ⟨⟨_, rfl, .inr ⟨by omega, by omega, by omega⟩⟩, below1 _ _⟩
set_option maxRecDepth 100000 in
set_option maxHeartbeats 1000000 in
theorem szFlightS_any {w : World} {v : Value} {X : List Fl} (h : RdFl w v X) (hs : X.length ≤ 9223372036854775807) (hf : ∀ f ∈ X, f.fits) (left : Int) (hl0 : 0 ≤ left) (hl1 : left ≤ 1048576) :
    Calls Try.prog 54 #[v, .int .i64 left] w (SzF left X w) := by
  obtain ⟨a, cap, rfl, h⟩ := h
  have hlc : (X.length : Int) ≤ 9223372036854775807 := by omega
  by_cases hneg : left - (X.length : Int) < 0
  · have z1 : decide (left - (X.length : Int) < 0) = true := by simpa using hneg
    go_enter Try.func54, Try.ntmps54
    go_wp2_with (fail)
    go_ret
    exact ⟨-1, rfl, .inl rfl, Below.refl _ _⟩
  · have z1 : decide (left - (X.length : Int) < 0) = false := by simpa using hneg
    have hX : X.length ≤ 1048576 := by omega
    go_enter Try.func54, Try.ntmps54
    go_wp2_with (fail)
    go_loopw [1, 5] (fun l i wr => ∃ (k : Nat) (m : Int), k ≤ X.length ∧ i = .int .i64 (k : Int) ∧ l = .int .i64 m ∧ 0 ≤ m ∧ m ≤ 1048576 ∧ Below w.heap.size w wr ∧ Hid (∀ j (hj : j < X.length), j < k → X[j].data.length ≤ 1048576)) (fun _ i _ => X.length - (intOf i).toNat)
    case atStart => exact ⟨0, left - (X.length : Int), Nat.zero_le _, rfl, rfl, by omega, by omega, Below.refl _ _, Lib.hid (fun j hj h => by omega)⟩
    case round =>
      obtain ⟨k, m, hk, rfl, rfl, hm0, hm1, hbel, HA⟩ := hrel
      by_cases hkl : k < X.length
      · obtain ⟨b, off, rfl, hc⟩ := h.resolve_left (by intro e; rw [e] at hkl; simp at hkl)
        have c0 := hc k hkl
        have c1 : wr.rangeAt b (off + k * 2) (flL X[k]) := rangeKeep c0 hbel (rangeFl c0)
        have hkk : (k : Int) < (X.length : Int) := by omega
        have hq := (hf X[k] (List.getElem_mem _)).2
        obtain ⟨x, hx⟩ : ∃ x, x = X[k] := ⟨_, rfl⟩
        rw [← hx] at c1 hq
        have HX := Lib.hid hx
        have hS := fun W => szFlight_any x m hq hm0 hm1 W
        unfold flV at hS
        obtain ⟨d0, d1⟩ := cellsFl c1
        clear hc c0 hx c1 h
        go_wp2_with (fail)
        refine (hS _).mono ?_
        rintro e w1 ⟨⟨r, rfl, hr⟩, hb1⟩
        have hbel1 := hbel.trans (hb1.mono hbel.size)
        rcases hr with rfl | ⟨hr0, hr1, hr2⟩
        · go_wp2_with (fail)
          go_ret
          exact ⟨-1, rfl, .inl rfl, hbel1⟩
        · have z2 : decide (r < 0) = false := by simpa using hr0
          go_wp2_with (fail)
          go_roundw
          case rel =>
            refine ⟨k + 1, r, by omega, by go_num, rfl, hr0, by omega, hbel1, Lib.hid (fun j hj hl => ?_)⟩
            by_cases e : j = k
            · subst e; rw [← HX.out]; exact hr2
            · exact HA.out j hj (by omega)
          case measure => simp [intOf]; omega
      · go_wp2_with (fail)
        go_ret
        refine ⟨m, rfl, .inr ⟨hm0, hm1, hX, fun f hf' => ?_⟩, hbel⟩
        obtain ⟨j, hj, rfl⟩ := List.getElem_of_mem hf'
        exact HA.out j hj (by omega)
/-- The slice reads as the wire's flights. -/
def RdWi (w : World) (x : Wi) (vf : Value) : Prop := RdFl w vf x.fls
def SzWi (x : Wi) (w : World) (e : Ending) (w' : World) : Prop := ∃ r : Int, e = .returned (.int .i64 r) ∧ (r = -1 ∨ (0 ≤ r ∧ x.few)) ∧ Below w.heap.size w w'
set_option maxHeartbeats 1000000 in
theorem szWire_any {w : World} {x : Wi} {vf : Value} (h : RdFl w vf x.fls) (hs : x.sane) (left : Int) (hl0 : 0 ≤ left) (hl1 : left ≤ 1048576) :
    Calls Try.prog 24 #[.agg (wiC x vf), .int .i64 left] w (SzWi x w) := by
  obtain ⟨hs1, hs2⟩ := hs
  have h0 := h
  obtain ⟨al, cl, rfl, -⟩ := id h
  unfold wiC
  obtain ⟨W0, hW, hA, hB0, hS0⟩ := rows1 w #[.int .i64 x.seed, .int .i64 x.delay, .int .i64 x.jitter, .int .i64 x.loss, .int .i64 x.copies, .int .i64 x.damage, .int .i64 x.now, .slice al x.fls.length cl, .int .i64 x.sent, .int .i64 x.lost] 48
  have cA := rowCells hA
  have hS := szFlightS_any (h0.keep hB0) hs1 hs2 left hl0 hl1
  go_enter Try.func24, Try.ntmps24
  go_wp2_with (fail)
  try rw [hW]
  clear hW
  refine hS.mono ?_
  rintro e w1 ⟨r, rfl, hr, hb1⟩
  have hb01 := hB0.trans (hb1.mono hB0.size)
  clear cA
  rcases hr with rfl | ⟨hr0, hr1, hr2, hr3⟩
  · go_wp2_with (fail)
    go_ret
    exact ⟨-1, rfl, .inl rfl, hb01⟩
  · have z1 : decide (r < 0) = false := by simpa using hr0
    go_wp2_with (fail)
    go_ret
    exact ⟨r, rfl, .inr ⟨hr0, hr2, hr3⟩, hb01⟩
theorem load_wi {W : World} {k : Nat} {xs : Array Value} (h : W.heap[k]? = some (.cells xs 52 (0, 0))) (hn : xs.size = 10) : (loadVar 52 ⟨k, 0, none⟩).run Try.prog W = .ok (.agg xs) W :=
  run_loadVar_row W _ _ _ _ _ _ h Try.underlying52 rfl (by rw [hn]; kernel_rfl)
theorem setHf {w : World} {c k : Nat} {v : Value} {l : List Value} {T : TypeId} (h : w.heap[c]? = some (.cells ⟨l⟩ T (0, 0))) : (w.setCell ⟨c, k, none⟩ v).heap[c]? = some (.cells ⟨l.set k v⟩ T (0, 0)) := by
  rw [setHeap h]; simp
/-- A whole wire is stored. -/
def putWi (w : World) (c : Nat) (x : Wi) (vf : Value) : World := (((((((((w.setCell ⟨c, 0, none⟩ (.int .i64 x.seed)).setCell ⟨c, 1, none⟩ (.int .i64 x.delay)).setCell ⟨c, 2, none⟩ (.int .i64 x.jitter)).setCell ⟨c, 3, none⟩ (.int .i64 x.loss)).setCell ⟨c, 4, none⟩ (.int .i64 x.copies)).setCell ⟨c, 5, none⟩ (.int .i64 x.damage)).setCell ⟨c, 6, none⟩ (.int .i64 x.now)).setCell ⟨c, 7, none⟩ vf).setCell ⟨c, 8, none⟩ (.int .i64 x.sent)).setCell ⟨c, 9, none⟩ (.int .i64 x.lost)
set_option maxHeartbeats 1000000 in
theorem putWi_heap {w : World} {c : Nat} {cs : Array Value} (h : w.heap[c]? = some (.cells cs 52 (0, 0))) (hn : cs.size = 10) (x : Wi) (vf : Value) : (putWi w c x vf).heap[c]? = some (.cells (wiC x vf) 52 (0, 0)) := by
  obtain ⟨l⟩ := cs
  match l, hn with
  | [a0, a1, a2, a3, a4, a5, a6, a7, a8, a9], _ =>
    have h0 := h
    have h1 := setHf (k := 0) (v := (.int .i64 x.seed)) h0
    have h2 := setHf (k := 1) (v := (.int .i64 x.delay)) h1
    have h3 := setHf (k := 2) (v := (.int .i64 x.jitter)) h2
    have h4 := setHf (k := 3) (v := (.int .i64 x.loss)) h3
    have h5 := setHf (k := 4) (v := (.int .i64 x.copies)) h4
    have h6 := setHf (k := 5) (v := (.int .i64 x.damage)) h5
    have h7 := setHf (k := 6) (v := (.int .i64 x.now)) h6
    have h8 := setHf (k := 7) (v := vf) h7
    have h9 := setHf (k := 8) (v := (.int .i64 x.sent)) h8
    have h10 := setHf (k := 9) (v := (.int .i64 x.lost)) h9
    exact h10
theorem putWi_far {w : World} {c k : Nat} {o : Obj} (h : w.heap[k]? = some o) (hk : k ≠ c) (x : Wi) (vf : Value) : (putWi w c x vf).heap[k]? = some o := by
  unfold putWi
  repeat (refine farHeap ?_ hk _)
  exact h
theorem putWi_below {B : Nat} {w0 w : World} {c : Nat} (h : Below B w0 w) (hc : B ≤ c) (x : Wi) (vf : Value) : Below B w0 (putWi w c x vf) := by
  unfold putWi
  repeat (refine Below.setCell ?_ (by simpa using hc) _)
  exact h
theorem putWi_own {w : World} {c B : Nat} {v : Value} {X : List Fl} (h : OwnFl w B v X) (hc : c < B) (x : Wi) (vf : Value) : OwnFl (putWi w c x vf) B v X := by
  unfold putWi
  repeat (refine OwnFl.far ?_ (by simpa using hc) _)
  exact h
def RetWi (w : World) (x : Wi) (e : Ending) (w' : World) : Prop := ∃ vf, e = .returned (.agg (wiC x vf)) ∧ OwnFl w' w.heap.size vf x.fls ∧ CapI vf ∧ Below w.heap.size w w'
set_option maxRecDepth 100000 in
set_option maxHeartbeats 4000000 in
theorem toWire_any {w : World} {x : Wi} {vf : Value} (h : RdFl w vf x.fls) (hn : x.few) :
    Calls Try.prog 26 #[.agg (wiC x vf)] w (RetWi w x) := by
  obtain ⟨hn1, hn2⟩ := hn
  have h0 := h
  obtain ⟨al, cl, rfl, -⟩ := id h
  obtain ⟨W0, hW, hA, hC, hT, hB0, hS0⟩ := rows3 w #[.int .i64 x.seed, .int .i64 x.delay, .int .i64 x.jitter, .int .i64 x.loss, .int .i64 x.copies, .int .i64 x.damage, .int .i64 x.now, .slice al x.fls.length cl, .int .i64 x.sent, .int .i64 x.lost] #[.int .i64 0, .int .i64 0, .int .i64 0, .int .i64 0, .int .i64 0, .int .i64 0, .int .i64 0, .slice none 0 0, .int .i64 0, .int .i64 0] #[.int .i64 x.seed, .int .i64 x.delay, .int .i64 x.jitter, .int .i64 x.loss, .int .i64 x.copies, .int .i64 x.damage, .int .i64 x.now, .slice none 0 0, .int .i64 0, .int .i64 0] 48 52 52
  have cA := rowCells hA
  unfold wiC
  go_enter Try.func26, Try.ntmps26
  go_wp2_with (fail)
  try rw [hW]
  clear hW
  refine (toFlightS_any (h0.keep hB0) hn1).mono ?_
  rintro e w1 ⟨v1, rfl, ho1, hc1, hb1⟩
  have hA1 := keepHeap hb1 hA
  have hC1 := keepHeap hb1 hC
  have hT1 := keepHeap hb1 hT
  have hb01 := hB0.trans (hb1.mono (by omega))
  have fT1 := fun j => frozenHeap hT1 j
  have cT1 := rowCells hT1
  have cA1 := rowCells hA1
  obtain ⟨a1, c1, rfl, -⟩ := id ho1
  have hT4 := setHf (k := 9) (v := .int .i64 x.lost) (setHf (k := 8) (v := .int .i64 x.sent) (setHf (k := 7) (v := .slice a1 x.fls.length c1) hT1))
  have hC4 := farHeap (p := ⟨w.heap.size + 1 + 1, 9, none⟩) (farHeap (p := ⟨w.heap.size + 1 + 1, 8, none⟩) (farHeap (p := ⟨w.heap.size + 1 + 1, 7, none⟩) hC1 (by simp) (.slice a1 x.fls.length c1)) (by simp) (.int .i64 x.sent)) (by simp) (.int .i64 x.lost)
  have hTB : ∀ j : Nat, w.heap.size ≤ (⟨w.heap.size + 1 + 1, j, none⟩ : Addr).block := fun j => by simp; omega
  have hTW : ∀ j : Nat, (⟨w.heap.size + 1 + 1, j, none⟩ : Addr).block < W0.heap.size := fun j => by simp; omega
  have hb04 := ((hb01.setCell (hTB 7) (.slice a1 x.fls.length c1)).setCell (hTB 8) (.int .i64 x.sent)).setCell (hTB 9) (.int .i64 x.lost)
  have ho4 := ((ho1.far (hTW 7) (.slice a1 x.fls.length c1)).far (hTW 8) (.int .i64 x.sent)).far (hTW 9) (.int .i64 x.lost)
  clear cA hA hC hT hb1 hA1 hC1 hT1 ho1 hb01
  go_upto_region 12 with (fail)
  generalize ((w1.setCell ⟨w.heap.size + 1 + 1, 7, none⟩ (.slice a1 x.fls.length c1)).setCell ⟨w.heap.size + 1 + 1, 8, none⟩ (.int .i64 x.sent)).setCell ⟨w.heap.size + 1 + 1, 9, none⟩ (.int .i64 x.lost) = W4 at *
  have hT4 : W4.heap[w.heap.size + 1 + 1]? = some (.cells #[.int .i64 x.seed, .int .i64 x.delay, .int .i64 x.jitter, .int .i64 x.loss, .int .i64 x.copies, .int .i64 x.damage, .int .i64 x.now, .slice a1 x.fls.length c1, .int .i64 x.sent, .int .i64 x.lost] 52 (0, 0)) := hT4
  have cT4 := rowCells hT4
  have cC4 := rowCells hC4
  have fC4 := fun j => frozenHeap hC4 j
  clear cA1 cT1 fT1
  go_wp2_with (fail)
  have hP := putWi_heap hC4 rfl x (.slice a1 x.fls.length c1)
  have hbP := putWi_below hb04 (c := w.heap.size + 1) (by omega) x (.slice a1 x.fls.length c1)
  have hoP := putWi_own (c := w.heap.size + 1) ho4 (by omega) x (.slice a1 x.fls.length c1)
  unfold putWi at hP hbP hoP
  refine bodyPost_ret (results_cell_row rfl _ _ (w.heap.size + 1) 52 (wiC x (.slice a1 x.fls.length c1)) (0, 0) ?d ?hp ?hg ?hu ?hd ?hi) rfl ?_
  case hp => rfl
  case hg => exact hP
  case hu => exact Try.underlying52
  case hd => rfl
  case hi => kernel_rfl
  exact ⟨_, rfl, hoP.up (by omega), hc1, hbP⟩
set_option maxHeartbeats 2000000 in
theorem eqWire_same {w : World} {x : Wi} {vf vf' : Value} (h : RdFl w vf x.fls) (h' : RdFl w vf' x.fls) (hn : x.few) :
    Calls Try.prog 28 #[.agg (wiC x vf), .agg (wiC x vf')] w fun e w' => e = .returned (.bool true) ∧ Below w.heap.size w w' := by
  obtain ⟨hn1, hn2⟩ := hn
  have h0 := h
  have h0' := h'
  obtain ⟨al, cl, rfl, -⟩ := id h
  obtain ⟨al', cl', rfl, -⟩ := id h'
  unfold wiC
  obtain ⟨W0, hW, hA, hB, hB0, hS0⟩ := rows2 w #[.int .i64 x.seed, .int .i64 x.delay, .int .i64 x.jitter, .int .i64 x.loss, .int .i64 x.copies, .int .i64 x.damage, .int .i64 x.now, .slice al x.fls.length cl, .int .i64 x.sent, .int .i64 x.lost] #[.int .i64 x.seed, .int .i64 x.delay, .int .i64 x.jitter, .int .i64 x.loss, .int .i64 x.copies, .int .i64 x.damage, .int .i64 x.now, .slice al' x.fls.length cl', .int .i64 x.sent, .int .i64 x.lost] 52 52
  have cA := rowCells hA
  have cB := rowCells hB
  go_enter Try.func28, Try.ntmps28
  go_wp2_with (fail)
  try rw [hW]
  clear hW
  refine (eqFlightS_same (h0.keep hB0) (h0'.keep hB0) hn1).mono ?_
  rintro e w1 ⟨rfl, hb1⟩
  have hb01 := hB0.trans (hb1.mono hB0.size)
  have cA1 := rowCells (keepHeap hb1 hA)
  have cB1 := rowCells (keepHeap hb1 hB)
  clear cA cB
  go_wp2_with (fail)
  go_ret
  exact ⟨rfl, hb01⟩
section
variable {H : Type} {enc : TypeId × Value → H} {P : Program} {w : World} {base : Nat} {spare : Nat → Bool} {held : Bool}
theorem open_agg10 {r : Reach} {b0 : Nat} {t : TypeId} {f0 f1 f2 f3 f4 f5 f6 f7 f8 f9 : Field} {v : Value} {d : DataW H} {p : List MemPlace} (hs : P.underlying t = some (.struct #[f0, f1, f2, f3, f4, f5, f6, f7, f8, f9])) (hone : oneCellFields P #[f0, f1, f2, f3, f4, f5, f6, f7, f8, f9] = true) (hC : P.cellsOf t = 10)
    (hv : Value.okWide P w r b0 t v) (h : DataW.Trod enc P w base spare held t v d p) :
    ∃ (v0 v1 v2 v3 v4 v5 v6 v7 v8 v9 : Value) (y0 y1 y2 y3 y4 y5 y6 y7 y8 y9 : DataW H × List MemPlace) (n : Nat), v = .agg #[v0, v1, v2, v3, v4, v5, v6, v7, v8, v9] ∧
      DataW.trod enc P w base spare held n f0.type [v0] = some y0 ∧ DataW.trod enc P w base spare held n f1.type [v1] = some y1 ∧ DataW.trod enc P w base spare held n f2.type [v2] = some y2 ∧ DataW.trod enc P w base spare held n f3.type [v3] = some y3 ∧ DataW.trod enc P w base spare held n f4.type [v4] = some y4 ∧ DataW.trod enc P w base spare held n f5.type [v5] = some y5 ∧ DataW.trod enc P w base spare held n f6.type [v6] = some y6 ∧ DataW.trod enc P w base spare held n f7.type [v7] = some y7 ∧ DataW.trod enc P w base spare held n f8.type [v8] = some y8 ∧ DataW.trod enc P w base spare held n f9.type [v9] = some y9 := by
  obtain ⟨cs, rfl, hsz⟩ := okWide_struct hs hv
  obtain ⟨l⟩ := cs
  match l, hsz.trans hC with
  | [c0, c1, c2, c3, c4, c5, c6, c7, c8, c9], _ =>
    obtain ⟨fuel, hf⟩ := h
    obtain ⟨xs, n, _, hx, _, hlen, hg⟩ := DataW.trod_struct hs hf
    obtain ⟨o0, k0⟩ := hone_of hone 0 f0 rfl
    obtain ⟨o1, k1⟩ := hone_of hone 1 f1 rfl
    obtain ⟨o2, k2⟩ := hone_of hone 2 f2 rfl
    obtain ⟨o3, k3⟩ := hone_of hone 3 f3 rfl
    obtain ⟨o4, k4⟩ := hone_of hone 4 f4 rfl
    obtain ⟨o5, k5⟩ := hone_of hone 5 f5 rfl
    obtain ⟨o6, k6⟩ := hone_of hone 6 f6 rfl
    obtain ⟨o7, k7⟩ := hone_of hone 7 f7 rfl
    obtain ⟨o8, k8⟩ := hone_of hone 8 f8 rfl
    obtain ⟨o9, k9⟩ := hone_of hone 9 f9 rfl
    match xs, hlen with
    | [y0, y1, y2, y3, y4, y5, y6, y7, y8, y9], _ =>
      exact ⟨c0, c1, c2, c3, c4, c5, c6, c7, c8, c9, y0, y1, y2, y3, y4, y5, y6, y7, y8, y9, n, rfl, by simpa [Value.cells, o0, k0] using hg 0 f0 rfl, by simpa [Value.cells, o1, k1] using hg 1 f1 rfl, by simpa [Value.cells, o2, k2] using hg 2 f2 rfl, by simpa [Value.cells, o3, k3] using hg 3 f3 rfl, by simpa [Value.cells, o4, k4] using hg 4 f4 rfl, by simpa [Value.cells, o5, k5] using hg 5 f5 rfl, by simpa [Value.cells, o6, k6] using hg 6 f6 rfl, by simpa [Value.cells, o7, k7] using hg 7 f7 rfl, by simpa [Value.cells, o8, k8] using hg 8 f8 rfl, by simpa [Value.cells, o9, k9] using hg 9 f9 rfl⟩
end
set_option maxRecDepth 100000 in
theorem open_wire {H : Type} {enc : TypeId × Value → H} {w : World} {base : Nat} {spare : Nat → Bool} {held : Bool} {r : Reach} {b0 : Nat} {v : Value} {d : DataW H} {p : List MemPlace}
    (hv : Value.okWide Try.prog w r b0 48 v) (h : DataW.Trod enc Try.prog w base spare held 48 v d p) : ∃ (x : Wi) (vf : Value), v = .agg (wiC x vf) ∧ RdFl w vf x.fls ∧ x.sane := by
  obtain ⟨v0, v1, v2, v3, v4, v5, v6, v7, v8, v9, y0, y1, y2, y3, y4, y5, y6, y7, y8, y9, n, rfl, h0, h1, h2, h3, h4, h5, h6, h7, h8, h9⟩ := open_agg10 Try.underlying48 (by kernel_rfl) (by kernel_rfl) hv h
  obtain ⟨m0, rfl, _⟩ := intField h0
  obtain ⟨m1, rfl, _⟩ := intField h1
  obtain ⟨m2, rfl, _⟩ := intField h2
  obtain ⟨m3, rfl, _⟩ := intField h3
  obtain ⟨m4, rfl, _⟩ := intField h4
  obtain ⟨m5, rfl, _⟩ := intField h5
  obtain ⟨m6, rfl, _⟩ := intField h6
  obtain ⟨m8, rfl, _⟩ := intField h8
  obtain ⟨m9, rfl, _⟩ := intField h9
  obtain ⟨X, r7, s7, f7⟩ := rdFl_of_trod h7
  exact ⟨⟨m0, m1, m2, m3, m4, m5, m6, X, m8, m9⟩, v7, rfl, r7, s7, f7⟩
end Go.Proofs.Yteafgghpkohfpab
