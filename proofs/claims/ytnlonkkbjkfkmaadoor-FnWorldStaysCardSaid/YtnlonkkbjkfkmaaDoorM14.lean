/-
  Texts of this proof: SolidA, Slide.
-/
import Derived.Test.YtnlonkkbjkfkmaaDoorM13
import Derived.Test.YtnlonkkbjkfkmaaDoorM07
namespace Go.Proofs.YtnlonkkbjkfkmaaDoor
open Go.RowKit
set_option linter.all false
theorem solidB_level {L : Rowz} {x y s : Int} (h : levelB L = false) : solidB L x y s = true := by unfold solidB; rw [h]; rfl
theorem solidB_size {L : Rowz} {x y s : Int} (h : inR s 1 16 = false) : solidB L x y s = true := by unfold solidB; rw [h]; simp
theorem solidB_in {L : Rowz} {x y s : Int} (h : levelB L = true) (h2 : inR s 1 16 = true) : solidB L x y s = blockB L x y s := by unfold solidB; rw [h, h2]; rfl
def I64 (x : Int) : Prop := -9223372036854775808 ≤ x ∧ x ≤ 9223372036854775807
theorem I64.of {x : Int} (h : (Lit.int .i64 x).wf = true) : I64 x := by
 simp only [Lit.wf, Bool.and_eq_true, decide_eq_true_eq] at h
 exact ⟨h.1, h.2⟩
set_option maxHeartbeats 2000000 in
theorem solidAt_impl {w : World} {v : Value} {L : Rowz} (h : RdS w v L) (hs : Sane L) (x y s : Int) (hx : I64 x) (hy : I64 y) :
  Calls Tryd.prog 13 #[.agg #[v], .int .i64 x, .int .i64 y, .int .i64 s] w fun e w' => e = .returned (.bool (solidB L x y s)) ∧ Below w.heap.size w w' := by
 obtain ⟨a, cap, rfl, -⟩ := id h
 obtain ⟨W1, hW, hA1, hb1⟩ : ∃ W1, w.alloc (.cells #[.slice a L.length cap] 26) = W1 ∧ W1.heap[w.heap.size]? = some (.cells #[.slice a L.length cap] 26 (0, 0)) ∧ Below w.heap.size w W1 := ⟨_, rfl, heap_alloc_new w _, below1 _ _⟩
 have cA1 := rowCells hA1
 have r1 := h.keep hb1
 have hs1 := hb1.size
 go_enter Tryd.func13, Tryd.ntmps13
 go_wp2_with (fail)
 clear hW
 refine (levelOk_impl r1 hs).mono ?_
 rintro e w2 ⟨rfl, hb2⟩
 have hb12 := hb1.trans (hb2.mono hs1)
 have cA2 := rowCells (keepHeap hb2 hA1)
 have r2 := h.keep hb12
 have hs2 := hb12.size
 clear cA1
 cases hl : levelB L with
 | false =>
  have HF := Lib.hid (solidB_level (x := x) (y := y) (s := s) hl)
  clear hl
  go_wp2_with (fail)
  go_ret
  exact ⟨by rw [HF.out]; rfl, hb12⟩
 | true =>
  have hg : Good L := levelB_facts hl
  cases hq : inR s 1 16 with
  | false =>
   have HF := Lib.hid (solidB_size (L := L) (x := x) (y := y) hq)
   have Q := Lib.hid hq
   clear hl hq
   go_wp2_with (go_at_call 39; refine (within_impl _ _ _ _).mono ?_; rintro e w3 ⟨rfl, rfl⟩; rw [Q.out])
   go_ret
   exact ⟨by rw [HF.out]; rfl, hb12⟩
  | true =>
   have HF := Lib.hid (solidB_in (x := x) (y := y) hl hq)
   have hq2 := (inR_iff _ _ _).1 hq
   obtain ⟨S, rfl⟩ := Int.eq_ofNat_of_zero_le (a := s) (by omega)
   have Q := Lib.hid hq
   have hS1 : 1 ≤ S := by omega
   have hS2 : S ≤ 16 := by omega
   clear hl hq hq2
   go_wp2_with (go_at_call 39; refine (within_impl _ _ _ _).mono ?_; rintro e w3 ⟨rfl, rfl⟩; rw [Q.out])
   refine (blocked_impl r2 hg x y S hS1 hS2 hx.2 hy.2 hx.1 hy.1).mono ?_
   rintro e w3 ⟨rfl, hb3⟩
   go_wp2_with (fail)
   go_ret
   exact ⟨by rw [HF.out]; rfl, hb12.trans (hb3.mono hs2)⟩
end Go.Proofs.YtnlonkkbjkfkmaaDoor
namespace Go.Proofs.YtnlonkkbjkfkmaaDoor
open Go.RowKit
set_option linter.all false
def slideN (L : Rowz) (S dx dy : Int) : Nat → Int → Int → Int × Int × Bool
 | 0, x, y => (x, y, false)
 | n + 1, x, y => if blockB L (x + dx) (y + dy) S then (x, y, true) else slideN L S dx dy n (x + dx) (y + dy)
def bmv (b : Bd) (x y vx vy : Int) : Array Value := #[.int .i64 b.kind, .int .i64 b.owner, .int .i64 x, .int .i64 y, .int .i64 vx, .int .i64 vy, .int .i64 b.aim, .int .i64 b.life, .int .i64 b.timer]
def bd0 : Array Value := #[.int .i64 0, .int .i64 0, .int .i64 0, .int .i64 0, .int .i64 0, .int .i64 0, .int .i64 0, .int .i64 0, .int .i64 0]
theorem blockB_place {L : Rowz} (hg : Good L) {x y : Int} {S : Nat} (h : blockB L x y (S : Int) = false) : 0 ≤ x ∧ x < 320 ∧ 0 ≤ y ∧ y < 192 := by
 have h0 : 0 ≤ x := by
  apply Classical.byContradiction; intro hn
  rw [blockB_neg (.inl (by omega))] at h; cases h
 have h1 : 0 ≤ y := by
  apply Classical.byContradiction; intro hn
  rw [blockB_neg (.inr (by omega))] at h; cases h
 obtain ⟨X, rfl⟩ := Int.eq_ofNat_of_zero_le h0
 obtain ⟨Y, rfl⟩ := Int.eq_ofNat_of_zero_le h1
 rw [blockB_nat] at h
 obtain ⟨hn3, hn12, hw4, hw20, -⟩ := hg
 have hc : cellN L (Y / 16) (X / 16) = false := by
  cases e : cellN L (Y / 16) (X / 16) with
  | false => rfl
  | true => rw [blockN_hit (.inl rfl) (.inl rfl) e] at h; cases h
 have hr : Y / 16 < L.length := by
  apply Classical.byContradiction; intro hn
  rw [cellN_out (.inl (by omega))] at hc; cases hc
 have hw : X / 16 < wd L := by
  apply Classical.byContradiction; intro hn
  rw [cellN_out (.inr (by omega))] at hc; cases hc
 omega
theorem load_bd {W : World} {k : Nat} {xs : Array Value} (h : W.heap[k]? = some (.cells xs 38 (0, 0))) (hn : xs.size = 9) : (loadVar 38 ⟨k, 0, none⟩).run Tryd.prog W = .ok (.agg xs) W :=
 run_loadVar_row W _ _ _ _ _ _ h Tryd.underlying38 rfl (by rw [hn]; kernel_rfl)
theorem setH {w : World} {c k : Nat} {v : Value} {l : List Value} {T : TypeId} (h : w.heap[c]? = some (.cells ⟨l⟩ T (0, 0))) : (w.setCell ⟨c, k, none⟩ v).heap[c]? = some (.cells ⟨l.set k v⟩ T (0, 0)) := by
 rw [setHeap h]; simp
def putB (w : World) (c : Nat) (b : Bd) (x y vx vy : Int) : World := ((((((((w.setCell ⟨c, 0, none⟩ (.int .i64 b.kind)).setCell ⟨c, 1, none⟩ (.int .i64 b.owner)).setCell ⟨c, 2, none⟩ (.int .i64 x)).setCell ⟨c, 3, none⟩ (.int .i64 y)).setCell ⟨c, 4, none⟩ (.int .i64 vx)).setCell ⟨c, 5, none⟩ (.int .i64 vy)).setCell ⟨c, 6, none⟩ (.int .i64 b.aim)).setCell ⟨c, 7, none⟩ (.int .i64 b.life)).setCell ⟨c, 8, none⟩ (.int .i64 b.timer)
set_option maxHeartbeats 1000000 in
theorem putB_heap {w : World} {c : Nat} {cs : Array Value} (h : w.heap[c]? = some (.cells cs 38 (0, 0))) (hn : cs.size = 9) (b : Bd) (x y vx vy : Int) : (putB w c b x y vx vy).heap[c]? = some (.cells (bmv b x y vx vy) 38 (0, 0)) := by
 obtain ⟨l⟩ := cs
 match l, hn with
 | [a0, a1, a2, a3, a4, a5, a6, a7, a8], _ =>
  have h0 := setH (k := 0) (v := .int .i64 b.kind) h
  have h1 := setH (k := 1) (v := .int .i64 b.owner) h0
  have h2 := setH (k := 2) (v := .int .i64 x) h1
  have h3 := setH (k := 3) (v := .int .i64 y) h2
  have h4 := setH (k := 4) (v := .int .i64 vx) h3
  have h5 := setH (k := 5) (v := .int .i64 vy) h4
  have h6 := setH (k := 6) (v := .int .i64 b.aim) h5
  have h7 := setH (k := 7) (v := .int .i64 b.life) h6
  have h8 := setH (k := 8) (v := .int .i64 b.timer) h7
  unfold putB bmv
  rw [h8]
  simp only [List.set]
theorem putB_far {w : World} {c k : Nat} {o : Obj} (h : w.heap[k]? = some o) (hk : k ≠ c) (b : Bd) (x y vx vy : Int) : (putB w c b x y vx vy).heap[k]? = some o := by
 unfold putB
 exact farHeap (farHeap (farHeap (farHeap (farHeap (farHeap (farHeap (farHeap (farHeap h hk _) hk _) hk _) hk _) hk _) hk _) hk _) hk _) hk _
theorem putB_below {B : Nat} {w0 w : World} {c : Nat} (h : Below B w0 w) (hc : B ≤ c) (b : Bd) (x y vx vy : Int) : Below B w0 (putB w c b x y vx vy) := by
 unfold putB
 exact ((((((((h.setCell (p := ⟨c, 0, none⟩) hc _).setCell (p := ⟨c, 1, none⟩) hc _).setCell (p := ⟨c, 2, none⟩) hc _).setCell (p := ⟨c, 3, none⟩) hc _).setCell (p := ⟨c, 4, none⟩) hc _).setCell (p := ⟨c, 5, none⟩) hc _).setCell (p := ⟨c, 6, none⟩) hc _).setCell (p := ⟨c, 7, none⟩) hc _).setCell (p := ⟨c, 8, none⟩) hc _
set_option maxRecDepth 100000 in
set_option maxHeartbeats 4000000 in
theorem slide_impl {w : World} {v : Value} {L : Rowz} (h : RdS w v L) (hg : Good L) (b : Bd) (n : Nat) (hn : n ≤ 15) (dx dy : Int) (hdx : -1 ≤ dx ∧ dx ≤ 1) (hdy : -1 ≤ dy ∧ dy ≤ 1) (S : Nat) (hS : sizeI b.kind = (S : Int)) (hS1 : 1 ≤ S) (hS2 : S ≤ 16) (hfree : blockB L b.x b.y (S : Int) = false) :
  Calls Tryd.prog 139 #[.agg #[v], .agg #[.int .i64 b.kind, .int .i64 b.owner, .int .i64 b.x, .int .i64 b.y, .int .i64 b.vx, .int .i64 b.vy, .int .i64 b.aim, .int .i64 b.life, .int .i64 b.timer], .int .i64 (n : Int), .int .i64 dx, .int .i64 dy] w fun e w' => ∃ x y t, slideN L (S : Int) dx dy n b.x b.y = (x, y, t) ∧ e = .returned (.tuple #[.agg (bmv b x y b.vx b.vy), .bool t]) ∧ blockB L x y (S : Int) = false ∧ Below w.heap.size w w' := by
 obtain ⟨a, cap, rfl, -⟩ := id h
 obtain ⟨W0, hW, hA, hB, hC, hB0, hS0⟩ := rows3 w #[.slice a L.length cap] #[.int .i64 b.kind, .int .i64 b.owner, .int .i64 b.x, .int .i64 b.y, .int .i64 b.vx, .int .i64 b.vy, .int .i64 b.aim, .int .i64 b.life, .int .i64 b.timer] bd0 26 38 38
 have cA := rowCells hA
 have cB := rowCells hB
 unfold bd0 at hW
 go_enter Tryd.func139, Tryd.ntmps139
 go_wp2_with (fail)
 clear hW
 refine (sizeOf_impl _ _).mono ?_
 rintro e w1 ⟨rfl, hb1⟩
 have hA1 := keepHeap hb1 hA
 have hB1 := keepHeap hb1 hB
 have hC1 := keepHeap hb1 hC
 have hb01 := hB0.trans (hb1.mono hB0.size)
 rw [hS]
 clear cA cB hA hB hC hB0 hb1
 go_wp2_with (fail)
 go_loopw [17] (fun i wr => ∃ (k : Nat) (x y : Int), k ≤ n ∧ i = .int .i64 (k : Int) ∧ slideN L (S : Int) dx dy (n - k) x y = slideN L (S : Int) dx dy n b.x b.y ∧ blockB L x y (S : Int) = false ∧ wr.heap[w.heap.size]? = some (.cells #[.slice a L.length cap] 26 (0, 0)) ∧ wr.heap[w.heap.size + 1]? = some (.cells (bmv b x y b.vx b.vy) 38 (0, 0)) ∧ wr.heap[w.heap.size + 1 + 1]? = some (.cells bd0 38 (0, 0)) ∧ Below w.heap.size w wr) (fun i _ => n - (intOf i).toNat)
 case atStart => exact ⟨0, b.x, b.y, Nat.zero_le _, rfl, rfl, hfree, hA1, hB1, hC1, hb01⟩
 case round =>
  obtain ⟨k, x, y, hk, rfl, hsl, hbl, hAr, hBr, hCr, hbel⟩ := hrel
  have hsz := hbel.size
  have hclt : w.heap.size + 1 + 1 < wr.heap.size := (Array.getElem?_eq_some_iff.1 hCr).1
  by_cases hkn : k < n
  ·obtain ⟨hx0, hx1, hy0, hy1⟩ := blockB_place hg hbl
   have z0 : decide ((k : Int) < (n : Int)) = true := by simp; omega
   have hkn' : (k : Int) < (n : Int) := by omega
   have cA := rowCells hAr
   have cB := rowCells hBr
   unfold bmv at cB
   have hn15 : (n : Int) ≤ 15 := by omega
   have hC := blocked_impl (h.keep hbel) hg (x + dx) (y + dy) S hS1 hS2 (by omega) (by omega) (by omega) (by omega)
   obtain ⟨hdx0, hdx1⟩ := hdx
   obtain ⟨hdy0, hdy1⟩ := hdy
   have HS := Lib.hid hsl
   rw [show n - k = (n - (k + 1)) + 1 by omega, slideN] at hsl
   clear hb01
   cases ht : blockB L (x + dx) (y + dy) (S : Int) with
   | true =>
    rw [ht] at hC
    rw [ht, if_pos rfl] at hsl
    have HR := Lib.hid hsl
    have HB := Lib.hid hbl
    clear hsl hbl ht
    go_wp2_with (go_at_call 42; refine hC.mono ?_; rintro e w2 ⟨rfl, hb2⟩; have kB := rowCells (keepHeap hb2 hBr); have hC2 := keepHeap hb2 hCr; have kC := rowCells hC2; unfold bd0 at kC; have fC := fun j => frozenHeap hC2 j; unfold bmv at kB)
    have hP := putB_heap hC2 rfl b x y b.vx b.vy
    have hL := load_bd hP rfl
    have hbP := putB_below (hbel.trans (hb2.mono hsz)) (c := w.heap.size + 1 + 1) (by omega) b x y b.vx b.vy
    unfold putB at hL hbP
    refine bodyPost_ret (v := .tuple #[.agg (bmv b x y b.vx b.vy), .bool true]) (results_two rfl _ _ _ _ _ rfl rfl hL) rfl ⟨x, y, true, HR.out.symm, rfl, HB.out, hbP⟩
   | false =>
    rw [ht] at hC
    rw [ht, if_neg (by simp)] at hsl
    have HR := Lib.hid hsl
    have HB := Lib.hid ht
    clear hsl hbl ht
    go_wp2_with (go_at_call 42; refine hC.mono ?_; rintro e w2 ⟨rfl, hb2⟩; have hA2 := keepHeap hb2 hAr; have hC2 := keepHeap hb2 hCr; have hB2 := keepHeap hb2 hBr; have kB := rowCells hB2; have fB := fun j => frozenHeap hB2 j; unfold bmv at kB)
    go_roundw
    case rel => exact ⟨k + 1, x + dx, y + dy, by omega, by go_num, HR.out, HB.out, farHeap (farHeap hA2 (by show w.heap.size ≠ w.heap.size + 1; omega) _) (by show w.heap.size ≠ w.heap.size + 1; omega) _, setHeap (setHeap hB2), farHeap (farHeap hC2 (by show w.heap.size + 1 + 1 ≠ w.heap.size + 1; omega) _) (by show w.heap.size + 1 + 1 ≠ w.heap.size + 1; omega) _, ((hbel.trans (hb2.mono hsz)).setCell (p := ⟨w.heap.size + 1, 2, none⟩) (by show w.heap.size ≤ w.heap.size + 1; omega) _).setCell (p := ⟨w.heap.size + 1, 3, none⟩) (by show w.heap.size ≤ w.heap.size + 1; omega) _⟩
    case measure => simp [intOf]; omega
  ·have e : k = n := by omega
   subst e
   rw [Nat.sub_self, slideN] at hsl
   have HR := Lib.hid hsl
   have HB := Lib.hid hbl
   have z0 : decide ((k : Int) < (k : Int)) = false := by simp
   have kB := rowCells hBr
   have kC := rowCells hCr
   have fC := fun j => frozenHeap hCr j
   unfold bmv at kB
   unfold bd0 at kC
   clear hsl hbl
   go_wp2_with (fail)
   have hP := putB_heap hCr rfl b x y b.vx b.vy
   have hL := load_bd hP rfl
   have hbP := putB_below hbel (c := w.heap.size + 1 + 1) (by omega) b x y b.vx b.vy
   unfold putB at hL hbP
   refine bodyPost_ret (v := .tuple #[.agg (bmv b x y b.vx b.vy), .bool false]) (results_two rfl _ _ _ _ _ rfl rfl hL) rfl ⟨x, y, false, HR.out.symm, rfl, HB.out, hbP⟩
end Go.Proofs.YtnlonkkbjkfkmaaDoor
