/-
  Texts of this proof: SolidA, Slide, Reg.
-/
import Derived.Test.YtnlonkkbjkfkmaaGreatDoorM10
import Derived.Test.YtnlonkkbjkfkmaaGreatDoorM02
import Derived.Test.YtnlonkkbjkfkmaaGreatDoorM00
import Derived.Deep.RegionHeld3
namespace Go.Proofs.YtnlonkkbjkfkmaaGreatDoor
open Go.RowKit
set_option linter.all false
def I64 (x : Int) : Prop := -9223372036854775808 ≤ x ∧ x ≤ 9223372036854775807
theorem I64.of {x : Int} (h : (Lit.int .i64 x).wf = true) : I64 x := by
 simp only [Lit.wf, Bool.and_eq_true, decide_eq_true_eq] at h
 exact ⟨h.1, h.2⟩
end Go.Proofs.YtnlonkkbjkfkmaaGreatDoor
namespace Go.Proofs.YtnlonkkbjkfkmaaGreatDoor
open Go.RowKit
set_option linter.all false
def slideN (L : Rowz) (S dx dy : Int) : Nat → Int → Int → Int × Int × Bool
 | 0, x, y => (x, y, false)
 | n + 1, x, y => if blockB L (x + dx) (y + dy) S then (x, y, true) else slideN L S dx dy n (x + dx) (y + dy)
def bmv (b : Bd) (x y vx vy : Int) : Array Value := #[.int .i64 b.kind, .int .i64 b.owner, .int .i64 x, .int .i64 y, .int .i64 vx, .int .i64 vy, .int .i64 b.aim, .int .i64 b.life, .int .i64 b.timer]
def bd0 : Array Value := #[.int .i64 0, .int .i64 0, .int .i64 0, .int .i64 0, .int .i64 0, .int .i64 0, .int .i64 0, .int .i64 0, .int .i64 0]
theorem blockB_place {L : Rowz} (hg : Good L) {x y : Int} {S : Nat} (h : blockB L x y (S : Int) = false) : 0 ≤ x ∧ x < 320 ∧ 0 ≤ y ∧ y < 192 := by
 have h0 : 0 ≤ x := by
  apply Classical.byContradiction; intro hn
  rw [blockB_neg (.inl (by omega))] at h; cases h
 have h1 : 0 ≤ y := by
  apply Classical.byContradiction; intro hn
  rw [blockB_neg (.inr (by omega))] at h; cases h
 obtain ⟨X, rfl⟩ := Int.eq_ofNat_of_zero_le h0
 obtain ⟨Y, rfl⟩ := Int.eq_ofNat_of_zero_le h1
 rw [blockB_nat] at h
 obtain ⟨hn3, hn12, hw4, hw20, -⟩ := hg
 have hc : cellN L (Y / 16) (X / 16) = false := by
  cases e : cellN L (Y / 16) (X / 16) with
  | false => rfl
  | true => rw [blockN_hit (.inl rfl) (.inl rfl) e] at h; cases h
 have hr : Y / 16 < L.length := by
  apply Classical.byContradiction; intro hn
  rw [cellN_out (.inl (by omega))] at hc; cases hc
 have hw : X / 16 < wd L := by
  apply Classical.byContradiction; intro hn
  rw [cellN_out (.inr (by omega))] at hc; cases hc
 omega
theorem load_bd {W : World} {k : Nat} {xs : Array Value} (h : W.heap[k]? = some (.cells xs 100 (0, 0))) (hn : xs.size = 9) : (loadVar 100 ⟨k, 0, none⟩).run Tryz.prog W = .ok (.agg xs) W :=
 run_loadVar_row W _ _ _ _ _ _ h Tryz.underlying100 rfl (by rw [hn]; kernel_rfl)
theorem setH {w : World} {c k : Nat} {v : Value} {l : List Value} {T : TypeId} (h : w.heap[c]? = some (.cells ⟨l⟩ T (0, 0))) : (w.setCell ⟨c, k, none⟩ v).heap[c]? = some (.cells ⟨l.set k v⟩ T (0, 0)) := by
 rw [setHeap h]; simp
def putB (w : World) (c : Nat) (b : Bd) (x y vx vy : Int) : World := ((((((((w.setCell ⟨c, 0, none⟩ (.int .i64 b.kind)).setCell ⟨c, 1, none⟩ (.int .i64 b.owner)).setCell ⟨c, 2, none⟩ (.int .i64 x)).setCell ⟨c, 3, none⟩ (.int .i64 y)).setCell ⟨c, 4, none⟩ (.int .i64 vx)).setCell ⟨c, 5, none⟩ (.int .i64 vy)).setCell ⟨c, 6, none⟩ (.int .i64 b.aim)).setCell ⟨c, 7, none⟩ (.int .i64 b.life)).setCell ⟨c, 8, none⟩ (.int .i64 b.timer)
set_option maxHeartbeats 1000000 in
theorem putB_heap {w : World} {c : Nat} {cs : Array Value} (h : w.heap[c]? = some (.cells cs 100 (0, 0))) (hn : cs.size = 9) (b : Bd) (x y vx vy : Int) : (putB w c b x y vx vy).heap[c]? = some (.cells (bmv b x y vx vy) 100 (0, 0)) := by
 obtain ⟨l⟩ := cs
 match l, hn with
 | [a0, a1, a2, a3, a4, a5, a6, a7, a8], _ =>
  have h0 := setH (k := 0) (v := .int .i64 b.kind) h
  have h1 := setH (k := 1) (v := .int .i64 b.owner) h0
  have h2 := setH (k := 2) (v := .int .i64 x) h1
  have h3 := setH (k := 3) (v := .int .i64 y) h2
  have h4 := setH (k := 4) (v := .int .i64 vx) h3
  have h5 := setH (k := 5) (v := .int .i64 vy) h4
  have h6 := setH (k := 6) (v := .int .i64 b.aim) h5
  have h7 := setH (k := 7) (v := .int .i64 b.life) h6
  have h8 := setH (k := 8) (v := .int .i64 b.timer) h7
  unfold putB bmv
  rw [h8]
  simp only [List.set]
theorem putB_far {w : World} {c k : Nat} {o : Obj} (h : w.heap[k]? = some o) (hk : k ≠ c) (b : Bd) (x y vx vy : Int) : (putB w c b x y vx vy).heap[k]? = some o := by
 unfold putB
 exact farHeap (farHeap (farHeap (farHeap (farHeap (farHeap (farHeap (farHeap (farHeap h hk _) hk _) hk _) hk _) hk _) hk _) hk _) hk _) hk _
theorem putB_below {B : Nat} {w0 w : World} {c : Nat} (h : Below B w0 w) (hc : B ≤ c) (b : Bd) (x y vx vy : Int) : Below B w0 (putB w c b x y vx vy) := by
 unfold putB
 exact ((((((((h.setCell (p := ⟨c, 0, none⟩) hc _).setCell (p := ⟨c, 1, none⟩) hc _).setCell (p := ⟨c, 2, none⟩) hc _).setCell (p := ⟨c, 3, none⟩) hc _).setCell (p := ⟨c, 4, none⟩) hc _).setCell (p := ⟨c, 5, none⟩) hc _).setCell (p := ⟨c, 6, none⟩) hc _).setCell (p := ⟨c, 7, none⟩) hc _).setCell (p := ⟨c, 8, none⟩) hc _
set_option maxRecDepth 100000 in
set_option maxHeartbeats 4000000 in
theorem slide_impl {w : World} {v : Value} {L : Rowz} (h : RdS w v L) (hg : Good L) (b : Bd) (n : Nat) (hn : n ≤ 15) (dx dy : Int) (hdx : -1 ≤ dx ∧ dx ≤ 1) (hdy : -1 ≤ dy ∧ dy ≤ 1) (S : Nat) (hS : sizeI b.kind = (S : Int)) (hS1 : 1 ≤ S) (hS2 : S ≤ 16) (hfree : blockB L b.x b.y (S : Int) = false) :
  Calls Tryz.prog 265 #[.agg #[v], .agg #[.int .i64 b.kind, .int .i64 b.owner, .int .i64 b.x, .int .i64 b.y, .int .i64 b.vx, .int .i64 b.vy, .int .i64 b.aim, .int .i64 b.life, .int .i64 b.timer], .int .i64 (n : Int), .int .i64 dx, .int .i64 dy] w fun e w' => ∃ x y t, slideN L (S : Int) dx dy n b.x b.y = (x, y, t) ∧ e = .returned (.tuple #[.agg (bmv b x y b.vx b.vy), .bool t]) ∧ blockB L x y (S : Int) = false ∧ Below w.heap.size w w' := by
 obtain ⟨a, cap, rfl, -⟩ := id h
 obtain ⟨W0, hW, hA, hB, hC, hB0, hS0⟩ := rows3 w #[.slice a L.length cap] #[.int .i64 b.kind, .int .i64 b.owner, .int .i64 b.x, .int .i64 b.y, .int .i64 b.vx, .int .i64 b.vy, .int .i64 b.aim, .int .i64 b.life, .int .i64 b.timer] bd0 26 100 100
 have cA := rowCells hA
 have cB := rowCells hB
 unfold bd0 at hW
 go_enter Tryz.func265, Tryz.ntmps265
 go_wp2_with (fail)
 clear hW
 refine (sizeOf_impl _ _).mono ?_
 rintro e w1 ⟨rfl, hb1⟩
 have hA1 := keepHeap hb1 hA
 have hB1 := keepHeap hb1 hB
 have hC1 := keepHeap hb1 hC
 have hb01 := hB0.trans (hb1.mono hB0.size)
 rw [hS]
 clear cA cB hA hB hC hB0 hb1
 go_wp2_with (fail)
 go_loopw [17] (fun i wr => ∃ (k : Nat) (x y : Int), k ≤ n ∧ i = .int .i64 (k : Int) ∧ slideN L (S : Int) dx dy (n - k) x y = slideN L (S : Int) dx dy n b.x b.y ∧ blockB L x y (S : Int) = false ∧ wr.heap[w.heap.size]? = some (.cells #[.slice a L.length cap] 26 (0, 0)) ∧ wr.heap[w.heap.size + 1]? = some (.cells (bmv b x y b.vx b.vy) 100 (0, 0)) ∧ wr.heap[w.heap.size + 1 + 1]? = some (.cells bd0 100 (0, 0)) ∧ Below w.heap.size w wr) (fun i _ => n - (intOf i).toNat)
 case atStart => exact ⟨0, b.x, b.y, Nat.zero_le _, rfl, rfl, hfree, hA1, hB1, hC1, hb01⟩
 case round =>
  obtain ⟨k, x, y, hk, rfl, hsl, hbl, hAr, hBr, hCr, hbel⟩ := hrel
  have hsz := hbel.size
  have hclt : w.heap.size + 1 + 1 < wr.heap.size := (Array.getElem?_eq_some_iff.1 hCr).1
  by_cases hkn : k < n
  ·obtain ⟨hx0, hx1, hy0, hy1⟩ := blockB_place hg hbl
   have z0 : decide ((k : Int) < (n : Int)) = true := by simp; omega
   have hkn' : (k : Int) < (n : Int) := by omega
   have cA := rowCells hAr
   have cB := rowCells hBr
   unfold bmv at cB
   have hn15 : (n : Int) ≤ 15 := by omega
   have hC := blocked_impl (h.keep hbel) hg (x + dx) (y + dy) S hS1 hS2 (by omega) (by omega) (by omega) (by omega)
   obtain ⟨hdx0, hdx1⟩ := hdx
   obtain ⟨hdy0, hdy1⟩ := hdy
   have HS := Lib.hid hsl
   rw [show n - k = (n - (k + 1)) + 1 by omega, slideN] at hsl
   clear hb01
   cases ht : blockB L (x + dx) (y + dy) (S : Int) with
   | true =>
    rw [ht] at hC
    rw [ht, if_pos rfl] at hsl
    have HR := Lib.hid hsl
    have HB := Lib.hid hbl
    clear hsl hbl ht
    go_wp2_with (go_at_call 213; refine hC.mono ?_; rintro e w2 ⟨rfl, hb2⟩; have kB := rowCells (keepHeap hb2 hBr); have hC2 := keepHeap hb2 hCr; have kC := rowCells hC2; unfold bd0 at kC; have fC := fun j => frozenHeap hC2 j; unfold bmv at kB)
    have hP := putB_heap hC2 rfl b x y b.vx b.vy
    have hL := load_bd hP rfl
    have hbP := putB_below (hbel.trans (hb2.mono hsz)) (c := w.heap.size + 1 + 1) (by omega) b x y b.vx b.vy
    unfold putB at hL hbP
    refine bodyPost_ret (v := .tuple #[.agg (bmv b x y b.vx b.vy), .bool true]) (results_two rfl _ _ _ _ _ rfl rfl hL) rfl ⟨x, y, true, HR.out.symm, rfl, HB.out, hbP⟩
   | false =>
    rw [ht] at hC
    rw [ht, if_neg (by simp)] at hsl
    have HR := Lib.hid hsl
    have HB := Lib.hid ht
    clear hsl hbl ht
    go_wp2_with (go_at_call 213; refine hC.mono ?_; rintro e w2 ⟨rfl, hb2⟩; have hA2 := keepHeap hb2 hAr; have hC2 := keepHeap hb2 hCr; have hB2 := keepHeap hb2 hBr; have kB := rowCells hB2; have fB := fun j => frozenHeap hB2 j; unfold bmv at kB)
    go_roundw
    case rel => exact ⟨k + 1, x + dx, y + dy, by omega, by go_num, HR.out, HB.out, farHeap (farHeap hA2 (by show w.heap.size ≠ w.heap.size + 1; omega) _) (by show w.heap.size ≠ w.heap.size + 1; omega) _, setHeap (setHeap hB2), farHeap (farHeap hC2 (by show w.heap.size + 1 + 1 ≠ w.heap.size + 1; omega) _) (by show w.heap.size + 1 + 1 ≠ w.heap.size + 1; omega) _, ((hbel.trans (hb2.mono hsz)).setCell (p := ⟨w.heap.size + 1, 2, none⟩) (by show w.heap.size ≤ w.heap.size + 1; omega) _).setCell (p := ⟨w.heap.size + 1, 3, none⟩) (by show w.heap.size ≤ w.heap.size + 1; omega) _⟩
    case measure => simp [intOf]; omega
  ·have e : k = n := by omega
   subst e
   rw [Nat.sub_self, slideN] at hsl
   have HR := Lib.hid hsl
   have HB := Lib.hid hbl
   have z0 : decide ((k : Int) < (k : Int)) = false := by simp
   have kB := rowCells hBr
   have kC := rowCells hCr
   have fC := fun j => frozenHeap hCr j
   unfold bmv at kB
   unfold bd0 at kC
   clear hsl hbl
   go_wp2_with (fail)
   have hP := putB_heap hCr rfl b x y b.vx b.vy
   have hL := load_bd hP rfl
   have hbP := putB_below hbel (c := w.heap.size + 1 + 1) (by omega) b x y b.vx b.vy
   unfold putB at hL hbP
   refine bodyPost_ret (v := .tuple #[.agg (bmv b x y b.vx b.vy), .bool false]) (results_two rfl _ _ _ _ _ rfl rfl hL) rfl ⟨x, y, false, HR.out.symm, rfl, HB.out, hbP⟩
end Go.Proofs.YtnlonkkbjkfkmaaGreatDoor
namespace Go.Proofs.YtnlonkkbjkfkmaaGreatDoor
open Go.RowKit
set_option linter.all false
theorem wanted_off {ops : Array Oper} {tmps : Array Value} {o : Oper} {k d : Nat} {b c : Bool} (hg : o.guard = some (k, b)) (hd : (ops[k]?).bind (·.dst) = some d) (hv : tmps[d]? = some (.bool c)) (hbc : (c == b) = false) : Region.wanted o (yielded ops tmps) = false := by
 have h1 : yielded ops tmps k = some c := by unfold yielded; rw [hd]; simp [hv]
 unfold Region.wanted; rw [hg]; simp [h1]; simpa using hbc
theorem wanted_on {ops : Array Oper} {tmps : Array Value} {o : Oper} {k d : Nat} {b : Bool} (hg : o.guard = some (k, b)) (hd : (ops[k]?).bind (·.dst) = some d) (hv : tmps[d]? = some (.bool b)) : Region.wanted o (yielded ops tmps) = true := by
 have h1 : yielded ops tmps k = some b := by unfold yielded; rw [hd]; simp [hv]
 unfold Region.wanted; rw [hg]; simp [h1]
section
variable {P : Program} {ops : Array Oper} {Q : Exit → Act → World → Prop} {md : Region.Mode} {S : World → Prop}
theorem take_on {i : Nat} {oi : Oper} {v : Value} {fuel : Nat} {listed : Array Bool} {a : Act} {w : World} (d : Option Tmp) (hi : ops[i]? = some oi)
  (hs : Region.noSelect ops = true) (hf : Region.free md ops listed i = true) (hr : (Region.ready md ops listed).contains i = true) (hd : oi.dst = d)
  (hQ : ∀ c a w, Q (.panic c) (a.put d v) w → Q (.panic c) a w) (hw : Region.wanted oi (yielded ops a.tmps) = true) (hy : ∀ w, S w → (execOp a.eval oi).run P w = .ok (.value v) w) (hS : S w)
  (h : wpAnyH P md ops Q S fuel (listed.setIfInBounds i true) (a.put d v) w) : wpAnyH P md ops Q S (fuel + 1) listed a w := by
 subst hd; exact wpAnyH_take hi hs hf hr hQ (.inl ⟨hw, hy⟩) hS h
theorem take_off {i : Nat} {oi : Oper} {fuel : Nat} {listed : Array Bool} {a : Act} {w : World} (d : Option Tmp) (hi : ops[i]? = some oi)
  (hs : Region.noSelect ops = true) (hf : Region.free md ops listed i = true) (hr : (Region.ready md ops listed).contains i = true) (hd : oi.dst = d)
  (hQ : ∀ c a w, Q (.panic c) (a.put d undef) w → Q (.panic c) a w) (hw : Region.wanted oi (yielded ops a.tmps) = false) (hS : S w)
  (h : wpAnyH P md ops Q S fuel (listed.setIfInBounds i true) (a.put d undef) w) : wpAnyH P md ops Q S (fuel + 1) listed a w := by
 subst hd; exact wpAnyH_take hi hs hf hr hQ (.inr ⟨hw, rfl⟩) hS h
theorem tk {oi : Oper} {v : Value} {fuel : Nat} {listed : Array Bool} {a : Act} {w : World} (i : Nat) (d : Tmp) (h : wpAnyH P md ops Q S fuel (listed.setIfInBounds i true) (a.put (some d) v) w) (hi : ops[i]? = some oi := by rfl)
  (hs : Region.noSelect ops = true := by kernel_rfl) (hf : Region.free md ops listed i = true := by kernel_rfl) (hr : (Region.ready md ops listed).contains i = true := by kernel_rfl) (hd : oi.dst = some d := by rfl)
  (hQ : ∀ c a w, Q (.panic c) (a.put (some d) v) w → Q (.panic c) a w := by exact fun _ _ _ h => h) (hw : Region.wanted oi (yielded ops a.tmps) = true := by rfl) (hS : S w := by assumption)
  (hy : ∀ w, S w → (execOp a.eval oi).run P w = .ok (.value v) w := by intro w hSw; (try dsimp only at hSw); go_simp; (try with_reducible rfl)) : wpAnyH P md ops Q S (fuel + 1) listed a w :=
 take_on (some d) hi hs hf hr hd hQ hw hy hS h
theorem tw {oi : Oper} {v : Value} {fuel : Nat} {listed : Array Bool} {a : Act} {w : World} (i : Nat) (d : Tmp) (k e : Nat) (b : Bool) (h : wpAnyH P md ops Q S fuel (listed.setIfInBounds i true) (a.put (some d) v) w) (hi : ops[i]? = some oi := by rfl)
  (hs : Region.noSelect ops = true := by kernel_rfl) (hf : Region.free md ops listed i = true := by kernel_rfl) (hr : (Region.ready md ops listed).contains i = true := by kernel_rfl) (hd : oi.dst = some d := by rfl)
  (hQ : ∀ c a w, Q (.panic c) (a.put (some d) v) w → Q (.panic c) a w := by exact fun _ _ _ h => h) (hg : oi.guard = some (k, b) := by rfl) (he : (ops[k]?).bind (·.dst) = some e := by rfl) (hv : a.tmps[e]? = some (.bool b) := by rfl) (hS : S w := by assumption)
  (hy : ∀ w, S w → (execOp a.eval oi).run P w = .ok (.value v) w := by intro w hSw; (try dsimp only at hSw); go_simp; (try with_reducible rfl)) : wpAnyH P md ops Q S (fuel + 1) listed a w :=
 take_on (some d) hi hs hf hr hd hQ (wanted_on hg he hv) hy hS h
theorem tof {oi : Oper} {fuel : Nat} {listed : Array Bool} {a : Act} {w : World} (i : Nat) (d : Tmp) (k e : Nat) (b c : Bool) (h : wpAnyH P md ops Q S fuel (listed.setIfInBounds i true) (a.put (some d) undef) w) (hi : ops[i]? = some oi := by rfl)
  (hs : Region.noSelect ops = true := by kernel_rfl) (hf : Region.free md ops listed i = true := by kernel_rfl) (hr : (Region.ready md ops listed).contains i = true := by kernel_rfl) (hd : oi.dst = some d := by rfl)
  (hQ : ∀ c a w, Q (.panic c) (a.put (some d) undef) w → Q (.panic c) a w := by exact fun _ _ _ h => h) (hg : oi.guard = some (k, b) := by rfl) (he : (ops[k]?).bind (·.dst) = some e := by rfl) (hv : a.tmps[e]? = some (.bool c) := by rfl) (hbc : (c == b) = false := by rfl) (hS : S w := by assumption) : wpAnyH P md ops Q S (fuel + 1) listed a w :=
 take_off (some d) hi hs hf hr hd hQ (wanted_off hg he hv hbc) hS h
end
theorem zP (a : Act) (dst : Option Tmp) (v : Value) : a.put dst v = (match dst with | some d => { a with tmps := a.tmps.setIfInBounds d v } | none => a) := rfl
theorem zA {α : Type} (l : List α) (i : Nat) (a : α) : l.toArray.setIfInBounds i a = (l.set i a).toArray := List.setIfInBounds_toArray l i a
theorem zB {α : Type} (x : α) (xs : List α) (a : α) : (x :: xs).set 0 a = a :: xs := rfl
theorem zC {α : Type} (x : α) (xs : List α) (n : Nat) (a : α) : (x :: xs).set (n + 1) a = x :: xs.set n a := rfl
end Go.Proofs.YtnlonkkbjkfkmaaGreatDoor
