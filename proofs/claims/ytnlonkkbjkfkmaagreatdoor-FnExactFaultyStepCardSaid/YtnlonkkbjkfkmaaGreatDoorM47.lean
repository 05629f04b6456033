/-
  Texts of this proof: TkW8, RwP, RunW, Fault.
-/
import Derived.Test.YtnlonkkbjkfkmaaGreatDoorM39
import Derived.Test.YtnlonkkbjkfkmaaGreatDoorM46
import Derived.Test.YtnlonkkbjkfkmaaGreatDoorM00
import Derived.Lib.SmallJoins
import Derived.Deep.RegionHeld3
namespace Go.Proofs.YtnlonkkbjkfkmaaGreatDoor
open Go.RowKit
set_option linter.all false
set_option maxRecDepth 100000 in
set_option maxHeartbeats 16000000 in
theorem stepWorld_spec {w : World} {x : Wd} {vl vs vb : Value} (h : RdW w x vl vs vb) (hs : x.sane) (hn : x.few) {vr : Value} {row : List Int} (hr : RdI w vr row) (hrl : row.length ≤ 9223372036854775807) :
  Calls Tryz.prog 77 #[.agg (wdC x vl vs vb), vr] w (RetStW w (stepW x row)) := by
 have h0 := h
 obtain ⟨al, cl, e0, -⟩ := id h.1
 subst e0
 obtain ⟨aq, cq, e0, -⟩ := id h.2.1
 subst e0
 obtain ⟨ab, cb, e0, -⟩ := id h.2.2
 subst e0
 obtain ⟨ar, cr, e0, -⟩ := id hr
 subst e0
 obtain ⟨W0, hW, hA, hR, hB0, hS0⟩ := rows2 w #[.slice al x.rows.length cl, .int .i64 x.tick, .int .i64 x.seed, .slice aq x.scores.length cq, .slice ab x.bods.length cb] #[.slice none 0 0, .int .i64 0, .int .i64 0, .slice none 0 0, .slice none 0 0] 30 30
 have cA := rowCells hA
 have hcw := copyWorld_spec (h0.keep hB0) hn
 have hwo := fun {W : World} (hb : Below w.heap.size w W) => worldOk_spec (h0.keep hb) hs
 have hro := fun {W : World} (hb : Below w.heap.size w W) => l02RowOk_any (hr.keep hb) hrl (x.scores.length : Int)
 unfold wdC at hcw hwo ⊢
 go_enter Tryz.func77, Tryz.ntmps77
 go_wp2_with (fail)
 try rw [hW]
 clear hW
 refine hcw.mono ?_
 rintro e w1 ⟨vl', vs', vb', T, rfl, ⟨hT1, hT2⟩, hwl, hlo, hcl, hos, hob, hb1⟩
 have hA1 := keepHeap hb1 hA
 have hR1 := keepHeap hb1 hR
 have hb01 := hB0.trans (hb1.mono hB0.size)
 have hs1 := hb1.size
 obtain ⟨al', cl', e0, -⟩ := id hwl.rd
 subst e0
 obtain ⟨as', cs', e0, -⟩ := id hos.own.rd
 subst e0
 obtain ⟨ab', cb', e0, -⟩ := id hob.own.rd
 subst e0
 unfold wdC
 clear cA hcw hA hR
 go_upto_region 2 with (fail)
 obtain ⟨w2, hw2, hP2, hb2⟩ : ∃ w2, w1.alloc (.cells #[.slice al' x.rows.length cl', .int .i64 x.tick, .int .i64 x.seed, .slice as' x.scores.length cs', .slice ab' x.bods.length cb'] 30) = w2 ∧ w2.heap[w1.heap.size]? = some (.cells #[.slice al' x.rows.length cl', .int .i64 x.tick, .int .i64 x.seed, .slice as' x.scores.length cs', .slice ab' x.bods.length cb'] 30 (0, 0)) ∧ Below w1.heap.size w1 w2 := ⟨_, rfl, heap_alloc_new w1 _, below1 w1 _⟩
 rw [hw2]
 clear hw2
 have hA2 := keepHeap hb2 hA1
 have hR2 := keepHeap hb2 hR1
 have hb02 := hb01.trans (hb2.mono hb01.size)
 have hs2 := hb2.size
 have cA2 := rowCells hA2
 obtain ⟨p, hpp⟩ : ∃ p, p = w1.heap.size := ⟨_, rfl⟩
 have hTp : T ≤ p := by omega
 have hwl2 : WrS w2 W0.heap.size (.slice al' x.rows.length cl') x.rows := hwl.keep hb2
 have hx2 : BxW w2 T p x (.slice al' x.rows.length cl') (.slice as' x.scores.length cs') (.slice ab' x.bods.length cb') := ⟨by rw [hpp]; exact hP2, hTp, ⟨hwl2.up (Nat.zero_le _), hlo⟩, hos.keep hb2 (Nat.le_refl _), hob.keep hb2 (Nat.le_refl _)⟩
 rw [← hpp] at hP2 ⊢
 obtain ⟨vl', hvl⟩ : ∃ v, v = Value.slice al' x.rows.length cl' := ⟨_, rfl⟩
 clear hpp hA1 hR1 hwl hos hob
 go_wp2_with (fail)
 refine (hwo hb02).mono ?_
 rintro e w3 ⟨rfl, hb3⟩
 have hA3 := keepHeap hb3 hA2
 have hR3 := keepHeap hb3 hR2
 have hP3 := keepHeap hb3 hP2
 have hb03 := hb02.trans (hb3.mono hb02.size)
 have hs3 := hb3.size
 have hx3 := hx2.keep hb3 (Nat.le_of_lt hx2.low)
 have hwl3 := hwl2.keep hb3
 have cA3 := rowCells hA3
 have cP3 := rowCells hP3
 have cR3 := rowCells hR3
 have fR3 := fun j => frozenHeap hR3 j
 have HX3 := Lib.hid hx3
 have HO3 := Lib.hid (ownW_of (w := w3) hT1 (Nat.le_of_lt hx3.low) hwl3 hlo hx3.2.2.2.1 hx3.2.2.2.2)
 have HC3 : Hid (CapW (.slice al' x.rows.length cl') (.slice as' x.scores.length cs') (.slice ab' x.bods.length cb')) := Lib.hid ⟨hcl, hx3.2.2.2.1.capd, hx3.2.2.2.2.capd⟩
 clear cA2 hA2 hR2 hP2 hx2 hx3 hvl vl'
 cases qw : worldB x with
 | false =>
  have HQ := Lib.hid (step_no (sok_w (row := row) qw))
  clear qw
  go_wp2_with (fail)
  have hPP := putW_heap hR3 rfl (x) (.slice al' x.rows.length cl') (.slice as' x.scores.length cs') (.slice ab' x.bods.length cb')
  have hbP := putW_below hb03 (c := w.heap.size + 1) (by omega) (x) (.slice al' x.rows.length cl') (.slice as' x.scores.length cs') (.slice ab' x.bods.length cb')
  have hOwn := ((HO3.out).afar (putW_farB w3 (w.heap.size + 1) (x) (.slice al' x.rows.length cl') (.slice as' x.scores.length cs') (.slice ab' x.bods.length cb')) (by omega)).wide (lo' := w.heap.size) (hi' := (putW w3 (w.heap.size + 1) (x) (.slice al' x.rows.length cl') (.slice as' x.scores.length cs') (.slice ab' x.bods.length cb')).heap.size) (by omega) (by simp [putW])
  unfold putW at hPP hbP hOwn
  refine bodyPost_ret (results_cell_row rfl _ _ (w.heap.size + 1) 30 (wdC (x) (.slice al' x.rows.length cl') (.slice as' x.scores.length cs') (.slice ab' x.bods.length cb')) (0, 0) ?zd ?zp ?zg ?zu ?zf ?zi) rfl ?_
  case zp => rfl
  case zg => exact hPP
  case zu => exact Tryz.underlying30
  case zf => rfl
  case zi => kernel_rfl
  exact ⟨_, _, _, by first | (rw [HQ.out]; done) | (rw [HQ.out]; rfl), by rw [HQ.out]; exact hOwn, HC3.out, hbP⟩
 | true =>
  have HQW := Lib.hid qw
  clear qw
  by_cases ht : x.tick = 100000
  ·have z1 : ((x.tick : Int) == 100000) = true := by simpa using ht
   have HQ := Lib.hid (step_no (sok_t (row := row) ht))
   clear ht
   go_wp2_with (fail)
   have hPP := putW_heap hR3 rfl (x) (.slice al' x.rows.length cl') (.slice as' x.scores.length cs') (.slice ab' x.bods.length cb')
   have hbP := putW_below hb03 (c := w.heap.size + 1) (by omega) (x) (.slice al' x.rows.length cl') (.slice as' x.scores.length cs') (.slice ab' x.bods.length cb')
   have hOwn := ((HO3.out).afar (putW_farB w3 (w.heap.size + 1) (x) (.slice al' x.rows.length cl') (.slice as' x.scores.length cs') (.slice ab' x.bods.length cb')) (by omega)).wide (lo' := w.heap.size) (hi' := (putW w3 (w.heap.size + 1) (x) (.slice al' x.rows.length cl') (.slice as' x.scores.length cs') (.slice ab' x.bods.length cb')).heap.size) (by omega) (by simp [putW])
   unfold putW at hPP hbP hOwn
   refine bodyPost_ret (results_cell_row rfl _ _ (w.heap.size + 1) 30 (wdC (x) (.slice al' x.rows.length cl') (.slice as' x.scores.length cs') (.slice ab' x.bods.length cb')) (0, 0) ?zd ?zp ?zg ?zu ?zf ?zi) rfl ?_
   case zp => rfl
   case zg => exact hPP
   case zu => exact Tryz.underlying30
   case zf => rfl
   case zi => kernel_rfl
   exact ⟨_, _, _, by first | (rw [HQ.out]; done) | (rw [HQ.out]; rfl), by rw [HQ.out]; exact hOwn, HC3.out, hbP⟩
  ·have z1 : ((x.tick : Int) == 100000) = false := by simpa using ht
   have HT := Lib.hid ht
   clear ht
   go_wp2_with (fail)
   refine (hro hb03).mono ?_
   rintro e w4 ⟨rfl, rfl⟩
   cases qr : rokB (x.scores.length : Int) row with
   | false =>
    have HQ := Lib.hid (step_no (sok_r qr))
    clear qr
    go_wp2_with (fail)
    have hPP := putW_heap hR3 rfl (x) (.slice al' x.rows.length cl') (.slice as' x.scores.length cs') (.slice ab' x.bods.length cb')
    have hbP := putW_below hb03 (c := w.heap.size + 1) (by omega) (x) (.slice al' x.rows.length cl') (.slice as' x.scores.length cs') (.slice ab' x.bods.length cb')
    have hOwn := ((HO3.out).afar (putW_farB w3 (w.heap.size + 1) (x) (.slice al' x.rows.length cl') (.slice as' x.scores.length cs') (.slice ab' x.bods.length cb')) (by omega)).wide (lo' := w.heap.size) (hi' := (putW w3 (w.heap.size + 1) (x) (.slice al' x.rows.length cl') (.slice as' x.scores.length cs') (.slice ab' x.bods.length cb')).heap.size) (by omega) (by simp [putW])
    unfold putW at hPP hbP hOwn
    refine bodyPost_ret (results_cell_row rfl _ _ (w.heap.size + 1) 30 (wdC (x) (.slice al' x.rows.length cl') (.slice as' x.scores.length cs') (.slice ab' x.bods.length cb')) (0, 0) ?zd ?zp ?zg ?zu ?zf ?zi) rfl ?_
    case zp => rfl
    case zg => exact hPP
    case zu => exact Tryz.underlying30
    case zf => rfl
    case zi => kernel_rfl
    exact ⟨_, _, _, by first | (rw [HQ.out]; done) | (rw [HQ.out]; rfl), by rw [HQ.out]; exact hOwn, HC3.out, hbP⟩
   | true =>
    have HQ := Lib.hid (step_go (sok_ok HQW.out HT.out qr))
    obtain ⟨hrn, hrw⟩ := rokB_facts qr
    have hrn' : row.length = x.scores.length := by omega
    have hri := allW_iff.1 hrw
    have hFx := fineX_of HQW.out
    obtain ⟨-, hwt, hws, -⟩ := wd_facts HQW.out
    rw [inR_iff] at hwt hws
    have hT0 := Nat.le_of_lt HX3.out.low
    have hrow : ∀ {W : World}, Below T w3 W → RdI W (.slice ar row.length cr) row := fun hb => hr.keep (hb03.trans (hb.mono (by omega)))
    have hst := l02Step_spec HX3.out hFx hrow hrn' hri (by have := HT.out; omega) (by omega) hs.1
    clear qr hrn hrw hri hrow hrn' hFx
    go_upto_region 5 with (go_at_call 161; refine hst.mono ?_; rintro e w9 ⟨rfl, vs9, vb9, h9, hF09, hS08, hO08⟩)
    clear hst cA3 cP3 cR3 fR3
    have h9 : BxW w9 T p (stepV x row) (.slice al' x.rows.length cl') vs9 vb9 := h9
    have hb9 := hF09.1
    have hR9 : w9.heap[w.heap.size + 1]? = some (.cells #[.slice none 0 0, .int .i64 0, .int .i64 0, .slice none 0 0, .slice none 0 0] 30 (0, 0)) := (hb9.block (w.heap.size + 1) (by omega)).trans hR3
    have hb09 := hb03.trans (hb9.mono (by omega))
    have hs9 := hb9.size
    have hwl9 : WrS w9 W0.heap.size (.slice al' x.rows.length cl') (stepV x row).rows := by
     have e : (stepV x row).rows = x.rows := by rw [← HQ.out]; exact stepW_rows x row
     rw [e]; exact hwl3.same hlo (fun b _ hbT _ => hb9.block b hbT)
    have hlo9 : LowS T (.slice al' x.rows.length cl') (stepV x row).rows := h9.2.2.1.2
    have HO9 := Lib.hid (ownW_of (w := w9) hT1 (Nat.le_of_lt h9.low) hwl9 hlo9 h9.2.2.2.1 h9.2.2.2.2)
    have HC9 : Hid (CapW (.slice al' x.rows.length cl') vs9 vb9) := Lib.hid ⟨hcl, h9.2.2.2.1.capd, h9.2.2.2.2.capd⟩
    have hP9 := h9.1
    obtain ⟨as9, cs9, e9, -⟩ := id h9.rd.2.1
    subst e9
    obtain ⟨ab9, cb9, e9, -⟩ := id h9.rd.2.2
    subst e9
    unfold wdC at hP9
    have cP9 := rowCells hP9
    have cR9 := rowCells hR9
    have fR9 := fun j => frozenHeap hR9 j
    generalize hyy : stepV x row = y at *
    clear hyy h9 hF09 HX3
    go_wp2_with (fail)
    have hPP := putW_heap hR9 rfl (y) (.slice al' x.rows.length cl') (.slice as9 y.scores.length cs9) (.slice ab9 y.bods.length cb9)
    have hbP := putW_below hb09 (c := w.heap.size + 1) (by omega) (y) (.slice al' x.rows.length cl') (.slice as9 y.scores.length cs9) (.slice ab9 y.bods.length cb9)
    have hOwn := ((HO9.out).afar (putW_farB w9 (w.heap.size + 1) (y) (.slice al' x.rows.length cl') (.slice as9 y.scores.length cs9) (.slice ab9 y.bods.length cb9)) (by omega)).wide (lo' := w.heap.size) (hi' := (putW w9 (w.heap.size + 1) (y) (.slice al' x.rows.length cl') (.slice as9 y.scores.length cs9) (.slice ab9 y.bods.length cb9)).heap.size) (by omega) (by simp [putW])
    unfold putW at hPP hbP hOwn
    refine bodyPost_ret (results_cell_row rfl _ _ (w.heap.size + 1) 30 (wdC (y) (.slice al' x.rows.length cl') (.slice as9 y.scores.length cs9) (.slice ab9 y.bods.length cb9)) (0, 0) ?zd ?zp ?zg ?zu ?zf ?zi) rfl ?_
    case zp => rfl
    case zg => exact hPP
    case zu => exact Tryz.underlying30
    case zf => rfl
    case zi => kernel_rfl
    exact ⟨_, _, _, by first | (rw [HQ.out]; done) | (rw [HQ.out]; rfl), by rw [HQ.out]; exact hOwn, HC9.out, hbP⟩
end Go.Proofs.YtnlonkkbjkfkmaaGreatDoor
namespace Go.Proofs.YtnlonkkbjkfkmaaGreatDoor
open Go.RowKit
set_option linter.all false
theorem worldB_few {x : Wd} (h : worldB x = true) : x.few := by
 have hf := fineX_of h
 obtain ⟨-, h12, -⟩ := levelB_facts hf.1
 exact ⟨by omega, by have := hf.2.1; omega, by have := hf.2.2.2.2.1; omega⟩
theorem stepW_few {x : Wd} {row : List Int} (h : x.few) : (stepW x row).few := by
 cases hq : worldB x with
 | false => rw [step_no (sok_w hq)]; exact h
 | true => exact worldB_few (stepW_ok hq)
end Go.Proofs.YtnlonkkbjkfkmaaGreatDoor
namespace Go.Proofs.YtnlonkkbjkfkmaaGreatDoor
open Go.RowKit
set_option linter.all false
end Go.Proofs.YtnlonkkbjkfkmaaGreatDoor
namespace Go.Proofs.YtnlonkkbjkfkmaaGreatDoor
open Go.RowKit Go.Joins Go.ChangeShapes Go.WideShapes Go.Deep
set_option linter.all false
structure Ft where
 tick : Int
 player : Int
 add : Int
def ftV (f : Ft) : Value := .agg #[.int .i64 f.tick, .int .i64 f.player, .int .i64 f.add]
def Ft.fits (f : Ft) : Prop := (Lit.int .i64 f.tick).wf = true ∧ (Lit.int .i64 f.player).wf = true ∧ (Lit.int .i64 f.add).wf = true
def faultB (f : Ft) (n : Int) : Bool := inR f.tick 0 400 && (inR f.player 0 (n - 1) && inR f.add 0 9)
theorem faultB_tick {f : Ft} {n : Int} (h : inR f.tick 0 400 = false) : faultB f n = false := by unfold faultB; rw [h]; rfl
theorem faultB_player {f : Ft} {n : Int} (h : inR f.player 0 (n - 1) = false) : faultB f n = false := by unfold faultB; rw [h]; simp
theorem inR_no {n lo hi : Int} (h : ¬ (lo ≤ n ∧ n ≤ hi)) : inR n lo hi = false := by
 cases e : inR n lo hi with
 | false => rfl
 | true => exact absurd ((inR_iff _ _ _).1 e) h
theorem inR_yes {n lo hi : Int} (h : lo ≤ n ∧ n ≤ hi) : inR n lo hi = true := (inR_iff _ _ _).2 h
theorem toFault_any (f : Ft) (w : World) : Calls Tryz.prog 25 #[ftV f] w fun e w' => e = .returned (ftV f) ∧ Below w.heap.size w w' := by
 unfold ftV
 go_enter Tryz.func25, Tryz.ntmps25
 go_wp2_with (fail)
 refine bodyPost_ret (results_cell_row rfl _ _ (w.heap.size + 1) 53 #[.int .i64 f.tick, .int .i64 f.player, .int .i64 f.add] (0, 0) ?d ?hp ?hg ?hu ?hd ?hi) rfl ?_
 case hp => rfl
 case hg => rw [heap_alloc_old _ _ (by simp)]; exact heap_at _ _ (by simp)
 case hu => exact Tryz.underlying53
 case hd => rfl
 case hi => kernel_rfl
 exact ⟨rfl, (below2 _ _ _).alloc (by simp; omega) _⟩
set_option maxHeartbeats 1000000 in
theorem faultOk_impl (f : Ft) (n : Int) (w : World) : Calls Tryz.prog 80 #[ftV f, .int .i64 n] w fun e w' => e = .returned (.bool (faultB f n)) ∧ Below w.heap.size w w' := by
 unfold ftV
 go_enter Tryz.func80, Tryz.ntmps80
 go_wp2_with (fail)
 refine (within_impl _ _ _ _).mono ?_
 rintro e w1 ⟨rfl, rfl⟩
 cases q1 : inR f.tick 0 400 with
 | false =>
  have HF := Lib.hid (faultB_tick (n := n) q1)
  clear q1
  go_wp2_with (fail)
  go_ret
  exact ⟨by rw [HF.out]; rfl, below1 _ _⟩
 | true =>
  have Q1 := Lib.hid q1
  clear q1
  by_cases p1 : 0 ≤ f.player
  ·have z1 : decide (0 ≤ f.player) = true := by simpa using p1
   by_cases p2 : f.player < n
   ·have z2 : decide (f.player < n) = true := by simpa using p2
    have Q2 := Lib.hid (inR_yes (n := f.player) (lo := 0) (hi := n - 1) ⟨p1, by omega⟩)
    go_wp2_with (fail)
    refine (within_impl _ _ _ _).mono ?_
    rintro e w1 ⟨rfl, rfl⟩
    have HF : Hid (inR f.add 0 9 = faultB f n) := Lib.hid (by unfold faultB; rw [Q1.out, Q2.out]; rfl)
    go_wp2_with (fail)
    go_ret
    exact ⟨by rw [HF.out]; rfl, below1 _ _⟩
   ·have z2 : decide (f.player < n) = false := by simpa using p2
    have HF := Lib.hid (faultB_player (f := f) (inR_no (n := f.player) (lo := 0) (hi := n - 1) (by omega)))
    go_wp2_with (fail)
    go_ret
    exact ⟨by rw [HF.out]; rfl, below1 _ _⟩
  ·have z1 : decide (0 ≤ f.player) = false := by simpa using p1
   have HF := Lib.hid (faultB_player (f := f) (inR_no (n := f.player) (lo := 0) (hi := n - 1) (by omega)))
   go_wp2_with (fail)
   go_ret
   exact ⟨by rw [HF.out]; rfl, below1 _ _⟩
set_option maxHeartbeats 1000000 in
theorem faultOk_spec (f : Ft) (n : Int) (w : World) (hn : n ≤ 9223372036854775807) : Calls Tryz.prog 78 #[ftV f, .int .i64 n] w fun e w' => e = .returned (.bool (faultB f n)) ∧ Below w.heap.size w w' := by
 unfold ftV
 by_cases p0 : 0 < n
 ·have z0 : decide (0 < n) = true := by simpa using p0
  go_enter Tryz.func78, Tryz.ntmps78
  go_wp2_with (fail)
  refine (in_spec _ _ _ _).mono ?_
  rintro e w1 ⟨rfl, rfl⟩
  cases q1 : inR f.tick 0 400 with
  | false =>
   have HF := Lib.hid (faultB_tick (n := n) q1)
   clear q1
   go_wp2_with (fail)
   go_ret
   exact ⟨by rw [HF.out]; rfl, below1 _ _⟩
  | true =>
   have Q1 := Lib.hid q1
   clear q1
   go_wp2_with (fail)
   refine (in_spec _ _ _ _).mono ?_
   rintro e w1 ⟨rfl, rfl⟩
   cases q2 : inR f.player 0 (n - 1) with
   | false =>
    have HF := Lib.hid (faultB_player q2)
    clear q2
    go_wp2_with (fail)
    go_ret
    exact ⟨by rw [HF.out]; rfl, below1 _ _⟩
   | true =>
    have Q2 := Lib.hid q2
    clear q2
    go_wp2_with (fail)
    refine (in_spec _ _ _ _).mono ?_
    rintro e w1 ⟨rfl, rfl⟩
    have HF : Hid (inR f.add 0 9 = faultB f n) := Lib.hid (by unfold faultB; rw [Q1.out, Q2.out]; rfl)
    go_wp2_with (fail)
    go_ret
    exact ⟨by rw [HF.out]; rfl, below1 _ _⟩
 ·have z0 : decide (0 < n) = false := by simpa using p0
  have HF := Lib.hid (faultB_player (f := f) (inR_no (n := f.player) (lo := 0) (hi := n - 1) (by omega)))
  go_enter Tryz.func78, Tryz.ntmps78
  go_wp2_with (fail)
  go_ret
  exact ⟨by rw [HF.out]; rfl, below1 _ _⟩
set_option maxRecDepth 100000 in
theorem open_fault {H : Type} {enc : TypeId × Value → H} {w : World} {base : Nat} {spare : Nat → Bool} {held : Bool} {r : Reach} {b0 : Nat} {v : Value} {d : DataW H} {p : List MemPlace}
  (hv : Value.okWide Tryz.prog w r b0 48 v) (h : DataW.Trod enc Tryz.prog w base spare held 48 v d p) : ∃ f : Ft, v = ftV f ∧ f.fits := by
 obtain ⟨v0, v1, v2, y0, y1, y2, n, rfl, rfl, rfl, h0, h1, h2⟩ := open_agg3 Tryz.underlying48 (by kernel_rfl) (by kernel_rfl) hv h
 obtain ⟨m0, e0, -, w0⟩ := DataW.trod_int Tryz.underlying3 h0
 obtain rfl : v0 = .int .i64 m0 := by simpa using e0
 obtain ⟨m1, e1, -, w1⟩ := DataW.trod_int Tryz.underlying3 h1
 obtain rfl : v1 = .int .i64 m1 := by simpa using e1
 obtain ⟨m2, e2, -, w2⟩ := DataW.trod_int Tryz.underlying3 h2
 obtain rfl : v2 = .int .i64 m2 := by simpa using e2
 exact ⟨⟨m0, m1, m2⟩, rfl, w0, w1, w2⟩
end Go.Proofs.YtnlonkkbjkfkmaaGreatDoor
