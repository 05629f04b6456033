/-
  Texts of this proof: NwI, NwS, TkW7.
-/
import Derived.Test.YtnlonkkbjkfkmaaGreatDoorM19
import Derived.Test.YtnlonkkbjkfkmaaGreatDoorM38
import Derived.Test.YtnlonkkbjkfkmaaGreatDoorM11
import Derived.Deep.Cut
import Derived.Deep.CutBlock
import Derived.Test.YtnlonkkbjkfkmaaGreatDoorM36
import Derived.Test.YtnlonkkbjkfkmaaGreatDoorM32
import Derived.Test.YtnlonkkbjkfkmaaGreatDoorM33
import Derived.Test.YtnlonkkbjkfkmaaGreatDoorM35
namespace Go.Proofs.YtnlonkkbjkfkmaaGreatDoor
open Go.RowKit
set_option linter.all false
theorem putW_farB (w : World) (c : Nat) (x : Wd) (vl vs vb : Value) : FarB c (c + 1) w (putW w c x vl vs vb) :=
 ⟨putW_below (Below.refl _ _) (Nat.le_refl _) x vl vs vb, fun j hj _ => by
  unfold putW
  repeat (rw [Below.heap_setCell _ _ _ j (by show j ≠ c; omega)])⟩
def NwR (w3 wr : World) (p : Nat) (vl vs vb : Value) (s : Int) (X : List Bd) : Prop := wr.heap[p]? = some (.cells #[vl, .int .i64 0, .int .i64 s, vs, vb] 30 (0, 0)) ∧ OwnRB wr w3.heap.size vb X ∧ Below p w3 wr ∧ (∀ j, j < w3.heap.size → j ≠ p → wr.heap[j]? = w3.heap[j]?) ∧ w3.heap.size ≤ wr.heap.size
theorem NwR.far {w3 wr : World} {p : Nat} {vl vs vb : Value} {s : Int} {X : List Bd} (h : NwR w3 wr p vl vs vb s X) : FarB p (p + 1) w3 wr := ⟨h.2.2.1, fun j h1 h2 => h.2.2.2.1 j h2 (by omega)⟩
end Go.Proofs.YtnlonkkbjkfkmaaGreatDoor
namespace Go.Proofs.YtnlonkkbjkfkmaaGreatDoor
open Go.RowKit
set_option linter.all false
def NsR (w3 wr : World) (p : Nat) (vl vs vb : Value) (s : Int) (S : List Int) (X : List Bd) : Prop := wr.heap[p]? = some (.cells #[vl, .int .i64 0, .int .i64 s, vs, vb] 30 (0, 0)) ∧ OwnR wr w3.heap.size vs S ∧ OwnRB wr w3.heap.size vb X ∧ Below p w3 wr ∧ (∀ j, j < w3.heap.size → j ≠ p → wr.heap[j]? = w3.heap[j]?) ∧ w3.heap.size ≤ wr.heap.size
theorem NsR.far {w3 wr : World} {p : Nat} {vl vs vb : Value} {s : Int} {S : List Int} {X : List Bd} (h : NsR w3 wr p vl vs vb s S X) : FarB p (p + 1) w3 wr := ⟨h.2.2.2.1, fun j h1 h2 => h.2.2.2.2.1 j h2 (by omega)⟩
theorem oin_of {w : World} {B : Nat} {v : Value} {xs : List Int} (h : OwnR w B v xs) : (∃ g, v.ownBlock = some g ∧ B ≤ g ∧ g < w.heap.size ∧ OwnIn w g (g + 1) v xs) ∨ OwnIn w B B v xs := by
 obtain ⟨a, cap, e, h1⟩ := h.own
 by_cases hx : xs = []
 ·exact .inr ⟨a, cap, e, .inl hx⟩
 ·obtain ⟨g, hB, rfl, hr⟩ := h1.resolve_left hx
  refine .inl ⟨g, by rw [e]; rfl, hB, ?_, ⟨_, cap, e, .inr ⟨g, Nat.le_refl _, by omega, rfl, hr⟩⟩⟩
  exact (World.ownsRow.lt h.row g (by rw [e]; rfl)).2
theorem obd_of {w : World} {B : Nat} {v : Value} {X : List Bd} (h : OwnRB w B v X) : (∃ g, v.ownBlock = some g ∧ B ≤ g ∧ g < w.heap.size ∧ OwnBdIn w g (g + 1) v X) ∨ OwnBdIn w B B v X := by
 obtain ⟨a, cap, e, h1⟩ := h.own
 by_cases hx : X = []
 ·exact .inr ⟨a, cap, e, .inl hx⟩
 ·obtain ⟨g, hB, rfl, hr⟩ := h1.resolve_left hx
  exact .inl ⟨g, by rw [e]; rfl, hB, hr.lt hx, ⟨_, cap, e, .inr ⟨g, Nat.le_refl _, by omega, rfl, hr⟩⟩⟩
end Go.Proofs.YtnlonkkbjkfkmaaGreatDoor
namespace Go.Proofs.YtnlonkkbjkfkmaaGreatDoor
open Go.RowKit
set_option linter.all false
def RetStW (w : World) (x : Wd) (e : Ending) (w' : World) : Prop := ∃ vl vs vb, e = .returned (.agg (wdC x vl vs vb)) ∧ OwnWIn w' w.heap.size w'.heap.size x vl vs vb ∧ CapW vl vs vb ∧ Below w.heap.size w w'
theorem ownW_of {w : World} {lo T : Nat} {vl vs vb : Value} {x : Wd} (hl : lo ≤ T) (hT : T ≤ w.heap.size) (wl : WrS w lo vl x.rows) (lw : LowS T vl x.rows) (hs : OwnR w T vs x.scores) (hb : OwnRB w T vb x.bods) : OwnWIn w lo w.heap.size x vl vs vb := by
 rcases oin_of hs with ⟨g, e, h1, h2, h3⟩ | h3
 ·rcases obd_of hb with ⟨g', e', h1', h2', h3'⟩ | h3'
  ·have hne : g ≠ g' := fun hh => twoRows hs hb e (by rw [hh]; exact e')
   exact ⟨lo, T, g, g + 1, g', g' + 1, ⟨by omega, by omega, by omega⟩, ⟨by omega, by omega, by omega⟩, ⟨by omega, by omega, by omega⟩, .inl (by omega), .inl (by omega), by omega, wl, lw, h3, h3'⟩
  ·exact ⟨lo, T, g, g + 1, T, T, ⟨by omega, by omega, by omega⟩, ⟨by omega, by omega, by omega⟩, ⟨by omega, by omega, by omega⟩, .inl (by omega), .inl (by omega), .inr (by omega), wl, lw, h3, h3'⟩
 ·rcases obd_of hb with ⟨g', e', h1', h2', h3'⟩ | h3'
  ·exact ⟨lo, T, T, T, g', g' + 1, ⟨by omega, by omega, by omega⟩, ⟨by omega, by omega, by omega⟩, ⟨by omega, by omega, by omega⟩, .inl (by omega), .inl (by omega), .inl (by omega), wl, lw, h3, h3'⟩
  ·exact ⟨lo, T, T, T, T, T, ⟨by omega, by omega, by omega⟩, ⟨by omega, by omega, by omega⟩, ⟨by omega, by omega, by omega⟩, .inl (by omega), .inl (by omega), .inl (by omega), wl, lw, h3, h3'⟩
theorem step_no {x : Wd} {row : List Int} (h : stepOk x row = false) : stepW x row = x := by unfold stepW; rw [h]; rfl
theorem step_go {x : Wd} {row : List Int} (h : stepOk x row = true) : stepW x row = stepV x row := by unfold stepW; rw [h]; rfl
theorem sok_w {x : Wd} {row : List Int} (h : worldB x = false) : stepOk x row = false := by unfold stepOk; rw [h]; rfl
theorem sok_t {x : Wd} {row : List Int} (h : x.tick = 100000) : stepOk x row = false := by unfold stepOk; rw [decide_eq_false (by omega)]; simp
theorem sok_r {x : Wd} {row : List Int} (h : rokB (x.scores.length : Int) row = false) : stepOk x row = false := by unfold stepOk; rw [h]; simp
theorem sok_ok {x : Wd} {row : List Int} (h : worldB x = true) (h2 : ¬ x.tick = 100000) (h3 : rokB (x.scores.length : Int) row = true) : stepOk x row = true := by unfold stepOk; rw [h, decide_eq_true h2, h3]; rfl
set_option maxRecDepth 100000 in
set_option maxHeartbeats 16000000 in
theorem stepWorld_impl {w : World} {x : Wd} {vl vs vb : Value} (h : RdW w x vl vs vb) (hs : x.sane) (hn : x.few) {vr : Value} {row : List Int} (hr : RdI w vr row) (hrl : row.length ≤ 9223372036854775807) :
  Calls Tryz.prog 62 #[.agg (wdC x vl vs vb), vr] w (RetStW w (stepW x row)) := by
 have h0 := h
 obtain ⟨al, cl, e0, -⟩ := id h.1
 subst e0
 obtain ⟨aq, cq, e0, -⟩ := id h.2.1
 subst e0
 obtain ⟨ab, cb, e0, -⟩ := id h.2.2
 subst e0
 obtain ⟨ar, cr, e0, -⟩ := id hr
 subst e0
 obtain ⟨W0, hW, hA, hR, hB0, hS0⟩ := rows2 w #[.slice al x.rows.length cl, .int .i64 x.tick, .int .i64 x.seed, .slice aq x.scores.length cq, .slice ab x.bods.length cb] #[.slice none 0 0, .int .i64 0, .int .i64 0, .slice none 0 0, .slice none 0 0] 30 30
 have cA := rowCells hA
 have hcw := copyWorld_impl (h0.keep hB0) hn
 have hwo := fun {W : World} (hb : Below w.heap.size w W) => worldOk_impl (h0.keep hb) hs
 have hro := fun {W : World} (hb : Below w.heap.size w W) => rowOk_impl (hr.keep hb) hrl (x.scores.length : Int)
 unfold wdC at hcw hwo ⊢
 go_enter Tryz.func62, Tryz.ntmps62
 go_wp2_with (fail)
 try rw [hW]
 clear hW
 refine hcw.mono ?_
 rintro e w1 ⟨vl', vs', vb', T, rfl, ⟨hT1, hT2⟩, hwl, hlo, hcl, hos, hob, hb1⟩
 have hA1 := keepHeap hb1 hA
 have hR1 := keepHeap hb1 hR
 have hb01 := hB0.trans (hb1.mono hB0.size)
 have hs1 := hb1.size
 obtain ⟨al', cl', e0, -⟩ := id hwl.rd
 subst e0
 obtain ⟨as', cs', e0, -⟩ := id hos.own.rd
 subst e0
 obtain ⟨ab', cb', e0, -⟩ := id hob.own.rd
 subst e0
 unfold wdC
 clear cA hcw hA hR
 go_upto_region 2 with (fail)
 obtain ⟨w2, hw2, hP2, hb2⟩ : ∃ w2, w1.alloc (.cells #[.slice al' x.rows.length cl', .int .i64 x.tick, .int .i64 x.seed, .slice as' x.scores.length cs', .slice ab' x.bods.length cb'] 30) = w2 ∧ w2.heap[w1.heap.size]? = some (.cells #[.slice al' x.rows.length cl', .int .i64 x.tick, .int .i64 x.seed, .slice as' x.scores.length cs', .slice ab' x.bods.length cb'] 30 (0, 0)) ∧ Below w1.heap.size w1 w2 := ⟨_, rfl, heap_alloc_new w1 _, below1 w1 _⟩
 rw [hw2]
 clear hw2
 have hA2 := keepHeap hb2 hA1
 have hR2 := keepHeap hb2 hR1
 have hb02 := hb01.trans (hb2.mono hb01.size)
 have hs2 := hb2.size
 have cA2 := rowCells hA2
 obtain ⟨p, hpp⟩ : ∃ p, p = w1.heap.size := ⟨_, rfl⟩
 have hTp : T ≤ p := by omega
 have hwl2 : WrS w2 W0.heap.size (.slice al' x.rows.length cl') x.rows := hwl.keep hb2
 have hx2 : BxW w2 T p x (.slice al' x.rows.length cl') (.slice as' x.scores.length cs') (.slice ab' x.bods.length cb') := ⟨by rw [hpp]; exact hP2, hTp, ⟨hwl2.up (Nat.zero_le _), hlo⟩, hos.keep hb2 (Nat.le_refl _), hob.keep hb2 (Nat.le_refl _)⟩
 rw [← hpp] at hP2 ⊢
 obtain ⟨vl', hvl⟩ : ∃ v, v = Value.slice al' x.rows.length cl' := ⟨_, rfl⟩
 clear hpp hA1 hR1 hwl hos hob
 go_wp2_with (fail)
 refine (hwo hb02).mono ?_
 rintro e w3 ⟨rfl, hb3⟩
 have hA3 := keepHeap hb3 hA2
 have hR3 := keepHeap hb3 hR2
 have hP3 := keepHeap hb3 hP2
 have hb03 := hb02.trans (hb3.mono hb02.size)
 have hs3 := hb3.size
 have hx3 := hx2.keep hb3 (Nat.le_of_lt hx2.low)
 have hwl3 := hwl2.keep hb3
 have cA3 := rowCells hA3
 have cP3 := rowCells hP3
 have cR3 := rowCells hR3
 have fR3 := fun j => frozenHeap hR3 j
 have HX3 := Lib.hid hx3
 have HO3 := Lib.hid (ownW_of (w := w3) hT1 (Nat.le_of_lt hx3.low) hwl3 hlo hx3.2.2.2.1 hx3.2.2.2.2)
 have HC3 : Hid (CapW (.slice al' x.rows.length cl') (.slice as' x.scores.length cs') (.slice ab' x.bods.length cb')) := Lib.hid ⟨hcl, hx3.2.2.2.1.capd, hx3.2.2.2.2.capd⟩
 clear cA2 hA2 hR2 hP2 hx2 hx3 hvl vl'
 cases qw : worldB x with
 | false =>
  have HQ := Lib.hid (step_no (sok_w (row := row) qw))
  clear qw
  go_wp2_with (fail)
  have hPP := putW_heap hR3 rfl (x) (.slice al' x.rows.length cl') (.slice as' x.scores.length cs') (.slice ab' x.bods.length cb')
  have hbP := putW_below hb03 (c := w.heap.size + 1) (by omega) (x) (.slice al' x.rows.length cl') (.slice as' x.scores.length cs') (.slice ab' x.bods.length cb')
  have hOwn := ((HO3.out).afar (putW_farB w3 (w.heap.size + 1) (x) (.slice al' x.rows.length cl') (.slice as' x.scores.length cs') (.slice ab' x.bods.length cb')) (by omega)).wide (lo' := w.heap.size) (hi' := (putW w3 (w.heap.size + 1) (x) (.slice al' x.rows.length cl') (.slice as' x.scores.length cs') (.slice ab' x.bods.length cb')).heap.size) (by omega) (by simp [putW])
  unfold putW at hPP hbP hOwn
  refine bodyPost_ret (results_cell_row rfl _ _ (w.heap.size + 1) 30 (wdC (x) (.slice al' x.rows.length cl') (.slice as' x.scores.length cs') (.slice ab' x.bods.length cb')) (0, 0) ?zd ?zp ?zg ?zu ?zf ?zi) rfl ?_
  case zp => rfl
  case zg => exact hPP
  case zu => exact Tryz.underlying30
  case zf => rfl
  case zi => kernel_rfl
  exact ⟨_, _, _, by first | (rw [HQ.out]; done) | (rw [HQ.out]; rfl), by rw [HQ.out]; exact hOwn, HC3.out, hbP⟩
 | true =>
  have HQW := Lib.hid qw
  clear qw
  by_cases ht : x.tick = 100000
  ·have z1 : ((x.tick : Int) == 100000) = true := by simpa using ht
   have HQ := Lib.hid (step_no (sok_t (row := row) ht))
   clear ht
   go_wp2_with (fail)
   have hPP := putW_heap hR3 rfl (x) (.slice al' x.rows.length cl') (.slice as' x.scores.length cs') (.slice ab' x.bods.length cb')
   have hbP := putW_below hb03 (c := w.heap.size + 1) (by omega) (x) (.slice al' x.rows.length cl') (.slice as' x.scores.length cs') (.slice ab' x.bods.length cb')
   have hOwn := ((HO3.out).afar (putW_farB w3 (w.heap.size + 1) (x) (.slice al' x.rows.length cl') (.slice as' x.scores.length cs') (.slice ab' x.bods.length cb')) (by omega)).wide (lo' := w.heap.size) (hi' := (putW w3 (w.heap.size + 1) (x) (.slice al' x.rows.length cl') (.slice as' x.scores.length cs') (.slice ab' x.bods.length cb')).heap.size) (by omega) (by simp [putW])
   unfold putW at hPP hbP hOwn
   refine bodyPost_ret (results_cell_row rfl _ _ (w.heap.size + 1) 30 (wdC (x) (.slice al' x.rows.length cl') (.slice as' x.scores.length cs') (.slice ab' x.bods.length cb')) (0, 0) ?zd ?zp ?zg ?zu ?zf ?zi) rfl ?_
   case zp => rfl
   case zg => exact hPP
   case zu => exact Tryz.underlying30
   case zf => rfl
   case zi => kernel_rfl
   exact ⟨_, _, _, by first | (rw [HQ.out]; done) | (rw [HQ.out]; rfl), by rw [HQ.out]; exact hOwn, HC3.out, hbP⟩
  ·have z1 : ((x.tick : Int) == 100000) = false := by simpa using ht
   have HT := Lib.hid ht
   clear ht
   go_wp2_with (fail)
   refine (hro hb03).mono ?_
   rintro e w4 ⟨rfl, rfl⟩
   cases qr : rokB (x.scores.length : Int) row with
   | false =>
    have HQ := Lib.hid (step_no (sok_r qr))
    clear qr
    go_wp2_with (fail)
    have hPP := putW_heap hR3 rfl (x) (.slice al' x.rows.length cl') (.slice as' x.scores.length cs') (.slice ab' x.bods.length cb')
    have hbP := putW_below hb03 (c := w.heap.size + 1) (by omega) (x) (.slice al' x.rows.length cl') (.slice as' x.scores.length cs') (.slice ab' x.bods.length cb')
    have hOwn := ((HO3.out).afar (putW_farB w3 (w.heap.size + 1) (x) (.slice al' x.rows.length cl') (.slice as' x.scores.length cs') (.slice ab' x.bods.length cb')) (by omega)).wide (lo' := w.heap.size) (hi' := (putW w3 (w.heap.size + 1) (x) (.slice al' x.rows.length cl') (.slice as' x.scores.length cs') (.slice ab' x.bods.length cb')).heap.size) (by omega) (by simp [putW])
    unfold putW at hPP hbP hOwn
    refine bodyPost_ret (results_cell_row rfl _ _ (w.heap.size + 1) 30 (wdC (x) (.slice al' x.rows.length cl') (.slice as' x.scores.length cs') (.slice ab' x.bods.length cb')) (0, 0) ?zd ?zp ?zg ?zu ?zf ?zi) rfl ?_
    case zp => rfl
    case zg => exact hPP
    case zu => exact Tryz.underlying30
    case zf => rfl
    case zi => kernel_rfl
    exact ⟨_, _, _, by first | (rw [HQ.out]; done) | (rw [HQ.out]; rfl), by rw [HQ.out]; exact hOwn, HC3.out, hbP⟩
   | true =>
    have HQ := Lib.hid (step_go (sok_ok HQW.out HT.out qr))
    obtain ⟨hrn, hrw⟩ := rokB_facts qr
    have hrn' : row.length = x.scores.length := by omega
    have hri := allW_iff.1 hrw
    have hFx := fineX_of HQW.out
    obtain ⟨-, hwt, hws, -⟩ := wd_facts HQW.out
    rw [inR_iff] at hwt hws
    have hT0 := Nat.le_of_lt HX3.out.low
    have hrow : ∀ {W : World}, Below T w3 W → RdI W (.slice ar row.length cr) row := fun hb => hr.keep (hb03.trans (hb.mono (by omega)))
    have h1 := steerPlayers_impl HX3.out hFx hrow hrn' hri
    have hF1 := steerX_fine hFx row
    have hF2 := moveXW_fine hF1
    have hF3 := (meetX_fine hF2 1).1
    have hF4 := (meetX_fine hF3 2).1
    have HF := Lib.hid (And.intro hF1 (And.intro hF2 (And.intro hF3 hF4)))
    clear qr hrn hrw hri hrow hrn' hF1 hF2 hF3 hF4 hFx
    go_wp2_with (go_at_call 141; refine h1.mono ?_; rintro e w5 ⟨rfl, vs5, vb5, h5, hF5, hs5, ho5⟩)
    refine (moveBodies_impl h5 HF.out.1).mono ?_
    rintro e w6 ⟨rfl, vs6, vb6, h6, hF6, hs6, ho6⟩
    have hF06 := hF5.trans hF6 hs5 ho5
    have hS06 : vs6.ownBlock = (Value.slice as' x.scores.length cs').ownBlock := hs6.trans hs5
    have hO06 := ho5.trans ho6 hF5.size
    clear h5 hF5 hF6 hs5 hs6 ho5 ho6 h1 cA3 cP3 cR3 fR3
    go_wp2_with (fail)
    refine (meetPlayers_impl h6 HF.out.2.1 1 (.inl rfl)).mono ?_
    rintro e w7 ⟨rfl, vs7, vb7, h7, hF7, hs7, ho7⟩
    have hF07 := hF06.trans hF7 hS06 hO06
    have hS07 : vs7.ownBlock = (Value.slice as' x.scores.length cs').ownBlock := hs7.trans hS06
    have hO07 := hO06.trans ho7 hF06.size
    clear h6 hF06 hF7 hs7 hS06 ho7 hO06
    go_wp2_with (fail)
    refine (meetPlayers_impl h7 HF.out.2.2.1 2 (.inr rfl)).mono ?_
    rintro e w8 ⟨rfl, vs8, vb8, h8, hF8, hs8, ho8⟩
    have hF08 := hF07.trans hF8 hS07 hO07
    have hS08 : vs8.ownBlock = (Value.slice as' x.scores.length cs').ownBlock := hs8.trans hS07
    have hO08 := hO07.trans ho8 hF07.size
    clear h7 hF07 hF8 hs8 hS07 ho8 hO07
    go_wp2_with (fail)
    refine (passTime_impl h8 HF.out.2.2.2 (by show 0 ≤ x.tick ∧ x.tick < 100000; have := HT.out; omega) (by show 0 ≤ x.seed ∧ x.seed ≤ 65535; omega)).mono ?_
    rintro e w9 ⟨rfl, vs9, vb9, h9, hF9, hs9, ho9⟩
    have hF09 := hF08.trans hF9 hS08 hO08
    clear h8 hF08 hF9 hs9 hS08 ho9 hO08
    have h9 : BxW w9 T p (stepV x row) (.slice al' x.rows.length cl') vs9 vb9 := h9
    have hb9 := hF09.1
    have hR9 : w9.heap[w.heap.size + 1]? = some (.cells #[.slice none 0 0, .int .i64 0, .int .i64 0, .slice none 0 0, .slice none 0 0] 30 (0, 0)) := (hb9.block (w.heap.size + 1) (by omega)).trans hR3
    have hb09 := hb03.trans (hb9.mono (by omega))
    have hs9 := hb9.size
    have hwl9 : WrS w9 W0.heap.size (.slice al' x.rows.length cl') (stepV x row).rows := by
     have e : (stepV x row).rows = x.rows := by rw [← HQ.out]; exact stepW_rows x row
     rw [e]; exact hwl3.same hlo (fun b _ hbT _ => hb9.block b hbT)
    have hlo9 : LowS T (.slice al' x.rows.length cl') (stepV x row).rows := h9.2.2.1.2
    have HO9 := Lib.hid (ownW_of (w := w9) hT1 (Nat.le_of_lt h9.low) hwl9 hlo9 h9.2.2.2.1 h9.2.2.2.2)
    have HC9 : Hid (CapW (.slice al' x.rows.length cl') vs9 vb9) := Lib.hid ⟨hcl, h9.2.2.2.1.capd, h9.2.2.2.2.capd⟩
    have hP9 := h9.1
    obtain ⟨as9, cs9, e9, -⟩ := id h9.rd.2.1
    subst e9
    obtain ⟨ab9, cb9, e9, -⟩ := id h9.rd.2.2
    subst e9
    unfold wdC at hP9
    have cP9 := rowCells hP9
    have cR9 := rowCells hR9
    have fR9 := fun j => frozenHeap hR9 j
    generalize hyy : stepV x row = y at *
    clear hyy h9 hF09 HX3
    go_wp2_with (fail)
    have hPP := putW_heap hR9 rfl (y) (.slice al' x.rows.length cl') (.slice as9 y.scores.length cs9) (.slice ab9 y.bods.length cb9)
    have hbP := putW_below hb09 (c := w.heap.size + 1) (by omega) (y) (.slice al' x.rows.length cl') (.slice as9 y.scores.length cs9) (.slice ab9 y.bods.length cb9)
    have hOwn := ((HO9.out).afar (putW_farB w9 (w.heap.size + 1) (y) (.slice al' x.rows.length cl') (.slice as9 y.scores.length cs9) (.slice ab9 y.bods.length cb9)) (by omega)).wide (lo' := w.heap.size) (hi' := (putW w9 (w.heap.size + 1) (y) (.slice al' x.rows.length cl') (.slice as9 y.scores.length cs9) (.slice ab9 y.bods.length cb9)).heap.size) (by omega) (by simp [putW])
    unfold putW at hPP hbP hOwn
    refine bodyPost_ret (results_cell_row rfl _ _ (w.heap.size + 1) 30 (wdC (y) (.slice al' x.rows.length cl') (.slice as9 y.scores.length cs9) (.slice ab9 y.bods.length cb9)) (0, 0) ?zd ?zp ?zg ?zu ?zf ?zi) rfl ?_
    case zp => rfl
    case zg => exact hPP
    case zu => exact Tryz.underlying30
    case zf => rfl
    case zi => kernel_rfl
    exact ⟨_, _, _, by first | (rw [HQ.out]; done) | (rw [HQ.out]; rfl), by rw [HQ.out]; exact hOwn, HC9.out, hbP⟩
end Go.Proofs.YtnlonkkbjkfkmaaGreatDoor
