/-
  Texts of this proof: TkW8.
-/
import Derived.Test.YtdnnejohfhmliaaDoorM37
import Derived.Test.YtdnnejohfhmliaaDoorM45
namespace Go.Proofs.YtdnnejohfhmliaaDoor
open Go.RowKit
set_option linter.all false
set_option maxRecDepth 100000 in
set_option maxHeartbeats 16000000 in
theorem stepWorld_spec {w : World} {x : Wd} {vl vs vb : Value} (h : RdW w x vl vs vb) (hs : x.sane) (hn : x.few) {vr : Value} {row : List Int} (hr : RdI w vr row) (hrl : row.length ≤ 9223372036854775807) :
    Calls Tryd.prog 27 #[.agg (wdC x vl vs vb), vr] w (RetStW w (stepW x row)) := by
  have h0 := h
  obtain ⟨al, cl, e0, -⟩ := id h.1
  subst e0
  obtain ⟨aq, cq, e0, -⟩ := id h.2.1
  subst e0
  obtain ⟨ab, cb, e0, -⟩ := id h.2.2
  subst e0
  obtain ⟨ar, cr, e0, -⟩ := id hr
  subst e0
  obtain ⟨W0, hW, hA, hR, hB0, hS0⟩ := rows2 w #[.slice al x.rows.length cl, .int .i64 x.tick, .int .i64 x.seed, .slice aq x.scores.length cq, .slice ab x.bods.length cb] #[.slice none 0 0, .int .i64 0, .int .i64 0, .slice none 0 0, .slice none 0 0] 30 30
  have cA := rowCells hA
  have hcw := copyWorld_spec (h0.keep hB0) hn
  have hwo := fun {W : World} (hb : Below w.heap.size w W) => worldOk_spec (h0.keep hb) hs
  have hro := fun {W : World} (hb : Below w.heap.size w W) => l02RowOk_any (hr.keep hb) hrl (x.scores.length : Int)
  unfold wdC at hcw hwo ⊢
  go_enter Tryd.func27, Tryd.ntmps27
  go_wp2_with (fail)
  try rw [hW]
  clear hW
  refine hcw.mono ?_
  rintro e w1 ⟨vl', vs', vb', T, rfl, ⟨hT1, hT2⟩, hwl, hlo, hcl, hos, hob, hb1⟩
  have hA1 := keepHeap hb1 hA
  have hR1 := keepHeap hb1 hR
  have hb01 := hB0.trans (hb1.mono hB0.size)
  have hs1 := hb1.size
  obtain ⟨al', cl', e0, -⟩ := id hwl.rd
  subst e0
  obtain ⟨as', cs', e0, -⟩ := id hos.own.rd
  subst e0
  obtain ⟨ab', cb', e0, -⟩ := id hob.own.rd
  subst e0
  unfold wdC
  clear cA hcw hA hR
  go_upto_region 2 with (fail)
  obtain ⟨w2, hw2, hP2, hb2⟩ : ∃ w2, w1.alloc (.cells #[.slice al' x.rows.length cl', .int .i64 x.tick, .int .i64 x.seed, .slice as' x.scores.length cs', .slice ab' x.bods.length cb'] 30) = w2 ∧ w2.heap[w1.heap.size]? = some (.cells #[.slice al' x.rows.length cl', .int .i64 x.tick, .int .i64 x.seed, .slice as' x.scores.length cs', .slice ab' x.bods.length cb'] 30 (0, 0)) ∧ Below w1.heap.size w1 w2 := ⟨_, rfl, heap_alloc_new w1 _, below1 w1 _⟩
  rw [hw2]
  clear hw2
  have hA2 := keepHeap hb2 hA1
  have hR2 := keepHeap hb2 hR1
  have hb02 := hb01.trans (hb2.mono hb01.size)
  have hs2 := hb2.size
  have cA2 := rowCells hA2
  obtain ⟨p, hpp⟩ : ∃ p, p = w1.heap.size := ⟨_, rfl⟩
  have hTp : T ≤ p := by omega
  have hwl2 : WrS w2 W0.heap.size (.slice al' x.rows.length cl') x.rows := hwl.keep hb2
  have hx2 : BxW w2 T p x (.slice al' x.rows.length cl') (.slice as' x.scores.length cs') (.slice ab' x.bods.length cb') := ⟨by rw [hpp]; exact hP2, hTp, ⟨hwl2.up (Nat.zero_le _), hlo⟩, hos.keep hb2 (Nat.le_refl _), hob.keep hb2 (Nat.le_refl _)⟩
  rw [← hpp] at hP2 ⊢
  obtain ⟨vl', hvl⟩ : ∃ v, v = Value.slice al' x.rows.length cl' := ⟨_, rfl⟩
  clear hpp hA1 hR1 hwl hos hob
  go_wp2_with (fail)
  refine (hwo hb02).mono ?_
  rintro e w3 ⟨rfl, hb3⟩
  have hA3 := keepHeap hb3 hA2
  have hR3 := keepHeap hb3 hR2
  have hP3 := keepHeap hb3 hP2
  have hb03 := hb02.trans (hb3.mono hb02.size)
  have hs3 := hb3.size
  have hx3 := hx2.keep hb3 (Nat.le_of_lt hx2.low)
  have hwl3 := hwl2.keep hb3
  have cA3 := rowCells hA3
  have cP3 := rowCells hP3
  have cR3 := rowCells hR3
  have fR3 := fun j => frozenHeap hR3 j
  have HX3 := Lib.hid hx3
  have HO3 := Lib.hid (ownW_of (w := w3) hT1 (Nat.le_of_lt hx3.low) hwl3 hlo hx3.2.2.2.1 hx3.2.2.2.2)
  have HC3 : Hid (CapW (.slice al' x.rows.length cl') (.slice as' x.scores.length cs') (.slice ab' x.bods.length cb')) := Lib.hid ⟨hcl, hx3.2.2.2.1.capd, hx3.2.2.2.2.capd⟩
  clear cA2 hA2 hR2 hP2 hx2 hx3 hvl vl'
  cases qw : worldB x with
  | false =>
    have HQ := Lib.hid (step_no (sok_w (row := row) qw))
    clear qw
    go_wp2_with (fail)
    have hPP := putW_heap hR3 rfl (x) (.slice al' x.rows.length cl') (.slice as' x.scores.length cs') (.slice ab' x.bods.length cb')
    have hbP := putW_below hb03 (c := w.heap.size + 1) (by omega) (x) (.slice al' x.rows.length cl') (.slice as' x.scores.length cs') (.slice ab' x.bods.length cb')
    have hOwn := ((HO3.out).afar (putW_farB w3 (w.heap.size + 1) (x) (.slice al' x.rows.length cl') (.slice as' x.scores.length cs') (.slice ab' x.bods.length cb')) (by omega)).wide (lo' := w.heap.size) (hi' := (putW w3 (w.heap.size + 1) (x) (.slice al' x.rows.length cl') (.slice as' x.scores.length cs') (.slice ab' x.bods.length cb')).heap.size) (by omega) (by simp [putW])
    unfold putW at hPP hbP hOwn
    refine bodyPost_ret (results_cell_row rfl _ _ (w.heap.size + 1) 30 (wdC (x) (.slice al' x.rows.length cl') (.slice as' x.scores.length cs') (.slice ab' x.bods.length cb')) (0, 0) ?zd ?zp ?zg ?zu ?zf ?zi) rfl ?_
    case zp => rfl
    case zg => exact hPP
    case zu => exact Tryd.underlying30
    case zf => rfl
    case zi => kernel_rfl
    exact ⟨_, _, _, by first | (rw [HQ.out]; done) | (rw [HQ.out]; rfl), by rw [HQ.out]; exact hOwn, HC3.out, hbP⟩
  | true =>
    have HQW := Lib.hid qw
    clear qw
    by_cases ht : x.tick = 100000
    · have z1 : ((x.tick : Int) == 100000) = true := by simpa using ht
      have HQ := Lib.hid (step_no (sok_t (row := row) ht))
      clear ht
      go_wp2_with (fail)
      have hPP := putW_heap hR3 rfl (x) (.slice al' x.rows.length cl') (.slice as' x.scores.length cs') (.slice ab' x.bods.length cb')
      have hbP := putW_below hb03 (c := w.heap.size + 1) (by omega) (x) (.slice al' x.rows.length cl') (.slice as' x.scores.length cs') (.slice ab' x.bods.length cb')
      have hOwn := ((HO3.out).afar (putW_farB w3 (w.heap.size + 1) (x) (.slice al' x.rows.length cl') (.slice as' x.scores.length cs') (.slice ab' x.bods.length cb')) (by omega)).wide (lo' := w.heap.size) (hi' := (putW w3 (w.heap.size + 1) (x) (.slice al' x.rows.length cl') (.slice as' x.scores.length cs') (.slice ab' x.bods.length cb')).heap.size) (by omega) (by simp [putW])
      unfold putW at hPP hbP hOwn
      refine bodyPost_ret (results_cell_row rfl _ _ (w.heap.size + 1) 30 (wdC (x) (.slice al' x.rows.length cl') (.slice as' x.scores.length cs') (.slice ab' x.bods.length cb')) (0, 0) ?zd ?zp ?zg ?zu ?zf ?zi) rfl ?_
      case zp => rfl
      case zg => exact hPP
      case zu => exact Tryd.underlying30
      case zf => rfl
      case zi => kernel_rfl
      exact ⟨_, _, _, by first | (rw [HQ.out]; done) | (rw [HQ.out]; rfl), by rw [HQ.out]; exact hOwn, HC3.out, hbP⟩
    · have z1 : ((x.tick : Int) == 100000) = false := by simpa using ht
      have HT := Lib.hid ht
      clear ht
      go_wp2_with (fail)
      refine (hro hb03).mono ?_
      rintro e w4 ⟨rfl, rfl⟩
      cases qr : rokB (x.scores.length : Int) row with
      | false =>
        have HQ := Lib.hid (step_no (sok_r qr))
        clear qr
        go_wp2_with (fail)
        have hPP := putW_heap hR3 rfl (x) (.slice al' x.rows.length cl') (.slice as' x.scores.length cs') (.slice ab' x.bods.length cb')
        have hbP := putW_below hb03 (c := w.heap.size + 1) (by omega) (x) (.slice al' x.rows.length cl') (.slice as' x.scores.length cs') (.slice ab' x.bods.length cb')
        have hOwn := ((HO3.out).afar (putW_farB w3 (w.heap.size + 1) (x) (.slice al' x.rows.length cl') (.slice as' x.scores.length cs') (.slice ab' x.bods.length cb')) (by omega)).wide (lo' := w.heap.size) (hi' := (putW w3 (w.heap.size + 1) (x) (.slice al' x.rows.length cl') (.slice as' x.scores.length cs') (.slice ab' x.bods.length cb')).heap.size) (by omega) (by simp [putW])
        unfold putW at hPP hbP hOwn
        refine bodyPost_ret (results_cell_row rfl _ _ (w.heap.size + 1) 30 (wdC (x) (.slice al' x.rows.length cl') (.slice as' x.scores.length cs') (.slice ab' x.bods.length cb')) (0, 0) ?zd ?zp ?zg ?zu ?zf ?zi) rfl ?_
        case zp => rfl
        case zg => exact hPP
        case zu => exact Tryd.underlying30
        case zf => rfl
        case zi => kernel_rfl
        exact ⟨_, _, _, by first | (rw [HQ.out]; done) | (rw [HQ.out]; rfl), by rw [HQ.out]; exact hOwn, HC3.out, hbP⟩
      | true =>
        have HQ := Lib.hid (step_go (sok_ok HQW.out HT.out qr))
        obtain ⟨hrn, hrw⟩ := rokB_facts qr
        have hrn' : row.length = x.scores.length := by omega
        have hri := allW_iff.1 hrw
        have hFx := fineX_of HQW.out
        obtain ⟨-, hwt, hws, -⟩ := wd_facts HQW.out
        rw [inR_iff] at hwt hws
        have hT0 := Nat.le_of_lt HX3.out.low
        have hrow : ∀ {W : World}, Below T w3 W → RdI W (.slice ar row.length cr) row := fun hb => hr.keep (hb03.trans (hb.mono (by omega)))
        have hst := l02Step_spec HX3.out hFx hrow hrn' hri (by have := HT.out; omega) (by omega) hs.1
        clear qr hrn hrw hri hrow hrn' hFx
        go_upto_region 5 with (go_at_call 54; refine hst.mono ?_; rintro e w9 ⟨rfl, vs9, vb9, h9, hF09, hS08, hO08⟩)
        clear hst cA3 cP3 cR3 fR3
        have h9 : BxW w9 T p (stepV x row) (.slice al' x.rows.length cl') vs9 vb9 := h9
        have hb9 := hF09.1
        have hR9 : w9.heap[w.heap.size + 1]? = some (.cells #[.slice none 0 0, .int .i64 0, .int .i64 0, .slice none 0 0, .slice none 0 0] 30 (0, 0)) := (hb9.block (w.heap.size + 1) (by omega)).trans hR3
        have hb09 := hb03.trans (hb9.mono (by omega))
        have hs9 := hb9.size
        have hwl9 : WrS w9 W0.heap.size (.slice al' x.rows.length cl') (stepV x row).rows := by
          have e : (stepV x row).rows = x.rows := by rw [← HQ.out]; exact stepW_rows x row
          rw [e]; exact hwl3.same hlo (fun b _ hbT _ => hb9.block b hbT)
        have hlo9 : LowS T (.slice al' x.rows.length cl') (stepV x row).rows := h9.2.2.1.2
        have HO9 := Lib.hid (ownW_of (w := w9) hT1 (Nat.le_of_lt h9.low) hwl9 hlo9 h9.2.2.2.1 h9.2.2.2.2)
        have HC9 : Hid (CapW (.slice al' x.rows.length cl') vs9 vb9) := Lib.hid ⟨hcl, h9.2.2.2.1.capd, h9.2.2.2.2.capd⟩
        have hP9 := h9.1
        obtain ⟨as9, cs9, e9, -⟩ := id h9.rd.2.1
        subst e9
        obtain ⟨ab9, cb9, e9, -⟩ := id h9.rd.2.2
        subst e9
        unfold wdC at hP9
        have cP9 := rowCells hP9
        have cR9 := rowCells hR9
        have fR9 := fun j => frozenHeap hR9 j
        generalize hyy : stepV x row = y at *
        clear hyy h9 hF09 HX3
        go_wp2_with (fail)
        have hPP := putW_heap hR9 rfl (y) (.slice al' x.rows.length cl') (.slice as9 y.scores.length cs9) (.slice ab9 y.bods.length cb9)
        have hbP := putW_below hb09 (c := w.heap.size + 1) (by omega) (y) (.slice al' x.rows.length cl') (.slice as9 y.scores.length cs9) (.slice ab9 y.bods.length cb9)
        have hOwn := ((HO9.out).afar (putW_farB w9 (w.heap.size + 1) (y) (.slice al' x.rows.length cl') (.slice as9 y.scores.length cs9) (.slice ab9 y.bods.length cb9)) (by omega)).wide (lo' := w.heap.size) (hi' := (putW w9 (w.heap.size + 1) (y) (.slice al' x.rows.length cl') (.slice as9 y.scores.length cs9) (.slice ab9 y.bods.length cb9)).heap.size) (by omega) (by simp [putW])
        unfold putW at hPP hbP hOwn
        refine bodyPost_ret (results_cell_row rfl _ _ (w.heap.size + 1) 30 (wdC (y) (.slice al' x.rows.length cl') (.slice as9 y.scores.length cs9) (.slice ab9 y.bods.length cb9)) (0, 0) ?zd ?zp ?zg ?zu ?zf ?zi) rfl ?_
        case zp => rfl
        case zg => exact hPP
        case zu => exact Tryd.underlying30
        case zf => rfl
        case zi => kernel_rfl
        exact ⟨_, _, _, by first | (rw [HQ.out]; done) | (rw [HQ.out]; rfl), by rw [HQ.out]; exact hOwn, HC9.out, hbP⟩
end Go.Proofs.YtdnnejohfhmliaaDoor
