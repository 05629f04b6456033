/-
  Texts of this proof: LvOk.
-/
import Derived.Test.YtnlonkkbjkfkmaaGreatDoorM10
import Derived.Test.YtnlonkkbjkfkmaaGreatDoorM16
import Derived.Test.YtnlonkkbjkfkmaaGreatDoorM01
import Derived.Test.YtnlonkkbjkfkmaaGreatDoorMS
namespace Go.Proofs.YtnlonkkbjkfkmaaGreatDoor
open Go.RowKit
set_option linter.all false
def boolsV (sn : List Bool) : Array Value := (sn.map Value.bool).toArray
theorem boolsV_set (sn : List Bool) (k : Nat) (hk : k < sn.length) : (boolsV sn).setIfInBounds k (.bool true) = boolsV (sn.set k true) := by
 unfold boolsV; rw [List.map_set]; simp
theorem boolsV_at (sn : List Bool) (k : Nat) (hk : k < sn.length) : (boolsV sn)[k]? = some (.bool (sn.getD k false)) := by
 unfold boolsV; simp [List.getD_eq_getElem?_getD, List.getElem?_eq_getElem hk]
def LW (w : World) (rv : Value) (sn : List Bool) (wr : World) : Prop := wr.heap[w.heap.size]? = some (.cells #[rv] 26 (0, 0)) ∧ wr.heap[w.heap.size + 1]? = some (.cells (boolsV sn) 4 (0, 0)) ∧ Below w.heap.size w wr
theorem LW.set {w wr : World} {rv : Value} {sn : List Bool} (h : LW w rv sn wr) {k : Nat} (hk : k < sn.length) : LW w rv (sn.set k true) (wr.setCell ⟨w.heap.size + 1, k, none⟩ (.bool true)) := by
 refine ⟨farHeap h.1 (by simp) _, ?_, h.2.2.setCell (by simp) _⟩
 have := setHeap (k := k) (v := .bool true) h.2.1
 rwa [boolsV_set sn k hk] at this
theorem LW.seen {w wr : World} {rv : Value} {sn : List Bool} (h : LW w rv sn wr) {k : Nat} (hk : k < sn.length) : wr.cell? ⟨w.heap.size + 1, k, none⟩ = some (.bool (sn.getD k false)) := by
 rw [rowCells h.2.1 k, boolsV_at sn k hk]
set_option maxRecDepth 100000 in
set_option maxHeartbeats 8000000 in
theorem levelOk_spec {w : World} {v : Value} {L : Rowz} (h : RdS w v L) (hs : Sane L) :
  Calls Tryz.prog 199 #[.agg #[v]] w fun e w' => e = .returned (.bool (levelB L)) ∧ Below w.heap.size w w' := by
 obtain ⟨a, cap, rfl, h0⟩ := id h
 have hlc : (L.length : Int) ≤ 9223372036854775807 := by have := hs.1; omega
 have hbx : Below w.heap.size w (w.alloc (.cells #[.slice a L.length cap] 26)) := below1 _ _
 by_cases h1 : 3 ≤ L.length ∧ L.length ≤ 12
 ·have q1 : inR (L.length : Int) 3 12 = true := by rw [inR_iff]; omega
  obtain ⟨b, off, rfl, hc⟩ := h0.resolve_left (by intro e; rw [e] at h1; simp at h1)
  have hlt := World.block_lt_of_cell? w _ (hc 0 (by omega))
  have c0 := hc 0 (by omega)
  rw [Nat.add_zero] at c0
  have hwd : (L[0]'(by omega)).length = wd L := by unfold wd; rw [headD_eq (by omega)]
  have hx3 := hs.2 _ (List.getElem_mem (h := by omega) : L[0]'(by omega) ∈ L)
  have Q := Lib.hid q1
  have HC := Lib.hid hc
  have HW := Lib.hid hwd
  obtain ⟨row0, hrow0⟩ : ∃ x, x = L[0]'(by omega) := ⟨_, rfl⟩
  rw [← hrow0] at c0 hx3 HW
  obtain ⟨W0, hW, hA, hB0, hS0⟩ : ∃ W0, w.alloc (.cells #[.slice (some ⟨b, off, none⟩) L.length cap] 26) = W0 ∧ W0.heap[w.heap.size]? = some (.cells #[.slice (some ⟨b, off, none⟩) L.length cap] 26 (0, 0)) ∧ Below w.heap.size w W0 ∧ W0.heap.size = w.heap.size + 1 :=
   ⟨_, rfl, heap_alloc_new w _, below1 _ _, by simp⟩
  have cA := rowCells hA
  have c0' := (hB0.cell (p := ⟨b, off, none⟩) hlt).trans c0
  clear hbx h h0 hc hwd q1 hrow0 c0
  have hrc : (row0.length : Int) ≤ 9223372036854775807 := by omega
  go_enter Tryz.func199, Tryz.ntmps199
  go_wp2_with (go_at_call 88; refine (in_spec _ _ _ _).mono ?_; rintro e w1 ⟨rfl, rfl⟩; rw [Q.out])
  have lw0 : LW w (.slice (some ⟨b, off, none⟩) L.length cap) [false, false, false, false] (W0.alloc (.cells #[.bool false, .bool false, .bool false, .bool false] 4)) := ⟨keepHeap (below1 _ _) hA, heap_at _ _ (by omega), hB0.trans ((below1 _ _).mono (by omega))⟩
  clear hW hA cA hB0 hS0 c0'
  generalize W0.alloc (.cells #[.bool false, .bool false, .bool false, .bool false] 4) = W1 at lw0 ⊢
  have HN := Lib.hid h1
  have hwl := HW.out
  have HW2 := Lib.hid hwl
  clear hwl h1 HW
  go_loopw [4, 6] (fun o i wr => ∃ (r : Nat) (ob : Bool) (sn : List Bool), r ≤ L.length ∧ i = .int .i64 (r : Int) ∧ o = .bool ob ∧ SpecAt L r 0 ob sn ∧ (0 < r → 4 ≤ row0.length ∧ row0.length ≤ 20) ∧ LW w (.slice (some ⟨b, off, none⟩) L.length cap) sn wr) (fun _ i _ => L.length - (intOf i).toNat)
  case atStart => exact ⟨0, false, _, Nat.zero_le _, rfl, rfl, SpecAt.zero L, by omega, lw0⟩
  case round =>
   obtain ⟨r, ob, sn, hr, rfl, rfl, hat, hrg, lw⟩ := hrel
   have cA := rowCells lw.1
   by_cases hrn : r < L.length
   ·obtain ⟨row, hrow⟩ : ∃ x, x = L[r] := ⟨_, rfl⟩
    have c1 : wr.cell? ⟨b, off + r, none⟩ = some (.string ⟨row.toArray⟩) := by rw [hrow]; exact (lw.2.2.cell hlt).trans (HC.out r hrn)
    have hrl : row.length ≤ 9223372036854775807 := by rw [hrow]; exact hs.2 _ (List.getElem_mem _)
    have hrlc : (row.length : Int) ≤ 9223372036854775807 := by omega
    have hrn' : (r : Int) < (L.length : Int) := by omega
    by_cases hl : row.length = row0.length
    ·have HL := Lib.hid hl
     have z1 : ((row.length : Int) != (row0.length : Int)) = false := by simp; omega
     by_cases hq : 4 ≤ row0.length ∧ row0.length ≤ 20
     ·have q2 : inR (row0.length : Int) 4 20 = true := by rw [inR_iff]; omega
      have Q2 := Lib.hid q2
      have HR := Lib.hid hrow
      have hlow : LW w (.slice (some ⟨b, off, none⟩) L.length cap) sn wr := lw
      clear q2 hl hrow
      go_wp2_with (go_at_call 88; refine (in_spec _ _ _ _).mono ?_; rintro e w1 ⟨rfl, rfl⟩; rw [Q2.out])
      go_loopw [4, 7] (fun o j wj => ∃ (c : Nat) (oc : Bool) (sc : List Bool), c ≤ row0.length ∧ j = .int .i64 (c : Int) ∧ o = .bool oc ∧ SpecAt L r c oc sc ∧ LW w (.slice (some ⟨b, off, none⟩) L.length cap) sc wj) (fun _ j _ => row0.length - (intOf j).toNat)
      case atStart => exact ⟨0, ob, sn, Nat.zero_le _, rfl, rfl, hat, hlow⟩
      case round =>
       clear hlow lw cA c1 hat
       obtain ⟨c, oc, sc, hc, rfl, rfl, hac, lw⟩ := hrel
       have cA := rowCells lw.1
       have c1 : wr.cell? ⟨b, off + r, none⟩ = some (.string ⟨row.toArray⟩) := by rw [HR.out]; exact (lw.2.2.cell hlt).trans (HC.out r hrn)
       by_cases hcn : c < row0.length
       ·have hcr : c < row.length := by rw [HL.out]; exact hcn
        have hcn' : (c : Int) < (row0.length : Int) := by omega
        obtain ⟨t, ht⟩ : ∃ t, t = row[c] := ⟨_, rfl⟩
        have hix : (ByteArray.mk row.toArray)[c]'hcr = t := ht.symm
        have hidx := fun W => run_at W hcr hix
        have htl : t = L[r][c]'(by rw [← HR.out]; exact hcr) := by rw [ht]; congr 1
        have hx255 := t.toNat_lt
        obtain ⟨x, hx⟩ : ∃ x : Int, x = (t.toNat : Int) := ⟨_, rfl⟩
        have hx0 : 0 ≤ x := by omega
        have hx1 : x ≤ 255 := by omega
        have hlc : L[r].length = row0.length := by rw [← HR.out]; exact HL.out
        have hstep : ∀ o' s', (edgeP L r c → x = 35) → tileStep t (oc, sc) = some (o', s') → SpecAt L r (c + 1) o' s' := fun o' s' h1 h2 => hac.step hrn (by rw [hlc]; exact hcn) (fun he => by rw [← htl, ← UInt8.toNat_inj]; have := h1 he; show t.toNat = 35; omega) (by rw [← htl]; exact h2)
        have hbad : tileStep t (oc, sc) = none → levelB L = false := fun h2 => levelB_tiles (hac.2.2.bad hrn (by rw [hlc]; exact hcn) (by rw [← htl]; exact h2))
        have hbord : edgeP L r c → x ≠ 35 → levelB L = false := fun he h2 => levelB_border (borderB_no hrn (by rw [hlc]; exact hcn) (by rw [hlc, HW2.out]) he (fun e => h2 (by rw [hx, htl, e]; rfl)))
        have hsl := hac.2.2.1
        rw [← hx] at hidx
        have HB := Lib.hid hbad
        have HT := Lib.hid hstep
        have HX := Lib.hid hx
        clear hbad hstep hac htl hix hx
        have hed : edgeP L r c ↔ (r = 0 ∨ c = 0 ∨ r + 1 = L.length ∨ c + 1 = row0.length) := by unfold edgeP; rw [HW2.out]
        by_cases he : edgeP L r c
        ·have H35 := Lib.hid (hbord he)
         have hed2 := hed.1 he
         clear hbord hed
         have h4 : (r = 0) ∨ (r ≠ 0 ∧ c = 0) ∨ (r ≠ 0 ∧ c ≠ 0 ∧ r + 1 = L.length) ∨ (r ≠ 0 ∧ c ≠ 0 ∧ r + 1 ≠ L.length ∧ c + 1 = row0.length) := by omega
         clear hed2 he
         rcases h4 with h4 | ⟨h4, h5⟩ | ⟨h4, h5, h6⟩ | ⟨h4, h5, h6, h7⟩
         case' inl =>
          have e1 : ((r : Int) == 0) = true := bq (by omega)
          clear h4
         case' inr.inl =>
          have e1 : ((r : Int) == 0) = false := bqn (by omega)
          have e2 : ((c : Int) == 0) = true := bq (by omega)
          clear h4 h5
         case' inr.inr.inl =>
          have e1 : ((r : Int) == 0) = false := bqn (by omega)
          have e2 : ((c : Int) == 0) = false := bqn (by omega)
          have e3 : ((r : Int) == (L.length : Int) - 1) = true := bq (by omega)
          clear h4 h5 h6
         case' inr.inr.inr =>
          have e1 : ((r : Int) == 0) = false := bqn (by omega)
          have e2 : ((c : Int) == 0) = false := bqn (by omega)
          have e3 : ((r : Int) == (L.length : Int) - 1) = false := bqn (by omega)
          have e4 : ((c : Int) == (row0.length : Int) - 1) = true := bq (by omega)
          clear h4 h5 h6 h7
         all_goals
          by_cases t35 : x = 35
          ·have HS := Lib.hid (HT.out oc sc (fun _ => t35) (ts_wall (by have := HX.out; omega)))
           have z1 : (x == 35) = true := bq t35
           have z2 : (x != 35) = false := nqn t35
           clear t35
           cases oc
           all_goals
            go_wp2_with (fail)
            go_roundw
            case rel => exact ⟨c + 1, _, sc, by omega, by go_num, rfl, HS.out, lw⟩
            case measure => simp [intOf]; omega
          ·have HF := Lib.hid (H35.out t35)
           have z1 : (x == 35) = false := bqn t35
           clear t35
           go_wp2_with (fail)
           go_ret
           exact ⟨by rw [HF.out]; rfl, lw.2.2⟩
        ·have hne : ¬ (r = 0 ∨ c = 0 ∨ r + 1 = L.length ∨ c + 1 = row0.length) := fun h => he (hed.2 h)
         have e1 : ((r : Int) == 0) = false := bqn (by omega)
         have e2 : ((c : Int) == 0) = false := bqn (by omega)
         have e3 : ((r : Int) == (L.length : Int) - 1) = false := bqn (by omega)
         have e4 : ((c : Int) == (row0.length : Int) - 1) = false := bqn (by omega)
         have HE := Lib.hid (fun h => absurd h he : edgeP L r c → x = 35)
         clear hbord hed he hne
         by_cases t35 : x = 35
         ·have HS := Lib.hid (HT.out oc sc (fun _ => t35) (ts_wall (by have := HX.out; omega)))
          have z1 : (x == 35) = true := bq t35
          have z2 : (x != 35) = false := nqn t35
          clear t35
          cases oc
          all_goals
           go_wp2_with (fail)
           go_roundw
           case rel => exact ⟨c + 1, _, sc, by omega, by go_num, rfl, HS.out, lw⟩
           case measure => simp [intOf]; omega
         ·have z1 : (x == 35) = false := bqn t35
          have z2 : (x != 35) = true := nq t35
          by_cases tq : x = 111 ∨ x = 46
          ·have HS := Lib.hid (HT.out true sc HE.out (ts_open (by have := HX.out; omega)))
           rcases tq with tq | tq
           case' inl =>
            have z3 : (x != 111) = false := nqn tq
            have z4 : decide (49 ≤ x) = true := by simp; omega
            have z5 : decide (x ≤ 52) = false := by simp; omega
            clear tq t35
           case' inr =>
            have z3 : (x != 111) = true := nq (by omega)
            have z6 : (x != 46) = false := nqn tq
            have z4 : decide (49 ≤ x) = false := by simp; omega
            clear tq t35
           all_goals
            cases oc
            all_goals
             go_wp2_with (fail)
             go_roundw
             case rel => exact ⟨c + 1, _, sc, by omega, by go_num, rfl, HS.out, lw⟩
             case measure => simp [intOf]; omega
          ·have z3 : (x != 111) = true := nq (by omega)
           have z6 : (x != 46) = true := nq (by omega)
           by_cases td : 49 ≤ x ∧ x ≤ 52
           ·obtain ⟨k, hk⟩ : ∃ k : Nat, x - 49 = (k : Int) := ⟨(x - 49).toNat, by omega⟩
            have hk4 : k < 4 := by omega
            have hk4' : (k : Int) < 4 := by omega
            have z4 : decide (49 ≤ x) = true := by simp; omega
            have z5 : decide (x ≤ 52) = true := by simp; omega
            have z7 : decide (x < 49) = false := by simp; omega
            have z8 : decide (52 < x) = false := by simp; omega
            have ck := lw.seen (k := k) (by rw [hsl]; exact hk4)
            have fk : wr.frozen? ⟨w.heap.size + 1, k, none⟩ = false := frozenHeap lw.2.1 k
            obtain ⟨td1, td2⟩ := td
            cases hsk : sc.getD k false with
            | true =>
             rw [hsk] at ck
             have HF := Lib.hid (HB.out (ts_seen hk4 (by have := HX.out; omega) hsk))
             have HK := Lib.hid hsk
             clear hsk t35 tq
             go_wp2_with (fail)
             go_ret
             exact ⟨by rw [HF.out]; rfl, lw.2.2⟩
            | false =>
             rw [hsk] at ck
             have HS := Lib.hid (HT.out true _ HE.out (ts_digit hk4 (by have := HX.out; omega) hsk))
             have lw2 := lw.set (k := k) (by rw [hsl]; exact hk4)
             have HK := Lib.hid hsk
             clear hsk t35 tq
             cases oc
             all_goals
              go_wp2_with (fail)
              go_roundw
              case rel => exact ⟨c + 1, _, _, by omega, by go_num, rfl, HS.out, lw2⟩
              case measure => simp [intOf]; omega
           ·have HF := Lib.hid (HB.out (ts_bad (by have := HX.out; omega) (by have := HX.out; omega) (by have := HX.out; omega) (by have := HX.out; omega)))
            by_cases tl : x < 49
            ·have z7 : decide (x < 49) = true := by simp; omega
             clear tq t35 td tl
             go_wp2_with (fail)
             go_ret
             exact ⟨by rw [HF.out]; rfl, lw.2.2⟩
            ·have z7 : decide (x < 49) = false := by simp; omega
             have z8 : decide (52 < x) = true := by simp; omega
             clear tq t35 td tl
             go_wp2_with (fail)
             go_ret
             exact ⟨by rw [HF.out]; rfl, lw.2.2⟩
       ·have e : c = row0.length := by omega
        subst e
        have HS := Lib.hid (SpecAt.row hrn (by rw [← HR.out, HL.out, HW2.out]) (by rw [← HW2.out]; exact hac))
        clear hac
        go_wp2_with (fail)
        go_roundw
        case rel => exact ⟨r + 1, oc, sc, by omega, by go_num, rfl, HS.out, fun _ => hq, lw⟩
        case measure => simp [intOf]; omega
     ·have q2 : inR (row0.length : Int) 4 20 = false := by rw [Bool.eq_false_iff]; intro e; rw [inR_iff] at e; omega
      have Q2 := Lib.hid q2
      have HF := Lib.hid (levelB_shape (shapeB_no (L := L) (fun hh => hq (by rw [HW2.out]; exact ⟨hh.2.2.1, hh.2.2.2.1⟩))))
      clear q2 hl hrow hat hq
      go_wp2_with (go_at_call 88; refine (in_spec _ _ _ _).mono ?_; rintro e w1 ⟨rfl, rfl⟩; rw [Q2.out])
      go_ret
      exact ⟨by rw [HF.out]; rfl, lw.2.2⟩
    ·have z1 : ((row.length : Int) != (row0.length : Int)) = true := by simp; omega
     have HF := Lib.hid (levelB_shape (shapeB_no (L := L) (fun hh => hl (by rw [HW2.out, hrow]; exact hh.2.2.2.2 _ (List.getElem_mem _)))))
     clear hl hrow hat
     go_wp2_with (fail)
     go_ret
     exact ⟨by rw [HF.out]; rfl, lw.2.2⟩
   ·have e : r = L.length := by omega
    subst e
    have hn := HN.out
    have hg := hrg (by omega)
    have HF := Lib.hid (hat.done hn.1 hn.2 (by rw [← HW2.out]; exact hg.1) (by rw [← HW2.out]; exact hg.2))
    clear hat hn hg
    go_wp2_with (fail)
    go_ret
    exact ⟨by rw [HF.out]; rfl, lw.2.2⟩
 ·have q1 : inR (L.length : Int) 3 12 = false := by rw [Bool.eq_false_iff]; intro e; rw [inR_iff] at e; omega
  have HF := Lib.hid (levelB_shape (shapeB_no (L := L) (fun hh => h1 ⟨hh.1, hh.2.1⟩)))
  have Q := Lib.hid q1
  clear h1 q1 h0 h
  go_enter Tryz.func199, Tryz.ntmps199
  go_wp2_with (go_at_call 88; refine (in_spec _ _ _ _).mono ?_; rintro e w1 ⟨rfl, rfl⟩; rw [Q.out])
  go_ret
  exact ⟨by rw [HF.out]; rfl, hbx⟩
end Go.Proofs.YtnlonkkbjkfkmaaGreatDoor
