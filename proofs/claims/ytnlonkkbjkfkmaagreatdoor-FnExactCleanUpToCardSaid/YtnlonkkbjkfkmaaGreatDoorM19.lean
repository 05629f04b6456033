/-
  Texts of this proof: LvTi.
-/
import Derived.Test.YtnlonkkbjkfkmaaGreatDoorM18
namespace Go.Proofs.YtnlonkkbjkfkmaaGreatDoor
open Go.RowKit
set_option linter.all false
def LT (w : World) (sn : List Bool) (wr : World) : Prop := wr.heap[w.heap.size]? = some (.cells (boolsV sn) 226 (0, 0)) ∧ Below w.heap.size w wr
theorem LT.set {w wr : World} {sn : List Bool} (h : LT w sn wr) {k : Nat} (hk : k < sn.length) : LT w (sn.set k true) (wr.setCell ⟨w.heap.size, k, none⟩ (.bool true)) := by
  refine ⟨?_, h.2.setCell (by simp) _⟩
  have := setHeap (k := k) (v := .bool true) h.1
  rwa [boolsV_set sn k hk] at this
theorem LT.seen {w wr : World} {sn : List Bool} (h : LT w sn wr) {k : Nat} (hk : k < sn.length) : wr.cell? ⟨w.heap.size, k, none⟩ = some (.bool (sn.getD k false)) := by
  rw [rowCells h.1 k, boolsV_at sn k hk]
set_option maxHeartbeats 8000000 in
theorem tilesOk_any {w : World} {v : Value} {L : Rowz} (h : RdS w v L) (hs : Sane L) :
    Calls Tryz.prog 157 #[v] w fun e w' => e = .returned (.bool (tilesB L)) ∧ Below w.heap.size w w' := by
  obtain ⟨a, cap, rfl, h0⟩ := id h
  have hlc : (L.length : Int) ≤ 9223372036854775807 := by have := hs.1; omega
  go_enter Tryz.func157, Tryz.ntmps157
  go_wp2_with (fail)
  go_outline
  have lw0 : LT w [false, false, false, false] (w.alloc (.cells #[.bool false, .bool false, .bool false, .bool false] 226)) := ⟨heap_alloc_new w _, below1 _ _⟩
  generalize w.alloc (.cells #[.bool false, .bool false, .bool false, .bool false] 226) = W1 at lw0 ⊢
  go_loopw [3, 11] (fun o i wr => ∃ (r : Nat) (ob : Bool) (sn : List Bool), r ≤ L.length ∧ i = .int .i64 (r : Int) ∧ o = .bool ob ∧ TilAt L r 0 ob sn ∧ LT w sn wr) (fun _ i _ => L.length - (intOf i).toNat)
  case atStart => exact ⟨0, false, _, Nat.zero_le _, rfl, rfl, TilAt.zero L, lw0⟩
  case round =>
    obtain ⟨r, ob, sn, hr, rfl, rfl, hat, lw⟩ := hrel
    by_cases hrn : r < L.length
    · obtain ⟨b, off, rfl, hc⟩ := h0.resolve_left (by intro e; rw [e] at hrn; simp at hrn)
      have hlt := World.block_lt_of_cell? w _ (hc r hrn)
      obtain ⟨row, hrow⟩ : ∃ x, x = L[r] := ⟨_, rfl⟩
      have c1 : wr.cell? ⟨b, off + r, none⟩ = some (.string ⟨row.toArray⟩) := by rw [hrow]; exact (lw.2.cell hlt).trans (hc r hrn)
      have hrl : row.length ≤ 9223372036854775807 := by rw [hrow]; exact hs.2 _ (List.getElem_mem _)
      have hrlc : (row.length : Int) ≤ 9223372036854775807 := by omega
      have hrn' : (r : Int) < (L.length : Int) := by omega
      have HR := Lib.hid hrow
      clear hrow hc h h0
      go_wp2_with (fail)
      go_loopw [3, 17] (fun o j wj => ∃ (c : Nat) (oc : Bool) (sc : List Bool), c ≤ row.length ∧ j = .int .i64 (c : Int) ∧ o = .bool oc ∧ TilAt L r c oc sc ∧ LT w sc wj) (fun _ j _ => row.length - (intOf j).toNat)
      case atStart => exact ⟨0, ob, sn, Nat.zero_le _, rfl, rfl, hat, lw⟩
      case round =>
        clear lw c1 hat
        obtain ⟨c, oc, sc, hc, rfl, rfl, hac, lw⟩ := hrel
        by_cases hcn : c < row.length
        · have hcn' : (c : Int) < (row.length : Int) := by omega
          obtain ⟨t, ht⟩ : ∃ t, t = row[c] := ⟨_, rfl⟩
          have hix : (ByteArray.mk row.toArray)[c]'hcn = t := ht.symm
          have hidx := fun W => run_at W hcn hix
          have htl : t = L[r][c]'(by rw [← HR.out]; exact hcn) := by rw [ht]; congr 1
          have hx255 := t.toNat_lt
          obtain ⟨x, hx⟩ : ∃ x : Int, x = (t.toNat : Int) := ⟨_, rfl⟩
          have hx0 : 0 ≤ x := by omega
          have hx1 : x ≤ 255 := by omega
          have hstep : ∀ o' s', tileStep t (oc, sc) = some (o', s') → TilAt L r (c + 1) o' s' := fun o' s' h2 => hac.step hrn (by rw [← HR.out]; exact hcn) (by rw [← htl]; exact h2)
          have hbad : tileStep t (oc, sc) = none → tilesB L = false := fun h2 => hac.bad hrn (by rw [← HR.out]; exact hcn) (by rw [← htl]; exact h2)
          have hsl := hac.1
          rw [← hx] at hidx
          have HB := Lib.hid hbad
          have HT := Lib.hid hstep
          have HX := Lib.hid hx
          clear hbad hstep hac htl hix hx
          by_cases t35 : x = 35
          · have HS := Lib.hid (HT.out oc sc (ts_wall (by have := HX.out; omega)))
            have z1 : (x == 35) = true := bq t35
            clear t35
            go_wp2_with (fail)
            go_roundw
            case rel => exact ⟨c + 1, _, sc, by omega, by go_num, rfl, HS.out, lw⟩
            case measure => simp [intOf]; omega
          · have z1 : (x == 35) = false := bqn t35
            by_cases tq : x = 111
            · have HS := Lib.hid (HT.out true sc (ts_open (by have := HX.out; omega)))
              have z2 : (x == 111) = true := bq tq
              clear t35 tq
              go_wp2_with (fail)
              go_roundw
              case rel => exact ⟨c + 1, _, sc, by omega, by go_num, rfl, HS.out, lw⟩
              case measure => simp [intOf]; omega
            · have z2 : (x == 111) = false := bqn tq
              by_cases tp : x = 46
              · have HS := Lib.hid (HT.out true sc (ts_open (by have := HX.out; omega)))
                have z3 : (x == 46) = true := bq tp
                clear t35 tq tp
                go_wp2_with (fail)
                go_roundw
                case rel => exact ⟨c + 1, _, sc, by omega, by go_num, rfl, HS.out, lw⟩
                case measure => simp [intOf]; omega
              · have z3 : (x == 46) = false := bqn tp
                by_cases td : 49 ≤ x ∧ x ≤ 52
                · have hd : x = 49 ∨ x = 50 ∨ x = 51 ∨ x = 52 := by omega
                  clear t35 tq tp td z1 z2 z3
                  rcases hd with rfl | rfl | rfl | rfl
                  case' inl =>
                    have ck := lw.seen (k := 0) (by omega)
                    have fk : wr.frozen? ⟨w.heap.size, 0, none⟩ = false := frozenHeap lw.1 0
                    have HD := Lib.hid (fun h => HT.out true _ (ts_digit (k := 0) (by omega) (by have := HX.out; omega) h) : sc.getD 0 false = false → _)
                    have HE := Lib.hid (fun h => HB.out (ts_seen (k := 0) (by omega) (by have := HX.out; omega) h) : sc.getD 0 false = true → _)
                    have lw2 := lw.set (k := 0) (by omega)
                    cases hsk : sc.getD 0 false
                  case' inr.inl =>
                    have ck := lw.seen (k := 1) (by omega)
                    have fk : wr.frozen? ⟨w.heap.size, 1, none⟩ = false := frozenHeap lw.1 1
                    have HD := Lib.hid (fun h => HT.out true _ (ts_digit (k := 1) (by omega) (by have := HX.out; omega) h) : sc.getD 1 false = false → _)
                    have HE := Lib.hid (fun h => HB.out (ts_seen (k := 1) (by omega) (by have := HX.out; omega) h) : sc.getD 1 false = true → _)
                    have lw2 := lw.set (k := 1) (by omega)
                    cases hsk : sc.getD 1 false
                  case' inr.inr.inl =>
                    have ck := lw.seen (k := 2) (by omega)
                    have fk : wr.frozen? ⟨w.heap.size, 2, none⟩ = false := frozenHeap lw.1 2
                    have HD := Lib.hid (fun h => HT.out true _ (ts_digit (k := 2) (by omega) (by have := HX.out; omega) h) : sc.getD 2 false = false → _)
                    have HE := Lib.hid (fun h => HB.out (ts_seen (k := 2) (by omega) (by have := HX.out; omega) h) : sc.getD 2 false = true → _)
                    have lw2 := lw.set (k := 2) (by omega)
                    cases hsk : sc.getD 2 false
                  case' inr.inr.inr =>
                    have ck := lw.seen (k := 3) (by omega)
                    have fk : wr.frozen? ⟨w.heap.size, 3, none⟩ = false := frozenHeap lw.1 3
                    have HD := Lib.hid (fun h => HT.out true _ (ts_digit (k := 3) (by omega) (by have := HX.out; omega) h) : sc.getD 3 false = false → _)
                    have HE := Lib.hid (fun h => HB.out (ts_seen (k := 3) (by omega) (by have := HX.out; omega) h) : sc.getD 3 false = true → _)
                    have lw2 := lw.set (k := 3) (by omega)
                    cases hsk : sc.getD 3 false
                  all_goals
                    rw [hsk] at ck
                    first
                      | (have HS := Lib.hid (HD.out hsk)
                         clear HD HE hsk
                         go_wp2_with (fail)
                         go_roundw
                         case rel => exact ⟨c + 1, _, _, by omega, by go_num, rfl, HS.out, lw2⟩
                         case measure => simp [intOf]; omega)
                      | (have HF := Lib.hid (HE.out hsk)
                         clear HD HE hsk
                         go_wp2_with (fail)
                         go_ret
                         exact ⟨by rw [HF.out]; rfl, lw.2⟩)
                · have HF := Lib.hid (HB.out (ts_bad (by have := HX.out; omega) (by have := HX.out; omega) (by have := HX.out; omega) (by have := HX.out; omega)))
                  have z4 : (x == 49) = false := bqn (by omega)
                  have z5 : (x == 50) = false := bqn (by omega)
                  have z6 : (x == 51) = false := bqn (by omega)
                  have z7 : (x == 52) = false := bqn (by omega)
                  clear t35 tq tp td
                  go_wp2_with (fail)
                  go_ret
                  exact ⟨by rw [HF.out]; rfl, lw.2⟩
        · have e : c = row.length := by omega
          subst e
          have HS := Lib.hid (TilAt.row hrn (by rw [← HR.out]; exact hac))
          clear hac
          go_wp2_with (fail)
          go_roundw
          case rel => exact ⟨r + 1, oc, sc, by omega, by go_num, rfl, HS.out, lw⟩
          case measure => simp [intOf]; omega
    · have e : r = L.length := by omega
      subst e
      have HF := Lib.hid hat.done
      clear hat
      go_wp2_with (fail)
      go_ret
      exact ⟨by rw [HF.out]; rfl, lw.2⟩
set_option maxHeartbeats 2000000 in
theorem levelOk_impl {w : World} {v : Value} {L : Rowz} (h : RdS w v L) (hs : Sane L) :
    Calls Tryz.prog 68 #[.agg #[v]] w fun e w' => e = .returned (.bool (levelB L)) ∧ Below w.heap.size w w' := by
  obtain ⟨a, cap, rfl, h0⟩ := id h
  have hb1 : Below w.heap.size w (w.alloc (.cells #[.slice a L.length cap] 26)) := below1 _ _
  have hr := h.keep hb1
  have hsz : (w.alloc (.cells #[.slice a L.length cap] 26)).heap.size = w.heap.size + 1 := by simp
  have S1 := shapeOk_any hr hs
  cases z1 : shapeB L with
  | false =>
    rw [z1] at S1
    have HF := Lib.hid (levelB_shape z1)
    clear z1 h0 h hr
    go_enter Tryz.func68, Tryz.ntmps68
    go_wp2_with (fail)
    refine S1.mono ?_
    rintro e w1 ⟨rfl, rfl⟩
    go_wp2_with (fail)
    go_ret
    exact ⟨by rw [HF.out]; rfl, hb1⟩
  | true =>
    have S2 := borderOk_any hr z1
    rw [z1] at S1
    cases z2 : borderB L with
    | false =>
      rw [z2] at S2
      have HF := Lib.hid (levelB_border z2)
      clear z1 z2 h0 h hr
      go_enter Tryz.func68, Tryz.ntmps68
      go_wp2_with (fail)
      refine S1.mono ?_
      rintro e w1 ⟨rfl, rfl⟩
      go_wp2_with (fail)
      refine S2.mono ?_
      rintro e w1 ⟨rfl, rfl⟩
      go_wp2_with (fail)
      go_ret
      exact ⟨by rw [HF.out]; rfl, hb1⟩
    | true =>
      rw [z2] at S2
      have S3 := tilesOk_any hr hs
      have HF := Lib.hid (show levelB L = tilesB L by unfold levelB; rw [z1, z2]; rfl)
      clear z1 z2 h0 h hr
      go_enter Tryz.func68, Tryz.ntmps68
      go_wp2_with (fail)
      refine S1.mono ?_
      rintro e w1 ⟨rfl, rfl⟩
      go_wp2_with (fail)
      refine S2.mono ?_
      rintro e w1 ⟨rfl, rfl⟩
      go_wp2_with (fail)
      refine S3.mono ?_
      rintro e w1 ⟨rfl, hb2⟩
      go_wp2_with (fail)
      go_ret
      exact ⟨by rw [HF.out]; rfl, hb1.trans (hb2.mono (by omega))⟩
end Go.Proofs.YtnlonkkbjkfkmaaGreatDoor
