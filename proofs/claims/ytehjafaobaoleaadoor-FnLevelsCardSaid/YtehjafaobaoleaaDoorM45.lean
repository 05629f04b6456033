/-
  Texts of this proof: SpotI.
-/
import Derived.Test.YtehjafaobaoleaaDoorM44
namespace Go.Proofs.YtehjafaobaoleaaDoor
open Go.RowKit
set_option linter.all false
def RetP (w : World) (ps : Pairs) (e : Ending) (w' : World) : Prop := ∃ v, e = .returned v ∧ OwnP w' w.heap.size v ps ∧ Below w.heap.size w w'
theorem OwnP.up {w : World} {B C : Nat} {v : Value} {ps : Pairs} (h : OwnP w B v ps) (hC : C ≤ B) : OwnP w C v ps := by
 obtain ⟨bs, hi, h1, h2⟩ := h
 refine ⟨bs, ⟨hi.1, hi.2.1, fun b hb => ⟨by have := (hi.2.2.1 b hb).1; omega, (hi.2.2.1 b hb).2⟩, hi.2.2.2⟩, h1, ?_⟩
 rcases h2 with h2 | ⟨g, cap, cur, e, hB, r⟩
 ·exact .inl h2
 ·exact .inr ⟨g, cap, cur, e, by omega, r⟩
set_option maxRecDepth 100000 in
set_option maxHeartbeats 4000000 in
theorem spotsIn_impl {w : World} {v : Value} {L : Rowz} (h : RdS w v L) (hg : Good L) :
  Calls Tryd.prog 31 #[.agg #[v]] w (RetP w (spL L 0)) := by
 obtain ⟨a, cap, rfl, h0⟩ := id h
 obtain ⟨hn3, hn12, hw4, hw20, -⟩ := id hg
 obtain ⟨b, off, rfl, hc⟩ := h0.resolve_left (by intro e; rw [e] at hn3; simp at hn3)
 have hlt := World.block_lt_of_cell? w _ (hc 0 (by omega))
 obtain ⟨W0, hW, hA, hB0⟩ : ∃ W0, w.alloc (.cells #[.slice (some ⟨b, off, none⟩) L.length cap] 26) = W0 ∧ W0.heap[w.heap.size]? = some (.cells #[.slice (some ⟨b, off, none⟩) L.length cap] 26 (0, 0)) ∧ Below w.heap.size w W0 := ⟨_, rfl, heap_alloc_new w _, below1 _ _⟩
 have cA := rowCells hA
 have HC := Lib.hid hc
 have hnc : (L.length : Int) ≤ 12 := by omega
 have hs0 := hB0.size
 clear h h0 hc
 go_enter Tryd.func31, Tryd.ntmps31
 go_wp2_with (fail)
 clear hW
 go_loopw [3, 10] (fun v i wr => ∃ (r : Nat) (acc : Pairs), r ≤ L.length ∧ i = .int .i64 (r : Int) ∧ SpRow L r acc ∧ OwnP wr w.heap.size v acc ∧ Below w.heap.size w wr) (fun _ i _ => L.length - (intOf i).toNat)
 case atStart => exact ⟨0, [], Nat.zero_le _, rfl, SpRow.zero L, OwnP.nil _ _, hB0⟩
 case round =>
  obtain ⟨r, acc, hr, rfl, hat, hown, hbel⟩ := hrel
  have hsz := hbel.size
  by_cases hrl : r < L.length
  ·have z0 : decide ((r : Int) < (L.length : Int)) = true := by simp; omega
   have hrl' : (r : Int) < (L.length : Int) := by omega
   obtain ⟨row, hrow⟩ : ∃ x, x = L[r] := ⟨_, rfl⟩
   have cr := (hbel.cell (p := ⟨b, off + r, none⟩) hlt).trans (HC.out r hrl)
   have hrw : row.length ≤ 20 := by have := hg.row hrl; rw [← hrow] at this; omega
   rw [← hrow] at cr
   have H1 := Lib.hid (hat.at_ hrl)
   have HRW := Lib.hid hrow
   clear hat hrow
   have hrwc : (row.length : Int) ≤ 20 := by omega
   go_wp2_with (fail)
   go_loopw [3, 17] (fun v j wr => ∃ (c : Nat) (acc : Pairs), c ≤ row.length ∧ j = .int .i64 (c : Int) ∧ SpAt L r c acc ∧ OwnP wr w.heap.size v acc ∧ Below w.heap.size w wr) (fun _ j _ => row.length - (intOf j).toNat)
   case atStart => exact ⟨0, acc, Nat.zero_le _, rfl, H1.out, hown, hbel⟩
   case round =>
    obtain ⟨c, acc2, hcl, rfl, hat2, hown2, hbel2⟩ := hrel
    have hsz2 := hbel2.size
    by_cases hcr : c < row.length
    ·have z1 : decide ((c : Int) < (row.length : Int)) = true := by simp; omega
     have hcr' : (c : Int) < (row.length : Int) := by omega
     obtain ⟨ch, hch⟩ : ∃ x, x = row[c] := ⟨_, rfl⟩
     have hix : (ByteArray.mk row.toArray)[c]'hcr = ch := hch.symm
     have hidx : ∀ W, (Instr.index 9 (.string ⟨row.toArray⟩) (.int .i64 (c : Int))).run Tryd.prog W = .ok (.int .u8 (ch.toNat : Int)) W := fun W => run_at W hcr hix
     have hcrL : c < L[r].length := by rw [← HRW.out]; exact hcr
     have hchL : L[r][c] = ch := by rw [hch]; simp only [HRW.out]
     by_cases h1 : ch.toNat = 111
     ·have HN := Lib.hid (hat2.hit hrl hcrL (by rw [hchL]; exact h1))
      have z3 : ((ch.toNat : Int) == 111) = true := by simp; omega
      have hal := hat2.2
      have hao : acc2.length + 1 ≤ 1000000000 := by omega
      clear hat2 hix hch hchL h1
      have HO := Lib.hid hown2
      go_wp2_with (at_builtin; refine app_pair rfl _ _ rfl w.heap.size _ acc2 rfl HO.out (spotP r c) rfl hao hsz2 ?_; intro v1 w1 hown1 hb1)
      go_roundw
      case rel => exact ⟨c + 1, _, by omega, rfl, HN.out, hown1, hbel2.trans hb1⟩
      case measure => simp [intOf]; omega
     ·have HN := Lib.hid (hat2.miss hrl hcrL (by rw [hchL]; exact h1))
      have z3 : ((ch.toNat : Int) == 111) = false := by simp; omega
      clear hat2 hix hch hchL h1
      go_wp2_with (fail)
      go_roundw
      case rel => exact ⟨c + 1, acc2, by omega, rfl, HN.out, hown2, hbel2⟩
      case measure => simp [intOf]; omega
    ·have e : c = row.length := by omega
     subst e
     have H2 := Lib.hid (SpAt.done hrl (by rw [← HRW.out]; exact hrw) (by rw [← HRW.out]; exact hat2))
     clear hat2
     have z1 : decide ((row.length : Int) < (row.length : Int)) = false := by simp
     go_wp2_with (fail)
     go_roundw
     case rel => exact ⟨r + 1, acc2, by omega, rfl, H2.out, hown2, hbel2⟩
     case measure => simp [intOf]; omega
  ·have e : r = L.length := by omega
   subst e
   have HE := Lib.hid hat.done
   clear hat
   go_wp2_with (fail)
   go_ret
   exact ⟨_, rfl, by rw [← HE.out]; exact hown, hbel⟩
set_option maxHeartbeats 4000000 in
theorem spotsOf_impl {w : World} {v : Value} {L : Rowz} (h : RdS w v L) (hs : Sane L) :
  Calls Tryd.prog 13 #[.agg #[v]] w (RetP w (spotsP L)) := by
 obtain ⟨a, cap, rfl, h0⟩ := id h
 obtain ⟨W1, hW, hA1, hb1⟩ : ∃ W1, w.alloc (.cells #[.slice a L.length cap] 26) = W1 ∧ W1.heap[w.heap.size]? = some (.cells #[.slice a L.length cap] 26 (0, 0)) ∧ Below w.heap.size w W1 := ⟨_, rfl, heap_alloc_new w _, below1 _ _⟩
 have cA1 := rowCells hA1
 have r1 := h.keep hb1
 have hs1 := hb1.size
 go_enter Tryd.func13, Tryd.ntmps13
 go_wp2_with (fail)
 clear hW
 refine (levelOk_impl r1 hs).mono ?_
 rintro e w2 ⟨rfl, hb2⟩
 have hb12 := hb1.trans (hb2.mono hs1)
 have cA2 := rowCells (keepHeap hb2 hA1)
 have r2 := h.keep hb12
 have hs2 := hb12.size
 clear cA1
 cases hl : levelB L with
 | false =>
  have HF := Lib.hid (show spotsP L = [] by unfold spotsP; rw [hl]; rfl)
  clear hl
  go_wp2_with (fail)
  go_ret
  exact ⟨_, rfl, by rw [HF.out]; exact OwnP.nil _ _, hb12⟩
 | true =>
  have hg : Good L := levelB_facts hl
  have HF := Lib.hid (show spotsP L = spL L 0 by unfold spotsP; rw [hl]; rfl)
  clear hl
  go_wp2_with (fail)
  refine (spotsIn_impl r2 hg).mono ?_
  rintro e w3 ⟨v3, rfl, o3, hb3⟩
  go_wp2_with (fail)
  go_ret
  exact ⟨_, rfl, by rw [HF.out]; exact o3.up hs2, hb12.trans (hb3.mono hs2)⟩
end Go.Proofs.YtehjafaobaoleaaDoor
