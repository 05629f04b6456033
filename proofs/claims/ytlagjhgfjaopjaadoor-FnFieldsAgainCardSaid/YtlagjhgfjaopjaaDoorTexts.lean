/-
  Drawn texts: l01Text, l01Holes, l01Twins. At most 2^20 drawn bytes.
-/
import Derived.Test.YtlagjhgfjaopjaaDoorDraw
import Derived.Test.YtlagjhgfjaopjaaDoorOwn
import Derived.Test.YtlagjhgfjaopjaaDoorUnzS
import Derived.Deep.RegionHeld3
import Derived.Deep.RegionWith
namespace Go.Proofs.YtlagjhgfjaopjaaDoor
open Go.RowKit
set_option linter.all false
/-- What a draw of a text leaves: at most n bytes. -/
def DrawnStr (w : World) (B c len n : Nat) (e : Ending) (w' : World) : Prop := ∃ t : List UInt8, t.length ≤ n ∧ e = .returned (.string ⟨t.toArray⟩) ∧ Cur w' B c len ∧ w.grownBy w' (some c)
theorem OwnB.grown {w w' : World} {B c : Nat} {v : Value} {l : List UInt8} (h : OwnB w B v l) (hg : w.grownBy w' (some c)) (hc : c < B) : OwnB w' B v l :=
  World.ownsRow.kept h (row := some c) ⟨hg.os, hg.tape, hg.output, hg.size, fun k hk hne => hg.block k hk hne⟩ (Or.inr fun e => by
    have h1 := (h.row.lt c e).1
    omega)
theorem grown_on {w W w' : World} {c : Nat} (h : w.grownBy W (some c)) (hb : Below w.heap.size W w') : w.grownBy w' (some c) :=
  ⟨hb.os.trans h.os, hb.tape.trans h.tape, hb.output.trans h.output, Nat.le_trans h.size hb.size, fun k hk hne => (hb.block k hk).trans (h.block k hk hne)⟩
theorem Cur.below {w w' : World} {B c len C : Nat} (h : Cur w B c len) (hb : Below C w w') (hc : c < C) : Cur w' B c len := by
  obtain ⟨hB, sl, i, x, hcell, hi, hrd⟩ := h
  exact ⟨hB, sl, i, x, (hb.block c hc).trans hcell, hi, hrd.keep fun k hk => hb.block k (by omega)⟩
set_option maxHeartbeats 1000000 in
theorem text_any {w : World} {B c len : Nat} (hcur : Cur w B c len) (hl : len ≤ 1048576) (n : Int) (hn : n ≤ 5000) :
    Calls Tryd.prog 23 #[.pointer (some ⟨c, 0, none⟩), .int .i64 n] w (DrawnStr w B c len n.toNat) := by
  have hlt := hcur.lt
  have b1 : decide (5000 < n) = false := by simpa using hn
  go_enter Tryd.func23, Tryd.ntmps23
  go_wp2_with (fail)
  go_loopw [5, 6] (fun v i wr => ∃ (k : Nat) (l : List UInt8), i = .int .i64 k ∧ k ≤ n.toNat ∧ l.length = k ∧ OwnB wr w.heap.size v l ∧ Cur wr B c len ∧ w.grownBy wr (some c)) (fun _ i _ => n.toNat - (intOf i).toNat)
  case atStart => exact ⟨0, [], rfl, Nat.zero_le _, rfl, OwnB.made w #[] w.heap.size (Nat.le_refl _) (by simp), hcur.keep (World.grownBy_alloc w _ none) (by simp), World.grownBy_alloc w _ (some c)⟩
  case round =>
    obtain ⟨k, l, rfl, hk, hll, hown, hcu, hgr⟩ := hrel
    have hsw := hgr.size
    by_cases hkn : (k : Int) < n
    · go_wp2_with (first
        | (go_at_call 30; refine (byte_any hcu hl).mono ?_; rintro e w1 ⟨x, ⟨hx0, hx1⟩, rfl, hcu1, hg1⟩; have hown1 := hown.grown hg1 hlt; have hs1 := hg1.size)
        | (at_builtin; refine app_byte rfl _ _ rfl w.heap.size _ l rfl hown1 x rfl (UInt8.ofNat x.toNat) (by simp; omega) (by omega) (by omega) ?_; intro v2 w2 hown2 hb2))
      have hgr2 := grown_on (grown_trans hgr hg1) hb2
      have hcu2 := hcu1.below hb2 hlt
      go_roundw
      case rel => exact ⟨k + 1, _, by go_num, by omega, by simp [hll], hown2, hcu2, hgr2⟩
      case measure => simp [intOf]; omega
    · have hstr := @run_str_own Tryd.prog 22 9 5 Tryd.underlying22 Tryd.underlying5 Tryd.underlying9 wr w.heap.size _ l hown
      go_wp2_with (fail)
      go_ret
      exact ⟨l, by omega, rfl, hcu, hgr⟩
theorem cur_alloc {w : World} {B c len : Nat} (h : Cur w B c len) (o : Obj) : Cur (w.alloc o) B c len := h.keep (World.grownBy_alloc w o none) (by simp)
theorem conv_at {W : World} {k m : Nat} (h : W.heap[k]? = some (.cells (madeCells #[.int .u8 0] m) 5 (0, 0))) : (convert 22 9 (.slice (some ⟨k, 0, none⟩) m m)).run Tryd.prog W = .ok (.string ⟨(List.replicate m (0 : UInt8)).toArray⟩) W := by
  have h2 := run_convert_bytes_back (P := Tryd.prog) W 22 9 5 ⟨k, 0, none⟩ m (List.replicate m (0 : UInt8)) Tryd.underlying22 Tryd.underlying5 Tryd.underlying9 ?_
  · rw [List.length_replicate] at h2; exact h2
  · intro j hj
    have hadd : (⟨k, 0, none⟩ : Addr).add j = ⟨k, j, none⟩ := by unfold Addr.add; split <;> simp_all
    rw [List.length_replicate] at hj
    rw [hadd, Lib.cell_of_heap h, ← Array.getElem?_toList, toList_madeCells_one, List.getElem_replicate, List.getElem?_replicate, if_pos hj]
    rfl
theorem conv_keep {W w' : World} {m c : Nat} (hg : (W.alloc (.cells (madeCells #[.int .u8 0] m) 5)).grownBy w' (some c)) (hc : c < W.heap.size) : (convert 22 9 (.slice (some ⟨W.heap.size, 0, none⟩) m m)).run Tryd.prog w' = .ok (.string ⟨(List.replicate m (0 : UInt8)).toArray⟩) w' :=
  conv_at ((hg.block W.heap.size (by simp) (fun e => by injection e with e; omega)).trans (heap_alloc_new W _))
theorem conv_keep2 {W w1 w' : World} {m c : Nat} (hg : (W.alloc (.cells (madeCells #[.int .u8 0] m) 5)).grownBy w1 (some c)) (hg2 : w1.grownBy w' (some c)) (hc : c < W.heap.size) : (convert 22 9 (.slice (some ⟨W.heap.size, 0, none⟩) m m)).run Tryd.prog w' = .ok (.string ⟨(List.replicate m (0 : UInt8)).toArray⟩) w' :=
  conv_keep (grown_trans hg hg2) hc
end Go.Proofs.YtlagjhgfjaopjaaDoor
