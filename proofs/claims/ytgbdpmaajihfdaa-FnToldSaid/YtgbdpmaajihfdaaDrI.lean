/-
  The model's draws of inputs.
-/
import Derived.Test.YtgbdpmaajihfdaaDraw
namespace Go.Proofs.Ytgbdpmaajihfdaa
open Go.RowKit
set_option linter.all false
theorem Cur.low {w w' : World} {B c len D : Nat} (h : Cur w B c len) (hb : Below D w w') (hD : c < D) : Cur w' B c len := by
  obtain ⟨hB, sl, i, h, hc, hi, hrd⟩ := h
  exact ⟨hB, sl, i, h, by rw [hb.block c hD]; exact hc, hi, hrd.keep fun k hk => hb.block k (by omega)⟩
theorem grown_low {w w1 w2 : World} {row : Option Nat} {D : Nat} (h : w.grownBy w1 row) (hb : Below D w1 w2) (hD : w.heap.size ≤ D) : w.grownBy w2 row :=
  ⟨hb.os.trans h.os, hb.tape.trans h.tape, hb.output.trans h.output, Nat.le_trans h.size hb.size, fun k hk hne => (hb.block k (by omega)).trans (h.block k hk hne)⟩
theorem pickP_any {w : World} {B c len : Nat} {P : Int → Prop} (hcur : Cur w B c len) (hl : len ≤ 1048576) (b n cap : Nat) (hn : 0 < n) (hn2 : n ≤ 1000000) (hb : b ≠ c) (hcells : ∀ j, j < n → ∃ x : Int, P x ∧ w.cell? ⟨b, j, none⟩ = some (.int .i64 x)) :
    Calls Try.prog 30 #[.pointer (some ⟨c, 0, none⟩), .slice (some ⟨b, 0, none⟩) n cap] w (Drawn w B c len P) := by
  go_enter Try.func30, Try.ntmps30
  go_wp2_with (fail)
  refine (below_any hcur hl _ (by omega)).mono ?_
  rintro e w1 ⟨j, ⟨hj0, hj1, _⟩, rfl, cur1, g1⟩
  obtain ⟨k, rfl⟩ := Int.eq_ofNat_of_zero_le hj0
  have hkn : k < n := by omega
  obtain ⟨x, hx, hcx⟩ := hcells k hkn
  have hc1 : w1.cell? ⟨b, k, none⟩ = some (.int .i64 x) := by
    rw [← hcx]
    exact World.cell?_of_block (w := w) (g1.block b (World.block_lt_of_cell? w _ hcx) (fun e => hb (by injection e)))
  have hk' : (k : Int) < (n : Int) := by omega
  go_wp2_with (fail)
  go_ret
  exact ⟨x, hx, rfl, cur1, g1⟩
theorem input_any {w : World} {B c len : Nat} (hcur : Cur w B c len) (hl : len ≤ 1048576) :
    Calls Try.prog 28 #[.pointer (some ⟨c, 0, none⟩)] w (Drawn w B c len fun x => 0 ≤ x ∧ x ≤ 15) := by
  have hlt := hcur.lt
  go_enter Try.func28, Try.ntmps28
  go_wp2_with (fail)
  refine (below_any hcur hl _ (by omega)).mono ?_
  rintro e w1 ⟨x, ⟨hx0, hx1, _⟩, rfl, cur1, g1⟩
  have hs1 := g1.size
  have g2 := World.grownBy_alloc w1 (.cells #[.int .i64 0, .int .i64 1, .int .i64 2, .int .i64 2, .int .i64 6, .int .i64 8, .int .i64 10, .int .i64 12, .int .i64 9, .int .i64 x] 3)
  have cur2 := cur1.keep (g2 none) (by intro k hk; cases hk)
  go_wp2_with (fail)
  refine (pickP_any (P := fun x => 0 ≤ x ∧ x ≤ 15) cur2 hl w1.heap.size 10 10 (by omega) (by omega) (by omega) (fun j hj => ?_)).mono ?_
  · rw [World.cell?_alloc_mark]
    match j, hj with
    | 0, _ => exact ⟨0, by omega, rfl⟩
    | 1, _ => exact ⟨1, by omega, rfl⟩
    | 2, _ => exact ⟨2, by omega, rfl⟩
    | 3, _ => exact ⟨2, by omega, rfl⟩
    | 4, _ => exact ⟨6, by omega, rfl⟩
    | 5, _ => exact ⟨8, by omega, rfl⟩
    | 6, _ => exact ⟨10, by omega, rfl⟩
    | 7, _ => exact ⟨12, by omega, rfl⟩
    | 8, _ => exact ⟨9, by omega, rfl⟩
    | 9, _ => exact ⟨x, by omega, rfl⟩
  rintro e w3 ⟨y, hy, rfl, cur3, g3⟩
  go_wp2_with (fail)
  go_ret
  exact ⟨y, hy, rfl, cur3, grown_trans g1 (grown_trans (g2 _) g3)⟩
end Go.Proofs.Ytgbdpmaajihfdaa
