/-
  Texts of this proof: DrI, Lst.
-/
import Derived.Test.YtnlonkkbjkfkmaaDoorM01
import Derived.Test.YtnlonkkbjkfkmaaDoorM00
namespace Go.Proofs.YtnlonkkbjkfkmaaDoor
open Go.RowKit
set_option linter.all false
theorem Cur.low {w w' : World} {B c len D : Nat} (h : Cur w B c len) (hb : Below D w w') (hD : c < D) : Cur w' B c len := by
 obtain ⟨hB, sl, i, h, hc, hi, hrd⟩ := h
 exact ⟨hB, sl, i, h, by rw [hb.block c hD]; exact hc, hi, hrd.keep fun k hk => hb.block k (by omega)⟩
theorem grown_low {w w1 w2 : World} {row : Option Nat} {D : Nat} (h : w.grownBy w1 row) (hb : Below D w1 w2) (hD : w.heap.size ≤ D) : w.grownBy w2 row :=
 ⟨hb.os.trans h.os, hb.tape.trans h.tape, hb.output.trans h.output, Nat.le_trans h.size hb.size, fun k hk hne => (hb.block k (by omega)).trans (h.block k hk hne)⟩
theorem pickP_any {w : World} {B c len : Nat} {P : Int → Prop} (hcur : Cur w B c len) (hl : len ≤ 1048576) (b n cap : Nat) (hn : 0 < n) (hn2 : n ≤ 1000000) (hb : b ≠ c) (hcells : ∀ j, j < n → ∃ x : Int, P x ∧ w.cell? ⟨b, j, none⟩ = some (.int .i64 x)) :
  Calls Tryd.prog 133 #[.pointer (some ⟨c, 0, none⟩), .slice (some ⟨b, 0, none⟩) n cap] w (Drawn w B c len P) := by
 go_enter Tryd.func133, Tryd.ntmps133
 go_wp2_with (fail)
 refine (below_any hcur hl _ (by omega)).mono ?_
 rintro e w1 ⟨j, ⟨hj0, hj1, _⟩, rfl, cur1, g1⟩
 obtain ⟨k, rfl⟩ := Int.eq_ofNat_of_zero_le hj0
 have hkn : k < n := by omega
 obtain ⟨x, hx, hcx⟩ := hcells k hkn
 have hc1 : w1.cell? ⟨b, k, none⟩ = some (.int .i64 x) := by
  rw [← hcx]
  exact World.cell?_of_block (w := w) (g1.block b (World.block_lt_of_cell? w _ hcx) (fun e => hb (by injection e)))
 have hk' : (k : Int) < (n : Int) := by omega
 go_wp2_with (fail)
 go_ret
 exact ⟨x, hx, rfl, cur1, g1⟩
theorem input_any {w : World} {B c len : Nat} (hcur : Cur w B c len) (hl : len ≤ 1048576) :
  Calls Tryd.prog 114 #[.pointer (some ⟨c, 0, none⟩)] w (Drawn w B c len fun x => 0 ≤ x ∧ x ≤ 15) := by
 have hlt := hcur.lt
 go_enter Tryd.func114, Tryd.ntmps114
 go_wp2_with (fail)
 refine (below_any hcur hl _ (by omega)).mono ?_
 rintro e w1 ⟨x, ⟨hx0, hx1, _⟩, rfl, cur1, g1⟩
 have hs1 := g1.size
 have g2 := World.grownBy_alloc w1 (.cells #[.int .i64 0, .int .i64 1, .int .i64 2, .int .i64 2, .int .i64 6, .int .i64 8, .int .i64 10, .int .i64 12, .int .i64 9, .int .i64 x] 3)
 have cur2 := cur1.keep (g2 none) (by intro k hk; cases hk)
 go_wp2_with (fail)
 refine (pickP_any (P := fun x => 0 ≤ x ∧ x ≤ 15) cur2 hl w1.heap.size 10 10 (by omega) (by omega) (by omega) (fun j hj => ?_)).mono ?_
 ·rw [World.cell?_alloc_mark]
  match j, hj with
  | 0, _ => exact ⟨0, by omega, rfl⟩
  | 1, _ => exact ⟨1, by omega, rfl⟩
  | 2, _ => exact ⟨2, by omega, rfl⟩
  | 3, _ => exact ⟨2, by omega, rfl⟩
  | 4, _ => exact ⟨6, by omega, rfl⟩
  | 5, _ => exact ⟨8, by omega, rfl⟩
  | 6, _ => exact ⟨10, by omega, rfl⟩
  | 7, _ => exact ⟨12, by omega, rfl⟩
  | 8, _ => exact ⟨9, by omega, rfl⟩
  | 9, _ => exact ⟨x, by omega, rfl⟩
 rintro e w3 ⟨y, hy, rfl, cur3, g3⟩
 go_wp2_with (fail)
 go_ret
 exact ⟨y, hy, rfl, cur3, grown_trans g1 (grown_trans (g2 _) g3)⟩
end Go.Proofs.YtnlonkkbjkfkmaaDoor
namespace Go.Proofs.YtnlonkkbjkfkmaaDoor
open Go.RowKit
set_option linter.all false

def RdI (w : World) (v : Value) (xs : List Int) : Prop :=
 ∃ a cap, v = .slice a xs.length cap ∧ (xs = [] ∨ ∃ b off, a = some ⟨b, off, none⟩ ∧ ∀ j (h : j < xs.length), w.cell? ⟨b, off + j, none⟩ = some (.int .i64 xs[j]))
def RowI (w : World) (b : Nat) (xs : List Int) : Prop := (∀ j (h : j < xs.length), w.cell? ⟨b, j, none⟩ = some (.int .i64 xs[j])) ∧ ∀ j, j < xs.length → w.frozen? ⟨b, j, none⟩ = false
def OwnI (w : World) (B : Nat) (v : Value) (xs : List Int) : Prop :=
 ∃ a cap, v = .slice a xs.length cap ∧ (xs = [] ∨ ∃ b, B ≤ b ∧ a = some ⟨b, 0, none⟩ ∧ RowI w b xs)
theorem OwnI.rd {w : World} {B : Nat} {v : Value} {xs : List Int} (h : OwnI w B v xs) : RdI w v xs := by
 obtain ⟨a, cap, hv, h⟩ := h
 refine ⟨a, cap, hv, ?_⟩
 rcases h with h | ⟨b, hB, ha, hr⟩
 ·exact .inl h
 ·exact .inr ⟨b, 0, ha, fun j hj => by rw [Nat.zero_add]; exact hr.1 j hj⟩
theorem RdI.keep {w w' : World} {v : Value} {xs : List Int} (h : RdI w v xs) (hb : Below w.heap.size w w') : RdI w' v xs := by
 obtain ⟨a, cap, hv, h⟩ := h
 refine ⟨a, cap, hv, ?_⟩
 rcases h with h | ⟨b, off, ha, hr⟩
 ·exact .inl h
 ·refine .inr ⟨b, off, ha, fun j hj => ?_⟩
  have := hr j hj
  rw [← this]
  exact hb.cell (World.block_lt_of_cell? w _ this)
theorem RowI.keep {w w' : World} {b : Nat} {xs : List Int} (h : RowI w b xs) (hx : xs ≠ []) {C : Nat} (hb : Below C w w') (hC : b < C) : RowI w' b xs :=
 ⟨fun j hj => by rw [← h.1 j hj]; exact hb.cell hC, fun j hj => by rw [← h.2 j hj]; exact hb.frozen hC⟩
theorem RowI.lt {w : World} {b : Nat} {xs : List Int} (h : RowI w b xs) (hx : xs ≠ []) : b < w.heap.size := by
 have : 0 < xs.length := List.length_pos_iff.2 hx
 exact World.block_lt_of_cell? w _ (h.1 0 this)
theorem OwnI.keep {w w' : World} {B : Nat} {v : Value} {xs : List Int} (h : OwnI w B v xs) (hb : Below w.heap.size w w') : OwnI w' B v xs := by
 obtain ⟨a, cap, hv, h⟩ := h
 refine ⟨a, cap, hv, ?_⟩
 by_cases hx : xs = []
 ·exact .inl hx
 rcases h with h | ⟨b, hB, ha, hr⟩
 ·exact .inl h
 ·exact .inr ⟨b, hB, ha, hr.keep hx hb (hr.lt hx)⟩
theorem RowI.set {w : World} {b : Nat} {xs : List Int} (h : RowI w b xs) (k : Nat) (hk : k < xs.length) (x : Int) : RowI (w.setCell ⟨b, k, none⟩ (.int .i64 x)) b (xs.set k x) := by
 refine ⟨fun j hj => ?_, fun j hj => ?_⟩
 ·rw [List.length_set] at hj
  by_cases e : k = j
  ·subst e
   rw [List.getElem_set_self]
   exact World.cell?_setCell_same _ _ _ (h.1 k hk)
  ·rw [List.getElem_set_ne e]
   rw [World.cell?_setCell_other _ _ _ _ (by simpa using e)]
   exact h.1 j hj
 ·rw [List.length_set] at hj
  rw [World.frozen?_setCell]; exact h.2 j hj
theorem RowI.zeros (w : World) (n : Nat) : RowI (w.alloc (.cells (madeCells #[.int .i64 0] n) 3)) w.heap.size (List.replicate n 0) := by
 refine ⟨fun j hj => ?_, fun j hj => ?_⟩
 ·rw [List.length_replicate] at hj
  rw [World.cell?_alloc_mark, List.getElem_replicate, ← Array.getElem?_toList, toList_madeCells_one]
  simp [hj]
 ·rw [World.frozen?_alloc_mark]; simp
theorem RdI.of_row {w : World} {a : Option Addr} {len cap : Nat} {zs : List Int} (h : IsRow .i64 w a len cap zs) : RdI w (.slice a len cap) (zs.take len) ∧ (zs.take len).length = len ∧ ∀ n ∈ zs.take len, (Lit.int .i64 n).wf = true := by
 rcases h with ⟨rfl, rfl, rfl, rfl⟩ | ⟨x, rfl, hl, hm, hz, hc, hw⟩
 ·exact ⟨⟨none, 0, rfl, .inl rfl⟩, rfl, by simp⟩
 ·have hlen : (zs.take len).length = len := by rw [List.length_take]; omega
  refine ⟨⟨some x, cap, by rw [hlen], ?_⟩, hlen, fun n hn => hw n (List.mem_of_mem_take hn)⟩
  by_cases h0 : len = 0
  ·subst h0; exact .inl rfl
  ·obtain ⟨b, off, spot⟩ := x
   have hc0 := hc 0 (by omega)
   have hspot : spot = none := by simpa [Addr.add] using World.cell?_spot hc0
   subst hspot
   refine .inr ⟨b, off, rfl, fun j hj => ?_⟩
   rw [hlen] at hj
   have := hc j (by omega)
   rw [show (⟨b, off, none⟩ : Addr).add j = ⟨b, off + j, none⟩ by unfold Addr.add; split <;> simp_all] at this
   rw [this, List.getElem_take, List.getD_eq_getElem?_getD, List.getElem?_eq_getElem (by omega)]; rfl

theorem info_int : (Tryd.prog.info? 3).map (fun i => (i.zero, i.size, i.bytes)) = some (some (.int .i64 0), 1, 8) := by kernel_rfl
theorem run_make_ints (W : World) (n : Nat) (hn : n ≤ 1099511627776) : (Instr.makeSlice 27 (.int .i64 (n : Int)) (.int .i64 (n : Int))).run Tryd.prog W = .ok (.slice (some ⟨W.heap.size, 0, none⟩) n n) (W.alloc (.cells (madeCells #[.int .i64 0] n) 3)) := by
 obtain ⟨i0, hi, hz0, hz1, hz2⟩ := info_parts info_int
 have := run_make (P := Tryd.prog) W 27 3 i0 (.int .i64 0) Tryd.underlying27 hi hz0 .i64 .i64 n n (by omega) (Int.le_refl _) (by rw [hz2]; omega) (by omega)
 rw [this, hz1, Nat.mul_one, Int.toNat_natCast]; rfl
def marks (k : Int) : Nat → List Int
 | 0 => []
 | n + 1 => k :: marks (k + 1) n
theorem OwnI.up {w : World} {B C : Nat} {v : Value} {xs : List Int} (h : OwnI w B v xs) (hC : C ≤ B) : OwnI w C v xs := by
 obtain ⟨a, cap, hv, h⟩ := h
 refine ⟨a, cap, hv, ?_⟩
 rcases h with h | ⟨b, hB, ha, hr⟩
 ·exact .inl h
 ·exact .inr ⟨b, by omega, ha, hr⟩
end Go.Proofs.YtnlonkkbjkfkmaaDoor
