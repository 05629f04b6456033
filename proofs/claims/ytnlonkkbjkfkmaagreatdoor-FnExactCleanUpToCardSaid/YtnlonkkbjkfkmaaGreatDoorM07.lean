/-
  Texts of this proof: Lst.
-/
import Derived.Test.YtnlonkkbjkfkmaaGreatDoorM06
namespace Go.Proofs.YtnlonkkbjkfkmaaGreatDoor
open Go.RowKit
set_option linter.all false

def RdI (w : World) (v : Value) (xs : List Int) : Prop :=
 ∃ a cap, v = .slice a xs.length cap ∧ (xs = [] ∨ ∃ b off, a = some ⟨b, off, none⟩ ∧ ∀ j (h : j < xs.length), w.cell? ⟨b, off + j, none⟩ = some (.int .i64 xs[j]))
def RowI (w : World) (b : Nat) (xs : List Int) : Prop := (∀ j (h : j < xs.length), w.cell? ⟨b, j, none⟩ = some (.int .i64 xs[j])) ∧ ∀ j, j < xs.length → w.frozen? ⟨b, j, none⟩ = false
def OwnI (w : World) (B : Nat) (v : Value) (xs : List Int) : Prop :=
 ∃ a cap, v = .slice a xs.length cap ∧ (xs = [] ∨ ∃ b, B ≤ b ∧ a = some ⟨b, 0, none⟩ ∧ RowI w b xs)
theorem OwnI.rd {w : World} {B : Nat} {v : Value} {xs : List Int} (h : OwnI w B v xs) : RdI w v xs := by
 obtain ⟨a, cap, hv, h⟩ := h
 refine ⟨a, cap, hv, ?_⟩
 rcases h with h | ⟨b, hB, ha, hr⟩
 ·exact .inl h
 ·exact .inr ⟨b, 0, ha, fun j hj => by rw [Nat.zero_add]; exact hr.1 j hj⟩
theorem RdI.keep {w w' : World} {v : Value} {xs : List Int} (h : RdI w v xs) (hb : Below w.heap.size w w') : RdI w' v xs := by
 obtain ⟨a, cap, hv, h⟩ := h
 refine ⟨a, cap, hv, ?_⟩
 rcases h with h | ⟨b, off, ha, hr⟩
 ·exact .inl h
 ·refine .inr ⟨b, off, ha, fun j hj => ?_⟩
  have := hr j hj
  rw [← this]
  exact hb.cell (World.block_lt_of_cell? w _ this)
theorem RowI.keep {w w' : World} {b : Nat} {xs : List Int} (h : RowI w b xs) (hx : xs ≠ []) {C : Nat} (hb : Below C w w') (hC : b < C) : RowI w' b xs :=
 ⟨fun j hj => by rw [← h.1 j hj]; exact hb.cell hC, fun j hj => by rw [← h.2 j hj]; exact hb.frozen hC⟩
theorem RowI.lt {w : World} {b : Nat} {xs : List Int} (h : RowI w b xs) (hx : xs ≠ []) : b < w.heap.size := by
 have : 0 < xs.length := List.length_pos_iff.2 hx
 exact World.block_lt_of_cell? w _ (h.1 0 this)
theorem OwnI.keep {w w' : World} {B : Nat} {v : Value} {xs : List Int} (h : OwnI w B v xs) (hb : Below w.heap.size w w') : OwnI w' B v xs := by
 obtain ⟨a, cap, hv, h⟩ := h
 refine ⟨a, cap, hv, ?_⟩
 by_cases hx : xs = []
 ·exact .inl hx
 rcases h with h | ⟨b, hB, ha, hr⟩
 ·exact .inl h
 ·exact .inr ⟨b, hB, ha, hr.keep hx hb (hr.lt hx)⟩
theorem RowI.set {w : World} {b : Nat} {xs : List Int} (h : RowI w b xs) (k : Nat) (hk : k < xs.length) (x : Int) : RowI (w.setCell ⟨b, k, none⟩ (.int .i64 x)) b (xs.set k x) := by
 refine ⟨fun j hj => ?_, fun j hj => ?_⟩
 ·rw [List.length_set] at hj
  by_cases e : k = j
  ·subst e
   rw [List.getElem_set_self]
   exact World.cell?_setCell_same _ _ _ (h.1 k hk)
  ·rw [List.getElem_set_ne e]
   rw [World.cell?_setCell_other _ _ _ _ (by simpa using e)]
   exact h.1 j hj
 ·rw [List.length_set] at hj
  rw [World.frozen?_setCell]; exact h.2 j hj
theorem RowI.zeros (w : World) (n : Nat) : RowI (w.alloc (.cells (madeCells #[.int .i64 0] n) 3)) w.heap.size (List.replicate n 0) := by
 refine ⟨fun j hj => ?_, fun j hj => ?_⟩
 ·rw [List.length_replicate] at hj
  rw [World.cell?_alloc_mark, List.getElem_replicate, ← Array.getElem?_toList, toList_madeCells_one]
  simp [hj]
 ·rw [World.frozen?_alloc_mark]; simp
theorem info_int : (Tryz.prog.info? 3).map (fun i => (i.zero, i.size, i.bytes)) = some (some (.int .i64 0), 1, 8) := by kernel_rfl
theorem run_make_ints (W : World) (n : Nat) (hn : n ≤ 1099511627776) : (Instr.makeSlice 27 (.int .i64 (n : Int)) (.int .i64 (n : Int))).run Tryz.prog W = .ok (.slice (some ⟨W.heap.size, 0, none⟩) n n) (W.alloc (.cells (madeCells #[.int .i64 0] n) 3)) := by
 obtain ⟨i0, hi, hz0, hz1, hz2⟩ := info_parts info_int
 have := run_make (P := Tryz.prog) W 27 3 i0 (.int .i64 0) Tryz.underlying27 hi hz0 .i64 .i64 n n (by omega) (Int.le_refl _) (by rw [hz2]; omega) (by omega)
 rw [this, hz1, Nat.mul_one, Int.toNat_natCast]; rfl
set_option maxHeartbeats 400000 in
theorem eqIntS_same {w : World} {v v' : Value} {xs : List Int} (h : RdI w v xs) (h' : RdI w v' xs) (hn : xs.length ≤ 1099511627776) :
  Calls Tryz.prog 28 #[v, v'] w fun e w' => e = .returned (.bool true) ∧ ∃ n, w' = w.drewN n := by
 obtain ⟨a, cap, rfl, h⟩ := h
 obtain ⟨a', cap', rfl, h'⟩ := h'
 by_cases hx : xs = []
 ·subst hx
  go_enter Tryz.func28, Tryz.ntmps28
  go_wp2
  refine wp_loop_once ?_
  go_wp2
  go_ret
  exact ⟨rfl, 0, rfl⟩
 ·obtain ⟨b, off, rfl, hc⟩ := h.resolve_left hx
  obtain ⟨b', off', rfl, hc'⟩ := h'.resolve_left hx
  go_enter Tryz.func28, Tryz.ntmps28
  go_wp2
  go_loopw [5] (fun i wr => ∃ k n : Nat, k ≤ xs.length ∧ i = .int .i64 k ∧ wr = w.drewN n) (fun i _ => xs.length - (intOf i).toNat)
  case atStart => exact ⟨0, 0, Nat.zero_le _, rfl, rfl⟩
  case round =>
   obtain ⟨k, n, hk, rfl, rfl⟩ := hrel
   by_cases hkl : k < xs.length
   ·have c1 := hc k hkl
    have c2 := hc' k hkl
    have hl1 : (k : Int) < (xs.length : Int) := by omega
    clear h h'
    go_wp2
    go_quiet (fail)
    go_wp2
    go_roundw
    case rel => exact ⟨k + 1, _, by omega, by go_num, rfl⟩
    case measure => simp [intOf]; omega
   ·go_wp2
    go_ret
    exact ⟨rfl, n, rfl⟩
def marks (k : Int) : Nat → List Int
 | 0 => []
 | n + 1 => k :: marks (k + 1) n
theorem OwnI.up {w : World} {B C : Nat} {v : Value} {xs : List Int} (h : OwnI w B v xs) (hC : C ≤ B) : OwnI w C v xs := by
 obtain ⟨a, cap, hv, h⟩ := h
 refine ⟨a, cap, hv, ?_⟩
 rcases h with h | ⟨b, hB, ha, hr⟩
 ·exact .inl h
 ·exact .inr ⟨b, by omega, ha, hr⟩
end Go.Proofs.YtnlonkkbjkfkmaaGreatDoor
