/-
  Texts of this proof: LstS.
-/
import Derived.Test.YtnlonkkbjkfkmaaGreatDoorM12
import Derived.Test.YtnlonkkbjkfkmaaGreatDoorM14
import Derived.Deep.RegionHeld3
import Derived.Deep.RegionWith
namespace Go.Proofs.YtnlonkkbjkfkmaaGreatDoor
open Go.RowKit
set_option linter.all false

def RdS (w : World) (v : Value) (ls : List (List UInt8)) : Prop :=
 ∃ a cap, v = .slice a ls.length cap ∧ (ls = [] ∨ ∃ b off, a = some ⟨b, off, none⟩ ∧ ∀ j (h : j < ls.length), w.cell? ⟨b, off + j, none⟩ = some (.string ⟨ls[j].toArray⟩))
def RowS (w : World) (b : Nat) (ls : List (List UInt8)) : Prop := (∀ j (h : j < ls.length), w.cell? ⟨b, j, none⟩ = some (.string ⟨ls[j].toArray⟩)) ∧ ∀ j, j < ls.length → w.frozen? ⟨b, j, none⟩ = false
def WrS (w : World) (B : Nat) (v : Value) (ls : List (List UInt8)) : Prop :=
 ∃ a cap, v = .slice a ls.length cap ∧ (ls = [] ∨ ∃ b, B ≤ b ∧ a = some ⟨b, 0, none⟩ ∧ RowS w b ls)
theorem WrS.rd {w : World} {B : Nat} {v : Value} {xs : List (List UInt8)} (h : WrS w B v xs) : RdS w v xs := by
 obtain ⟨a, cap, hv, h⟩ := h
 refine ⟨a, cap, hv, ?_⟩
 rcases h with h | ⟨b, hB, ha, hr⟩
 ·exact .inl h
 ·exact .inr ⟨b, 0, ha, fun j hj => by rw [Nat.zero_add]; exact hr.1 j hj⟩
theorem WrS.up {w : World} {B C : Nat} {v : Value} {xs : List (List UInt8)} (h : WrS w B v xs) (hC : C ≤ B) : WrS w C v xs := by
 obtain ⟨a, cap, hv, h⟩ := h
 refine ⟨a, cap, hv, ?_⟩
 rcases h with h | ⟨b, hB, ha, hr⟩
 ·exact .inl h
 ·exact .inr ⟨b, by omega, ha, hr⟩
theorem OwnS.wr {w : World} {B : Nat} {v : Value} {ls : List (List UInt8)} (h : OwnS w B v ls) : WrS w B v ls := by
 have hrow := h.row
 obtain ⟨h1, h2⟩ := hrow
 rcases h2 with ⟨rfl, h0⟩ | ⟨g, cap, cur, rfl, hB, hg, hn, hc, hsz, htk⟩
 ·exact ⟨none, 0, by rw [h0], .inl (List.eq_nil_of_length_eq_zero h0)⟩
 ·refine ⟨_, cap, rfl, .inr ⟨g, hB, rfl, fun j hj => ?_, fun j hj => ?_⟩⟩
  ·obtain ⟨g', c', e, _, _, _, hcell⟩ := h.cell hj
   simp only [Value.slice.injEq, Option.some.injEq, Addr.mk.injEq] at e
   obtain ⟨⟨rfl, -⟩, -⟩ := e
   exact hcell
  ·simp [World.frozen?, hg]
theorem OwnS.rd {w : World} {B : Nat} {v : Value} {ls : List (List UInt8)} (h : OwnS w B v ls) : RdS w v ls := h.wr.rd
theorem RdS.keep {w w' : World} {v : Value} {xs : List (List UInt8)} (h : RdS w v xs) (hb : Below w.heap.size w w') : RdS w' v xs := by
 obtain ⟨a, cap, hv, h⟩ := h
 refine ⟨a, cap, hv, ?_⟩
 rcases h with h | ⟨b, off, ha, hr⟩
 ·exact .inl h
 ·refine .inr ⟨b, off, ha, fun j hj => ?_⟩
  have := hr j hj
  rw [← this]
  exact hb.cell (World.block_lt_of_cell? w _ this)
theorem RowS.keep {w w' : World} {b : Nat} {xs : List (List UInt8)} (h : RowS w b xs) {C : Nat} (hb : Below C w w') (hC : b < C) : RowS w' b xs :=
 ⟨fun j hj => by rw [← h.1 j hj]; exact hb.cell hC, fun j hj => by rw [← h.2 j hj]; exact hb.frozen hC⟩
theorem RowS.lt {w : World} {b : Nat} {xs : List (List UInt8)} (h : RowS w b xs) (hx : xs ≠ []) : b < w.heap.size := by
 have : 0 < xs.length := List.length_pos_iff.2 hx
 exact World.block_lt_of_cell? w _ (h.1 0 this)
theorem WrS.keep {w w' : World} {B : Nat} {v : Value} {xs : List (List UInt8)} (h : WrS w B v xs) (hb : Below w.heap.size w w') : WrS w' B v xs := by
 obtain ⟨a, cap, hv, h⟩ := h
 refine ⟨a, cap, hv, ?_⟩
 by_cases hx : xs = []
 ·exact .inl hx
 rcases h with h | ⟨b, hB, ha, hr⟩
 ·exact .inl h
 ·exact .inr ⟨b, hB, ha, hr.keep hb (hr.lt hx)⟩
theorem WrS.far {w : World} {B : Nat} {v : Value} {xs : List (List UInt8)} (h : WrS w B v xs) {p : Addr} (hp : p.block < B) (u : Value) : WrS (w.setCell p u) B v xs := by
 obtain ⟨a, cap, hv, h⟩ := h
 refine ⟨a, cap, hv, ?_⟩
 rcases h with h | ⟨b, hB, ha, hr⟩
 ·exact .inl h
 ·refine .inr ⟨b, hB, ha, fun j hj => ?_, fun j hj => ?_⟩
  ·rw [World.cell?_setCell_other _ _ _ _ (by intro e; subst e; simp at hp; omega)]; exact hr.1 j hj
  ·rw [World.frozen?_setCell]; exact hr.2 j hj
theorem RowS.set {w : World} {b : Nat} {xs : List (List UInt8)} (h : RowS w b xs) (k : Nat) (hk : k < xs.length) (x : List UInt8) : RowS (w.setCell ⟨b, k, none⟩ (.string ⟨x.toArray⟩)) b (xs.set k x) := by
 refine ⟨fun j hj => ?_, fun j hj => ?_⟩
 ·rw [List.length_set] at hj
  by_cases e : k = j
  ·subst e
   rw [List.getElem_set_self]
   exact World.cell?_setCell_same _ _ _ (h.1 k hk)
  ·rw [List.getElem_set_ne e]
   rw [World.cell?_setCell_other _ _ _ _ (by simpa using e)]
   exact h.1 j hj
 ·rw [List.length_set] at hj
  rw [World.frozen?_setCell]; exact h.2 j hj
theorem RowS.zeros (w : World) (n : Nat) : RowS (w.alloc (.cells (madeCells #[.string ⟨#[]⟩] n) 9)) w.heap.size (List.replicate n []) := by
 refine ⟨fun j hj => ?_, fun j hj => ?_⟩
 ·rw [List.length_replicate] at hj
  rw [World.cell?_alloc_mark, List.getElem_replicate, ← Array.getElem?_toList, toList_madeCells_one, List.getElem?_replicate, if_pos hj]
 ·rw [World.frozen?_alloc_mark]; simp
theorem run_make_strs (W : World) (n : Nat) (hn : n ≤ 1099511627776) : (Instr.makeSlice 24 (.int .i64 (n : Int)) (.int .i64 (n : Int))).run Tryz.prog W = .ok (.slice (some ⟨W.heap.size, 0, none⟩) n n) (W.alloc (.cells (madeCells #[.string ⟨#[]⟩] n) 9)) := by
 obtain ⟨i0, hi, hz0, hz1, hz2⟩ := info_parts info_str
 have := run_make (P := Tryz.prog) W 24 9 i0 (.string ⟨#[]⟩) Tryz.underlying24 hi hz0 .i64 .i64 n n (by omega) (Int.le_refl _) (by rw [hz2]; omega) (by omega)
 rw [this, hz1, Nat.mul_one, Int.toNat_natCast]; rfl
set_option maxHeartbeats 400000 in
theorem eqStringS_same {w : World} {v v' : Value} {xs : List (List UInt8)} (h : RdS w v xs) (h' : RdS w v' xs) (hn : xs.length ≤ 1099511627776) :
  Calls Tryz.prog 97 #[v, v'] w fun e w' => e = .returned (.bool true) ∧ ∃ n, w' = w.drewN n := by
 obtain ⟨a, cap, rfl, h⟩ := h
 obtain ⟨a', cap', rfl, h'⟩ := h'
 by_cases hx : xs = []
 ·subst hx
  go_enter Tryz.func97, Tryz.ntmps97
  go_wp2
  refine wp_loop_once ?_
  go_wp2
  go_ret
  exact ⟨rfl, 0, rfl⟩
 ·obtain ⟨b, off, rfl, hc⟩ := h.resolve_left hx
  obtain ⟨b', off', rfl, hc'⟩ := h'.resolve_left hx
  go_enter Tryz.func97, Tryz.ntmps97
  go_wp2
  go_loopw [5] (fun i wr => ∃ k n : Nat, k ≤ xs.length ∧ i = .int .i64 k ∧ wr = w.drewN n) (fun i _ => xs.length - (intOf i).toNat)
  case atStart => exact ⟨0, 0, Nat.zero_le _, rfl, rfl⟩
  case round =>
   obtain ⟨k, n, hk, rfl, rfl⟩ := hrel
   by_cases hkl : k < xs.length
   ·obtain ⟨x, hx2⟩ : ∃ x, x = xs[k] := ⟨_, rfl⟩
    have c1 := hc k hkl
    have c2 := hc' k hkl
    rw [← hx2] at c1 c2
    have hl1 : (k : Int) < (xs.length : Int) := by omega
    clear h h' hx2
    go_wp2
    go_quiet (fail)
    go_wp2
    go_roundw
    case rel => exact ⟨k + 1, _, by omega, by go_num, rfl⟩
    case measure => simp [intOf]; omega
   ·go_wp2
    go_ret
    exact ⟨rfl, n, rfl⟩
end Go.Proofs.YtnlonkkbjkfkmaaGreatDoor
