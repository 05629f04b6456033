/-
  Texts of this proof: Row, RowL, Oin.
-/
import Derived.Test.YtnlonkkbjkfkmaaGreatDoorM03
import Derived.Deep.Slices
import Derived.Deep.RegionHeld3
namespace Go.Proofs.YtnlonkkbjkfkmaaGreatDoor
open Go.RowKit Go.Joins Go.ChangeShapes Go.WideShapes Go.Deep
set_option linter.all false
abbrev Rowi := List (List Int)
def RdR (w : World) (v : Value) (X : Rowi) : Prop :=
 ∃ a cap, v = .slice a X.length cap ∧ (X = [] ∨ ∃ b off, a = some ⟨b, off, none⟩ ∧ ∀ j (h : j < X.length), ∃ u, w.cell? ⟨b, off + j, none⟩ = some u ∧ RdI w u X[j])
theorem RdR.keep {w w' : World} {v : Value} {X : Rowi} (h : RdR w v X) (hb : Below w.heap.size w w') : RdR w' v X := by
 obtain ⟨a, cap, hv, h⟩ := h
 refine ⟨a, cap, hv, ?_⟩
 rcases h with h | ⟨b, off, ha, hr⟩
 ·exact .inl h
 ·refine .inr ⟨b, off, ha, fun j hj => ?_⟩
  obtain ⟨u, h1, h2⟩ := hr j hj
  exact ⟨u, by rw [← h1]; exact hb.cell (World.block_lt_of_cell? w _ h1), h2.keep hb⟩
section
variable {H : Type} {enc : TypeId × Value → H} {w : World} {base : Nat} {spare : Nat → Bool} {held : Bool}
end
end Go.Proofs.YtnlonkkbjkfkmaaGreatDoor
namespace Go.Proofs.YtnlonkkbjkfkmaaGreatDoor
open Go.RowKit
set_option linter.all false
def RowW (w : World) (g C : Nat) (X : Rowi) : Prop := (∀ j (h : j < X.length), ∃ u, w.cell? ⟨g, j, none⟩ = some u ∧ OwnI w C u X[j]) ∧ ∀ j, j < X.length → w.frozen? ⟨g, j, none⟩ = false
def WrR (w : World) (B : Nat) (v : Value) (X : Rowi) : Prop := ∃ a cap, v = .slice a X.length cap ∧ (X = [] ∨ ∃ g, B ≤ g ∧ a = some ⟨g, 0, none⟩ ∧ RowW w g (g + 1) X)
theorem WrR.rd {w : World} {B : Nat} {v : Value} {X : Rowi} (h : WrR w B v X) : RdR w v X := by
 obtain ⟨a, cap, hv, h⟩ := h
 refine ⟨a, cap, hv, ?_⟩
 rcases h with h | ⟨g, hB, ha, hr⟩
 ·exact .inl h
 ·refine .inr ⟨g, 0, ha, fun j hj => ?_⟩
  obtain ⟨u, h1, h2⟩ := hr.1 j hj
  exact ⟨u, by rw [Nat.zero_add]; exact h1, h2.rd⟩
theorem RowW.keep {w w' : World} {g C : Nat} {X : Rowi} (h : RowW w g C X) (hb : Below w.heap.size w w') (hg : g < w.heap.size) : RowW w' g C X :=
 ⟨fun j hj => by obtain ⟨u, h1, h2⟩ := h.1 j hj; exact ⟨u, by rw [← h1]; exact hb.cell hg, h2.keep hb⟩, fun j hj => by rw [← h.2 j hj]; exact hb.frozen hg⟩
theorem RowW.lt {w : World} {g C : Nat} {X : Rowi} (h : RowW w g C X) (hx : X ≠ []) : g < w.heap.size := by
 have : 0 < X.length := List.length_pos_iff.2 hx
 obtain ⟨u, h1, -⟩ := h.1 0 this
 exact World.block_lt_of_cell? w _ h1
theorem WrR.keep {w w' : World} {B : Nat} {v : Value} {X : Rowi} (h : WrR w B v X) (hb : Below w.heap.size w w') : WrR w' B v X := by
 obtain ⟨a, cap, hv, h⟩ := h
 refine ⟨a, cap, hv, ?_⟩
 by_cases hx : X = []
 ·exact .inl hx
 rcases h with h | ⟨g, hB, ha, hr⟩
 ·exact .inl h
 ·exact .inr ⟨g, hB, ha, hr.keep hb (hr.lt hx)⟩
theorem WrR.up {w : World} {B C : Nat} {v : Value} {X : Rowi} (h : WrR w B v X) (hC : C ≤ B) : WrR w C v X := by
 obtain ⟨a, cap, hv, h⟩ := h
 refine ⟨a, cap, hv, ?_⟩
 rcases h with h | ⟨g, hB, ha, hr⟩
 ·exact .inl h
 ·exact .inr ⟨g, by omega, ha, hr⟩
theorem RowW.set {w : World} {g : Nat} {X : Rowi} (h : RowW w g (g + 1) X) (k : Nat) (hk : k < X.length) {u : Value} {x : List Int} (hu : OwnI w (g + 1) u x) : RowW (w.setCell ⟨g, k, none⟩ u) g (g + 1) (X.set k x) := by
 refine ⟨fun j hj => ?_, fun j hj => ?_⟩
 ·rw [List.length_set] at hj
  by_cases e : k = j
  ·subst e
   obtain ⟨u', h1, -⟩ := h.1 k hk
   exact ⟨u, World.cell?_setCell_same _ _ _ h1, by rw [List.getElem_set_self]; exact hu.far (by simp) _⟩
  ·obtain ⟨u', h1, h2⟩ := h.1 j hj
   refine ⟨u', ?_, by rw [List.getElem_set_ne e]; exact h2.far (by simp) _⟩
   rw [World.cell?_setCell_other _ _ _ _ (by simpa using e)]
   exact h1
 ·rw [List.length_set] at hj
  rw [World.frozen?_setCell]; exact h.2 j hj
theorem RowW.zeros (w : World) (n C : Nat) (t : TypeId) : RowW (w.alloc (.cells (madeCells #[.slice none 0 0] n) t)) w.heap.size C (List.replicate n []) := by
 refine ⟨fun j hj => ⟨.slice none 0 0, ?_, ?_⟩, fun j hj => ?_⟩
 ·rw [List.length_replicate] at hj
  rw [World.cell?_alloc_mark, ← Array.getElem?_toList, toList_madeCells_one]
  simp [hj]
 ·rw [List.getElem_replicate]; exact ⟨none, 0, rfl, .inl rfl⟩
 ·rw [World.frozen?_alloc_mark]; simp
end Go.Proofs.YtnlonkkbjkfkmaaGreatDoor
namespace Go.Proofs.YtnlonkkbjkfkmaaGreatDoor
open Go.RowKit
set_option linter.all false
def OwnIn (w : World) (lo hi : Nat) (v : Value) (xs : List Int) : Prop := ∃ a cap, v = .slice a xs.length cap ∧ (xs = [] ∨ ∃ b, lo ≤ b ∧ b < hi ∧ a = some ⟨b, 0, none⟩ ∧ RowI w b xs)
theorem OwnIn.of {w : World} {B : Nat} {v : Value} {xs : List Int} (h : OwnI w B v xs) : OwnIn w B w.heap.size v xs := by
 obtain ⟨a, cap, hv, h⟩ := h
 refine ⟨a, cap, hv, ?_⟩
 by_cases hx : xs = []
 ·exact .inl hx
 rcases h with h | ⟨b, hB, ha, hr⟩
 ·exact .inl h
 ·exact .inr ⟨b, hB, hr.lt hx, ha, hr⟩
theorem OwnIn.own {w : World} {lo hi : Nat} {v : Value} {xs : List Int} (h : OwnIn w lo hi v xs) : OwnI w lo v xs := by
 obtain ⟨a, cap, hv, h⟩ := h
 refine ⟨a, cap, hv, ?_⟩
 rcases h with h | ⟨b, hB, _, ha, hr⟩
 ·exact .inl h
 ·exact .inr ⟨b, hB, ha, hr⟩
theorem OwnIn.wide {w : World} {lo hi lo' hi' : Nat} {v : Value} {xs : List Int} (h : OwnIn w lo hi v xs) (h1 : lo' ≤ lo) (h2 : hi ≤ hi') : OwnIn w lo' hi' v xs := by
 obtain ⟨a, cap, hv, h⟩ := h
 refine ⟨a, cap, hv, ?_⟩
 rcases h with h | ⟨b, hB, hb, ha, hr⟩
 ·exact .inl h
 ·exact .inr ⟨b, by omega, by omega, ha, hr⟩
theorem frozen_of_block {w w' : World} {b : Nat} (h : w'.heap[b]? = w.heap[b]?) (j : Nat) : w'.frozen? ⟨b, j, none⟩ = w.frozen? ⟨b, j, none⟩ := by simp [World.frozen?, h]
theorem RowI.same {w w' : World} {b : Nat} {xs : List Int} (h : RowI w b xs) (he : w'.heap[b]? = w.heap[b]?) : RowI w' b xs :=
 ⟨fun j hj => by rw [World.cell?_of_block (w := w) he]; exact h.1 j hj, fun j hj => by rw [frozen_of_block he]; exact h.2 j hj⟩
theorem OwnIn.same {w w' : World} {lo hi : Nat} {v : Value} {xs : List Int} (h : OwnIn w lo hi v xs) (he : xs ≠ [] → ∀ b, lo ≤ b → b < hi → v.ownBlock = some b → w'.heap[b]? = w.heap[b]?) : OwnIn w' lo hi v xs := by
 obtain ⟨a, cap, rfl, h⟩ := h
 refine ⟨a, cap, rfl, ?_⟩
 by_cases hx : xs = []
 ·exact .inl hx
 rcases h with h | ⟨b, hB, hb, rfl, hr⟩
 ·exact .inl h
 ·exact .inr ⟨b, hB, hb, rfl, hr.same (he hx b hB hb rfl)⟩
set_option maxHeartbeats 400000 in
theorem markIntS_full {w : World} {lo hi : Nat} {v : Value} {xs : List Int} (h : OwnIn w lo hi v xs) (hn : xs.length ≤ 1048576) (k0 : Int) (h0 : 0 ≤ k0) (h1 : k0 ≤ 1099511627776) :
  Calls Tryz.prog 30 #[v, .int .i64 k0] w fun e w' => e = .returned (.int .i64 (k0 + xs.length)) ∧ OwnIn w' lo hi v (marks k0 xs.length) ∧ Below lo w w' ∧ ∀ j : Nat, (xs = [] ∨ some j ≠ v.ownBlock) → w'.heap[j]? = w.heap[j]? := by
 obtain ⟨a, cap, rfl, h⟩ := h
 by_cases hx : xs = []
 ·subst hx
  go_enter Tryz.func30, Tryz.ntmps30
  go_wp2
  refine wp_loop_once ?_
  go_wp2
  go_ret
  exact ⟨ret_int (by simp), ⟨_, _, rfl, .inl rfl⟩, Below.refl _ _, fun _ _ => rfl⟩
 ·obtain ⟨b, hB, hb, rfl, hr⟩ := h.resolve_left hx
  go_enter Tryz.func30, Tryz.ntmps30
  go_wp2
  go_loopw [1, 5] (fun x i wr => ∃ (k : Nat) (L : List Int), k ≤ xs.length ∧ i = .int .i64 k ∧ x = .int .i64 (k0 + k) ∧ L.length = xs.length ∧ L.take k = (marks k0 xs.length).take k ∧ RowI wr b L ∧ Below lo w wr ∧ ∀ j, j ≠ b → wr.heap[j]? = w.heap[j]?) (fun _ i _ => xs.length - (intOf i).toNat)
  case atStart => exact ⟨0, xs, Nat.zero_le _, rfl, by go_num, rfl, rfl, hr, Below.refl _ _, fun _ _ => rfl⟩
  case round =>
   obtain ⟨k, L, hk, rfl, rfl, hL, htk, hrow, hbel, hoth⟩ := hrel
   have HO := Lib.hid hoth
   clear hoth
   by_cases hkl : k < xs.length
   ·obtain ⟨u, c2⟩ : ∃ u, wr.cell? ⟨b, k, none⟩ = some (.int .i64 u) := ⟨_, hrow.1 k (by omega)⟩
    have f2 := hrow.2 k (by omega)
    have HS := Lib.hid (hrow.set k (by omega) (k0 + k))
    have HL := Lib.hid hL
    have HT := Lib.hid htk
    clear hrow hL htk h
    go_wp2
    go_roundw
    case rel =>
     refine ⟨k + 1, L.set k (k0 + k), by omega, by go_num, by go_num, by rw [List.length_set]; exact HL.out, ?_, HS.out, hbel.setCell hB _, fun j hj => (Below.heap_setCell _ _ _ j hj).trans (HO.out j hj)⟩
     rw [List.take_succ_eq_append_getElem (by rw [List.length_set, HL.out]; exact hkl), List.take_succ_eq_append_getElem (by rw [marks_len]; exact hkl), List.take_set_of_le (Nat.le_refl _), HT.out, List.getElem_set_self, marks_at]
    case measure => simp [intOf]; omega
   ·have e : L = marks k0 xs.length := by
     rw [List.take_of_length_le (by omega), List.take_of_length_le (by rw [marks_len]; omega)] at htk
     exact htk
    have HE := Lib.hid e
    have ek : k = xs.length := by omega
    subst ek
    clear e h
    go_wp2
    go_ret
    refine ⟨rfl, ⟨_, _, by rw [marks_len], .inr ⟨b, hB, hb, rfl, ?_⟩⟩, hbel, fun j hj => HO.out j (fun e => hj.elim (fun h => hx h) (fun h => h (by rw [e]; rfl)))⟩
    rw [← HE.out]; exact hrow
theorem OwnIn.far {w : World} {lo hi : Nat} {v : Value} {xs : List Int} (h : OwnIn w lo hi v xs) {p : Addr} (hp : p.block < lo) (u : Value) : OwnIn (w.setCell p u) lo hi v xs := by
 obtain ⟨a, cap, rfl, h⟩ := h
 refine ⟨a, cap, rfl, ?_⟩
 rcases h with h | ⟨b, h1, h2, rfl, hr⟩
 ·exact .inl h
 ·exact .inr ⟨b, h1, h2, rfl, hr.far (by omega) u⟩
end Go.Proofs.YtnlonkkbjkfkmaaGreatDoor
