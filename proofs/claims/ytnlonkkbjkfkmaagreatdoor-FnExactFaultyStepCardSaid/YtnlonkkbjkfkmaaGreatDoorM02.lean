/-
  Texts of this proof: OpenB, Rng, Pure, Lst.
-/
import Derived.Test.YtnlonkkbjkfkmaaGreatDoorM01
import Derived.Lib.SmallJoins
import Derived.Test.YtnlonkkbjkfkmaaGreatDoorM00
import Derived.Deep.Slices
import Derived.Deep.MidRow
import Derived.Deep.Fields
import Derived.ChangeSame
namespace Go.Proofs.YtnlonkkbjkfkmaaGreatDoor
open Go.RowKit Go.Joins Go.ChangeShapes Go.WideShapes Go.Deep
set_option linter.all false
section
variable {H : Type} {enc : TypeId × Value → H} {P : Program} {w : World} {base : Nat} {spare : Nat → Bool} {held : Bool}
end
def Bd.fits (b : Bd) : Prop := (Lit.int .i64 b.kind).wf = true ∧ (Lit.int .i64 b.owner).wf = true ∧ (Lit.int .i64 b.x).wf = true ∧ (Lit.int .i64 b.y).wf = true ∧ (Lit.int .i64 b.vx).wf = true ∧ (Lit.int .i64 b.vy).wf = true ∧ (Lit.int .i64 b.aim).wf = true ∧ (Lit.int .i64 b.life).wf = true ∧ (Lit.int .i64 b.timer).wf = true
end Go.Proofs.YtnlonkkbjkfkmaaGreatDoor
namespace Go.Proofs.YtnlonkkbjkfkmaaGreatDoor
open Go.RowKit Go.Joins Go.ChangeShapes Go.WideShapes Go.Deep
set_option linter.all false
theorem rangeKeep {w w' : World} {b o C : Nat} {cs : List Value} (h : w.rangeAt b o cs) (hb : Below C w w') (hC : b < C) : w'.rangeAt b o cs := fun j v hv => by rw [← h j v hv]; exact hb.cell hC
theorem thereKeep {w w' : World} {b o n C : Nat} (h : w.there b o n) (hb : Below C w w') (hC : b < C) : w'.there b o n := fun j hj => by
 have hc : w'.cell? ⟨b, o + j, none⟩ = w.cell? ⟨b, o + j, none⟩ := hb.cell hC
 have hf : w'.frozen? ⟨b, o + j, none⟩ = w.frozen? ⟨b, o + j, none⟩ := hb.frozen hC
 rw [hc, hf]; exact h j hj
theorem rangeFar {w : World} {b o : Nat} {cs : List Value} (h : w.rangeAt b o cs) {p : Addr} (hp : p.block ≠ b) (u : Value) : (w.setCell p u).rangeAt b o cs := fun j v hv => by
 rw [World.cell?_setCell_other _ _ _ _ (by intro e; apply hp; rw [e])]; exact h j v hv
theorem thereFar {w : World} {b o n : Nat} (h : w.there b o n) {p : Addr} (hp : p.block ≠ b) (u : Value) : (w.setCell p u).there b o n := fun j hj => by
 rw [World.cell?_setCell_other _ _ _ _ (by intro e; apply hp; rw [e]), World.frozen?_setCell]; exact h j hj
theorem rangeSame {w w' : World} {b o : Nat} {cs : List Value} (h : w.rangeAt b o cs) (he : w'.heap[b]? = w.heap[b]?) : w'.rangeAt b o cs := fun j v hv => by rw [World.cell?_of_block (w := w) he]; exact h j v hv
theorem thereSame {w w' : World} {b o n : Nat} (h : w.there b o n) (he : w'.heap[b]? = w.heap[b]?) : w'.there b o n := fun j hj => by
 rw [World.cell?_of_block (w := w) he, show w'.frozen? ⟨b, o + j, none⟩ = w.frozen? ⟨b, o + j, none⟩ by simp [World.frozen?, he]]; exact h j hj
section
variable {H : Type} {enc : TypeId × Value → H} {P : Program} {w : World} {base : Nat} {spare : Nat → Bool} {held : Bool}
theorem open_slice_fields {t e : TypeId} {fs : Array Field} {fuel : Nat} {cs : List Value} {x : DataW H × List MemPlace} (ht : P.underlying t = some (.slice e)) (he : P.underlying e = some (.struct fs))
  (hone : oneCellFields P fs = true) (hC : P.cellsOf e = fs.size) (h : DataW.trod enc P w base spare held fuel t cs = some x) :
  cs = [.slice none 0 0] ∨
  ∃ (a : Addr) (len cap m : Nat), cs = [.slice (some a) len cap] ∧ len ≤ cap ∧ cap ≤ maxLen ∧ len ≤ m ∧
   ∀ i, i < m → ∃ (n : Nat), ∀ (j : Nat) (f : Field), fs[j]? = some f → ∃ (v : Value) (y : DataW H × List MemPlace), w.cell? (a.add (i * fs.size + j)) = some v ∧ DataW.trod enc P w base spare held n f.type [v] = some y := by
 rcases open_slice ht h with h0 | ⟨a, len, cap, m, n, D, Pl, hcs, hb, hl, hm, hmm, hx, hi⟩
 ·exact .inl h0.1
 ·refine .inr ⟨a, len, cap, m, hcs, hl, hm, by rw [hmm]; split <;> omega, fun i him => ?_⟩
  obtain ⟨cs', hc, ht'⟩ := hi i him
  rw [hC] at hc
  obtain ⟨ys, n', hn', hy, hlen, hyl, hf⟩ := DataW.trod_struct he ht'
  obtain ⟨_, hcl, hat⟩ := World.cells?_some hc
  refine ⟨n', fun j f hj => ?_⟩
  obtain ⟨ho, hk⟩ := hone_of hone j f hj
  have hjl : j < fs.size := (Array.getElem?_eq_some_iff.1 hj).1
  have hcell := hat j hjl
  have hv : cs'[j]? = some (cs'[j]'(by omega)) := List.getElem?_eq_getElem (by omega)
  have h1 := hf j f hj
  rw [ho, hk] at h1
  have hone' : (cs'.drop j).take 1 = [cs'[j]'(by omega)] := by
   rw [List.drop_eq_getElem_cons (by omega)]
   rfl
  rw [hone'] at h1
  have hys : ys[j]? = some (ys[j]'(by omega)) := List.getElem?_eq_getElem (by omega)
  refine ⟨_, _, ?_, h1.trans hys⟩
  rw [← Go.Deep.add_add, hcell, hv]
end
theorem heap_setCells (b : Nat) : ∀ (vs : List Value) (o : Nat) (w : World) (j : Nat), j ≠ b → (w.setCells b o vs).heap[j]? = w.heap[j]?
 | [], _, _, _, _ => rfl
 | v :: r, o, w, j, hj => by
  rw [World.setCells, heap_setCells b r (o + 1) _ j hj]
  exact Below.heap_setCell _ _ _ j hj
theorem belowCells {B : Nat} {w0 : World} {b : Nat} (hB : B ≤ b) : ∀ (vs : List Value) (o : Nat) (w : World), Below B w0 w → Below B w0 (w.setCells b o vs)
 | [], _, _, h => h
 | v :: r, o, w, h => by
  rw [World.setCells]
  exact belowCells hB r (o + 1) _ (h.setCell hB _)
section
variable {H : Type} {enc : TypeId × Value → H} {w : World} {base : Nat} {spare : Nat → Bool} {held : Bool}
theorem intField {n : Nat} {v : Value} {y : DataW H × List MemPlace} (h : DataW.trod enc Tryz.prog w base spare held n 3 [v] = some y) : ∃ m : Int, v = .int .i64 m ∧ (Lit.int .i64 m).wf = true := by
 obtain ⟨m, e, -, hw⟩ := DataW.trod_int Tryz.underlying3 h
 exact ⟨m, by simpa using e, hw⟩
end
end Go.Proofs.YtnlonkkbjkfkmaaGreatDoor
namespace Go.Proofs.YtnlonkkbjkfkmaaGreatDoor
open Go.RowKit
set_option linter.all false

end Go.Proofs.YtnlonkkbjkfkmaaGreatDoor
namespace Go.Proofs.YtnlonkkbjkfkmaaGreatDoor
open Go.RowKit
set_option linter.all false

def RdI (w : World) (v : Value) (xs : List Int) : Prop :=
 ∃ a cap, v = .slice a xs.length cap ∧ (xs = [] ∨ ∃ b off, a = some ⟨b, off, none⟩ ∧ ∀ j (h : j < xs.length), w.cell? ⟨b, off + j, none⟩ = some (.int .i64 xs[j]))
def RowI (w : World) (b : Nat) (xs : List Int) : Prop := (∀ j (h : j < xs.length), w.cell? ⟨b, j, none⟩ = some (.int .i64 xs[j])) ∧ ∀ j, j < xs.length → w.frozen? ⟨b, j, none⟩ = false
def OwnI (w : World) (B : Nat) (v : Value) (xs : List Int) : Prop :=
 ∃ a cap, v = .slice a xs.length cap ∧ (xs = [] ∨ ∃ b, B ≤ b ∧ a = some ⟨b, 0, none⟩ ∧ RowI w b xs)
theorem OwnI.rd {w : World} {B : Nat} {v : Value} {xs : List Int} (h : OwnI w B v xs) : RdI w v xs := by
 obtain ⟨a, cap, hv, h⟩ := h
 refine ⟨a, cap, hv, ?_⟩
 rcases h with h | ⟨b, hB, ha, hr⟩
 ·exact .inl h
 ·exact .inr ⟨b, 0, ha, fun j hj => by rw [Nat.zero_add]; exact hr.1 j hj⟩
theorem RdI.keep {w w' : World} {v : Value} {xs : List Int} (h : RdI w v xs) (hb : Below w.heap.size w w') : RdI w' v xs := by
 obtain ⟨a, cap, hv, h⟩ := h
 refine ⟨a, cap, hv, ?_⟩
 rcases h with h | ⟨b, off, ha, hr⟩
 ·exact .inl h
 ·refine .inr ⟨b, off, ha, fun j hj => ?_⟩
  have := hr j hj
  rw [← this]
  exact hb.cell (World.block_lt_of_cell? w _ this)
theorem RowI.keep {w w' : World} {b : Nat} {xs : List Int} (h : RowI w b xs) (hx : xs ≠ []) {C : Nat} (hb : Below C w w') (hC : b < C) : RowI w' b xs :=
 ⟨fun j hj => by rw [← h.1 j hj]; exact hb.cell hC, fun j hj => by rw [← h.2 j hj]; exact hb.frozen hC⟩
theorem RowI.lt {w : World} {b : Nat} {xs : List Int} (h : RowI w b xs) (hx : xs ≠ []) : b < w.heap.size := by
 have : 0 < xs.length := List.length_pos_iff.2 hx
 exact World.block_lt_of_cell? w _ (h.1 0 this)
theorem OwnI.keep {w w' : World} {B : Nat} {v : Value} {xs : List Int} (h : OwnI w B v xs) (hb : Below w.heap.size w w') : OwnI w' B v xs := by
 obtain ⟨a, cap, hv, h⟩ := h
 refine ⟨a, cap, hv, ?_⟩
 by_cases hx : xs = []
 ·exact .inl hx
 rcases h with h | ⟨b, hB, ha, hr⟩
 ·exact .inl h
 ·exact .inr ⟨b, hB, ha, hr.keep hx hb (hr.lt hx)⟩
theorem RowI.set {w : World} {b : Nat} {xs : List Int} (h : RowI w b xs) (k : Nat) (hk : k < xs.length) (x : Int) : RowI (w.setCell ⟨b, k, none⟩ (.int .i64 x)) b (xs.set k x) := by
 refine ⟨fun j hj => ?_, fun j hj => ?_⟩
 ·rw [List.length_set] at hj
  by_cases e : k = j
  ·subst e
   rw [List.getElem_set_self]
   exact World.cell?_setCell_same _ _ _ (h.1 k hk)
  ·rw [List.getElem_set_ne e]
   rw [World.cell?_setCell_other _ _ _ _ (by simpa using e)]
   exact h.1 j hj
 ·rw [List.length_set] at hj
  rw [World.frozen?_setCell]; exact h.2 j hj
theorem RowI.zeros (w : World) (n : Nat) : RowI (w.alloc (.cells (madeCells #[.int .i64 0] n) 3)) w.heap.size (List.replicate n 0) := by
 refine ⟨fun j hj => ?_, fun j hj => ?_⟩
 ·rw [List.length_replicate] at hj
  rw [World.cell?_alloc_mark, List.getElem_replicate, ← Array.getElem?_toList, toList_madeCells_one]
  simp [hj]
 ·rw [World.frozen?_alloc_mark]; simp
theorem info_int : (Tryz.prog.info? 3).map (fun i => (i.zero, i.size, i.bytes)) = some (some (.int .i64 0), 1, 8) := by kernel_rfl
theorem run_make_ints (W : World) (n : Nat) (hn : n ≤ 1099511627776) : (Instr.makeSlice 27 (.int .i64 (n : Int)) (.int .i64 (n : Int))).run Tryz.prog W = .ok (.slice (some ⟨W.heap.size, 0, none⟩) n n) (W.alloc (.cells (madeCells #[.int .i64 0] n) 3)) := by
 obtain ⟨i0, hi, hz0, hz1, hz2⟩ := info_parts info_int
 have := run_make (P := Tryz.prog) W 27 3 i0 (.int .i64 0) Tryz.underlying27 hi hz0 .i64 .i64 n n (by omega) (Int.le_refl _) (by rw [hz2]; omega) (by omega)
 rw [this, hz1, Nat.mul_one, Int.toNat_natCast]; rfl
set_option maxHeartbeats 400000 in
theorem eqIntS_same {w : World} {v v' : Value} {xs : List Int} (h : RdI w v xs) (h' : RdI w v' xs) (hn : xs.length ≤ 1099511627776) :
  Calls Tryz.prog 28 #[v, v'] w fun e w' => e = .returned (.bool true) ∧ ∃ n, w' = w.drewN n := by
 obtain ⟨a, cap, rfl, h⟩ := h
 obtain ⟨a', cap', rfl, h'⟩ := h'
 by_cases hx : xs = []
 ·subst hx
  go_enter Tryz.func28, Tryz.ntmps28
  go_wp2
  refine wp_loop_once ?_
  go_wp2
  go_ret
  exact ⟨rfl, 0, rfl⟩
 ·obtain ⟨b, off, rfl, hc⟩ := h.resolve_left hx
  obtain ⟨b', off', rfl, hc'⟩ := h'.resolve_left hx
  go_enter Tryz.func28, Tryz.ntmps28
  go_wp2
  go_loopw [5] (fun i wr => ∃ k n : Nat, k ≤ xs.length ∧ i = .int .i64 k ∧ wr = w.drewN n) (fun i _ => xs.length - (intOf i).toNat)
  case atStart => exact ⟨0, 0, Nat.zero_le _, rfl, rfl⟩
  case round =>
   obtain ⟨k, n, hk, rfl, rfl⟩ := hrel
   by_cases hkl : k < xs.length
   ·have c1 := hc k hkl
    have c2 := hc' k hkl
    have hl1 : (k : Int) < (xs.length : Int) := by omega
    clear h h'
    go_wp2
    go_quiet (fail)
    go_wp2
    go_roundw
    case rel => exact ⟨k + 1, _, by omega, by go_num, rfl⟩
    case measure => simp [intOf]; omega
   ·go_wp2
    go_ret
    exact ⟨rfl, n, rfl⟩
def marks (k : Int) : Nat → List Int
 | 0 => []
 | n + 1 => k :: marks (k + 1) n
theorem marks_len (n : Nat) : ∀ k, (marks k n).length = n := by
 induction n with
 | zero => intro k; rfl
 | succ n ih => intro k; simp [marks, ih]
theorem marks_at (n : Nat) : ∀ k j (h : j < (marks k n).length), (marks k n)[j] = k + j := by
 induction n with
 | zero => intro k j h; simp [marks] at h
 | succ n ih =>
  intro k j h
  match j with
  | 0 => simp [marks]
  | j + 1 =>
   simp only [marks, List.getElem_cons_succ]
   rw [ih]; omega
set_option maxHeartbeats 400000 in
theorem heldIntS_any {w : World} {v : Value} (n : Nat) (k0 : Int) (h : RdI w v (marks k0 n)) (hn : n ≤ 1099511627776) (h0 : 0 ≤ k0) (h1 : k0 ≤ 1099511627776) :
  Calls Tryz.prog 84 #[v, .int .i64 k0] w fun e w' => e = .returned (.int .i64 (k0 + n)) ∧ w = w' := by
 obtain ⟨a, cap, rfl, h⟩ := h
 rw [marks_len]
 match n, hn, h with
 | 0, hn, h =>
  go_enter Tryz.func84, Tryz.ntmps84
  go_wp2
  refine wp_loop_once ?_
  go_wp2
  go_ret
  exact ⟨ret_int (by simp), rfl⟩
 | m + 1, hn, h =>
  obtain ⟨b, off, rfl, hc⟩ := h.resolve_left (by simp [marks])
  have hc' : ∀ j, j < m + 1 → w.cell? ⟨b, off + j, none⟩ = some (.int .i64 (k0 + j)) := fun j hj => by rw [hc j (by rw [marks_len]; exact hj), marks_at]
  clear hc h
  have HC := Lib.hid hc'; clear hc'
  go_enter Tryz.func84, Tryz.ntmps84
  go_wp2
  go_loop [1, 5] (fun x i => ∃ k : Nat, k ≤ m + 1 ∧ i = .int .i64 k ∧ x = .int .i64 (k0 + k)) (fun _ i => m + 1 - (intOf i).toNat)
  case atStart => exact ⟨0, Nat.zero_le _, rfl, by go_num⟩
  case round =>
   obtain ⟨k, hk, rfl, rfl⟩ := hrel
   by_cases hkl : k < m + 1
   ·have c1 := HC.out k hkl
    go_wp2
    go_round
    case rel => exact ⟨k + 1, by omega, by go_num, by go_num⟩
    case measure => simp [intOf]; omega
   ·have ek : k = m + 1 := by omega
    subst ek
    go_wp2
    go_ret
    exact ⟨rfl, rfl⟩
theorem OwnI.up {w : World} {B C : Nat} {v : Value} {xs : List Int} (h : OwnI w B v xs) (hC : C ≤ B) : OwnI w C v xs := by
 obtain ⟨a, cap, hv, h⟩ := h
 refine ⟨a, cap, hv, ?_⟩
 rcases h with h | ⟨b, hB, ha, hr⟩
 ·exact .inl h
 ·exact .inr ⟨b, by omega, ha, hr⟩
end Go.Proofs.YtnlonkkbjkfkmaaGreatDoor
