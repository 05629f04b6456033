/-
  Texts of this proof: Bds.
-/
import Derived.Test.YtnlonkkbjkfkmaaGreatDoorM04
import Derived.Test.YtnlonkkbjkfkmaaGreatDoorM05
import Derived.Test.YtnlonkkbjkfkmaaGreatDoorM08
import Derived.Deep.Slices
import Derived.Deep.MidRow
import Derived.Deep.Fields
import Derived.ChangeSame
namespace Go.Proofs.YtnlonkkbjkfkmaaGreatDoor
open Go.RowKit Go.Joins Go.ChangeShapes Go.WideShapes Go.Deep
set_option linter.all false
instance : Inhabited Bd := ⟨⟨0, 0, 0, 0, 0, 0, 0, 0, 0⟩⟩
def bdL (b : Bd) : List Value := [.int .i64 b.kind, .int .i64 b.owner, .int .i64 b.x, .int .i64 b.y, .int .i64 b.vx, .int .i64 b.vy, .int .i64 b.aim, .int .i64 b.life, .int .i64 b.timer]
theorem bdL_len (b : Bd) : (bdL b).length = 9 := rfl
theorem rangeLt {w : World} {b o : Nat} {d : Bd} (h : w.rangeAt b o (bdL d)) : b < w.heap.size := World.block_lt_of_cell? w _ (h 0 _ rfl)
def RdBd (w : World) (v : Value) (X : List Bd) : Prop :=
 ∃ a cap, v = .slice a X.length cap ∧ (X = [] ∨ ∃ b off, a = some ⟨b, off, none⟩ ∧ ∀ j (h : j < X.length), w.rangeAt b (off + j * 9) (bdL X[j]))
def RowBd (w : World) (g : Nat) (X : List Bd) : Prop := ∀ j (h : j < X.length), w.rangeAt g (j * 9) (bdL X[j]) ∧ w.there g (j * 9) 9
def OwnBd (w : World) (B : Nat) (v : Value) (X : List Bd) : Prop :=
 ∃ a cap, v = .slice a X.length cap ∧ (X = [] ∨ ∃ g, B ≤ g ∧ a = some ⟨g, 0, none⟩ ∧ RowBd w g X)
theorem OwnBd.rd {w : World} {B : Nat} {v : Value} {X : List Bd} (h : OwnBd w B v X) : RdBd w v X := by
 obtain ⟨a, cap, hv, h⟩ := h
 refine ⟨a, cap, hv, ?_⟩
 rcases h with h | ⟨g, hB, ha, hr⟩
 ·exact .inl h
 ·exact .inr ⟨g, 0, ha, fun j hj => by rw [Nat.zero_add]; exact (hr j hj).1⟩
theorem RdBd.keep {w w' : World} {v : Value} {X : List Bd} (h : RdBd w v X) (hb : Below w.heap.size w w') : RdBd w' v X := by
 obtain ⟨a, cap, hv, h⟩ := h
 refine ⟨a, cap, hv, ?_⟩
 rcases h with h | ⟨b, off, ha, hr⟩
 ·exact .inl h
 ·exact .inr ⟨b, off, ha, fun j hj => rangeKeep (hr j hj) hb (rangeLt (hr j hj))⟩
theorem RowBd.lt {w : World} {g : Nat} {X : List Bd} (h : RowBd w g X) (hx : X ≠ []) : g < w.heap.size := rangeLt (h 0 (List.length_pos_iff.2 hx)).1
theorem RowBd.keep {w w' : World} {g : Nat} {X : List Bd} (h : RowBd w g X) {C : Nat} (hb : Below C w w') (hC : g < C) : RowBd w' g X :=
 fun j hj => ⟨rangeKeep (h j hj).1 hb hC, thereKeep (h j hj).2 hb hC⟩
theorem OwnBd.keep {w w' : World} {B : Nat} {v : Value} {X : List Bd} (h : OwnBd w B v X) (hb : Below w.heap.size w w') : OwnBd w' B v X := by
 obtain ⟨a, cap, hv, h⟩ := h
 refine ⟨a, cap, hv, ?_⟩
 by_cases hx : X = []
 ·exact .inl hx
 ·obtain ⟨g, hB, ha, hr⟩ := h.resolve_left hx
  exact .inr ⟨g, hB, ha, hr.keep hb (hr.lt hx)⟩
theorem OwnBd.up {w : World} {B C : Nat} {v : Value} {X : List Bd} (h : OwnBd w B v X) (hC : C ≤ B) : OwnBd w C v X := by
 obtain ⟨a, cap, hv, h⟩ := h
 refine ⟨a, cap, hv, ?_⟩
 rcases h with h | ⟨g, hB, ha, hr⟩
 ·exact .inl h
 ·exact .inr ⟨g, by omega, ha, hr⟩
theorem RowBd.far {w : World} {g : Nat} {X : List Bd} (h : RowBd w g X) {p : Addr} (hp : p.block ≠ g) (u : Value) : RowBd (w.setCell p u) g X :=
 fun j hj => ⟨rangeFar (h j hj).1 hp u, thereFar (h j hj).2 hp u⟩
theorem OwnBd.far {w : World} {B : Nat} {v : Value} {X : List Bd} (h : OwnBd w B v X) {p : Addr} (hp : p.block < B) (u : Value) : OwnBd (w.setCell p u) B v X := by
 obtain ⟨a, cap, hv, h⟩ := h
 refine ⟨a, cap, hv, ?_⟩
 rcases h with h | ⟨b, hB, ha, hr⟩
 ·exact .inl h
 ·exact .inr ⟨b, hB, ha, hr.far (by omega) u⟩
theorem RowBd.put {w : World} {g : Nat} {X : List Bd} (h : RowBd w g X) (k : Nat) (hk : k < X.length) (b : Bd) : RowBd (w.setCells g (k * 9) (bdL b)) g (X.set k b) := by
 intro j hj0
 have hj : j < X.length := by rw [List.length_set] at hj0; exact hj0
 refine ⟨?_, World.there_setCells (h j hj).2 _ _ _⟩
 by_cases e : k = j
 ·subst e
  rw [List.getElem_set_self]
  exact World.rangeAt_setCells_same _ _ _ _ (h k hk).2
 ·rw [List.getElem_set_ne e]
  exact World.rangeAt_setCells_apart (h j hj).1 _ _ _ (by rw [bdL_len, bdL_len]; omega)
def Bd.set (b : Bd) (i : Nat) (n : Int) : Bd :=
 match i with
 | 0 => { b with kind := n } | 1 => { b with owner := n } | 2 => { b with x := n } | 3 => { b with y := n } | 4 => { b with vx := n }
 | 5 => { b with vy := n } | 6 => { b with aim := n } | 7 => { b with life := n } | _ => { b with timer := n }
section
variable {H : Type} {enc : TypeId × Value → H} {w : World} {base : Nat} {spare : Nat → Bool} {held : Bool}
set_option maxRecDepth 100000 in
theorem rdBd_of_trod {n : Nat} {v0 : Value} {y : DataW H × List MemPlace} (h : DataW.trod enc Tryz.prog w base spare held n 44 [v0] = some y) : ∃ X, RdBd w v0 X ∧ X.length ≤ 9223372036854775807 ∧ ∀ b ∈ X, b.fits := by
 rcases open_slice_fields (fs := _) Tryz.underlying44 Tryz.underlying183 (by kernel_rfl) (by kernel_rfl) h with hcs | ⟨a, len, cap, m, hcs, hl, hm, hlm, hx⟩
 ·simp only [List.cons.injEq, and_true] at hcs
  subst hcs
  exact ⟨[], ⟨none, 0, rfl, .inl rfl⟩, by simp, by simp⟩
 ·simp only [List.cons.injEq, and_true] at hcs
  subst hcs
  have hb : ∀ i, i < m → ∃ b : Bd, b.fits ∧ ∀ j (hj : j < 9), w.cell? (a.add (i * 9 + j)) = some ((bdL b)[j]'(by rw [bdL_len]; exact hj)) := by
   intro i hi
   obtain ⟨n', hf⟩ := hx i hi
   obtain ⟨v0, _, c0, t0⟩ := hf 0 _ rfl
   obtain ⟨v1, _, c1, t1⟩ := hf 1 _ rfl
   obtain ⟨v2, _, c2, t2⟩ := hf 2 _ rfl
   obtain ⟨v3, _, c3, t3⟩ := hf 3 _ rfl
   obtain ⟨v4, _, c4, t4⟩ := hf 4 _ rfl
   obtain ⟨v5, _, c5, t5⟩ := hf 5 _ rfl
   obtain ⟨v6, _, c6, t6⟩ := hf 6 _ rfl
   obtain ⟨v7, _, c7, t7⟩ := hf 7 _ rfl
   obtain ⟨v8, _, c8, t8⟩ := hf 8 _ rfl
   obtain ⟨m0, rfl, w0⟩ := intField t0
   obtain ⟨m1, rfl, w1⟩ := intField t1
   obtain ⟨m2, rfl, w2⟩ := intField t2
   obtain ⟨m3, rfl, w3⟩ := intField t3
   obtain ⟨m4, rfl, w4⟩ := intField t4
   obtain ⟨m5, rfl, w5⟩ := intField t5
   obtain ⟨m6, rfl, w6⟩ := intField t6
   obtain ⟨m7, rfl, w7⟩ := intField t7
   obtain ⟨m8, rfl, w8⟩ := intField t8
   refine ⟨⟨m0, m1, m2, m3, m4, m5, m6, m7, m8⟩, ⟨w0, w1, w2, w3, w4, w5, w6, w7, w8⟩, fun j hj => ?_⟩
   match j, hj with
   | 0, _ => exact c0
   | 1, _ => exact c1
   | 2, _ => exact c2
   | 3, _ => exact c3
   | 4, _ => exact c4
   | 5, _ => exact c5
   | 6, _ => exact c6
   | 7, _ => exact c7
   | 8, _ => exact c8
  obtain ⟨Z, hZ⟩ := choose_lt (α := Bd) (p := fun i b => b.fits ∧ ∀ j (hj : j < 9), w.cell? (a.add (i * 9 + j)) = some ((bdL b)[j]'(by rw [bdL_len]; exact hj))) (n := m) hb
  unfold maxLen at hm
  refine ⟨(List.range len).map Z, ⟨some a, cap, by simp, ?_⟩, by simp; omega, ?_⟩
  ·by_cases h0 : len = 0
   ·subst h0; exact .inl rfl
   ·obtain ⟨b, off, spot⟩ := a
    have hc0 := (hZ 0 (by omega)).2 0 (by omega)
    have hspot : spot = none := by simpa [Addr.add] using World.cell?_spot hc0
    subst hspot
    refine .inr ⟨b, off, rfl, fun j hj i v hv => ?_⟩
    rw [List.length_map, List.length_range] at hj
    obtain ⟨hi, hv'⟩ := List.getElem?_eq_some_iff.1 hv
    rw [bdL_len] at hi
    have h1 := (hZ j (by omega)).2 i hi
    rw [show (⟨b, off, none⟩ : Addr).add (j * 9 + i) = ⟨b, off + (j * 9 + i), none⟩ by unfold Addr.add; split <;> simp_all, ← Nat.add_assoc] at h1
    rw [h1, ← hv']
    simp
  ·intro s hs
   simp only [List.mem_map, List.mem_range] at hs
   obtain ⟨i, hi, rfl⟩ := hs
   exact (hZ i (by omega)).1
end
end Go.Proofs.YtnlonkkbjkfkmaaGreatDoor
