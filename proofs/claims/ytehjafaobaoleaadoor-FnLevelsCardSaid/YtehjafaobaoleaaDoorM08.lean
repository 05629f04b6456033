/-
  Texts of this proof: Orr, StI.
-/
import Derived.Test.YtehjafaobaoleaaDoorM05
import Derived.Test.YtehjafaobaoleaaDoorM06
import Derived.Test.YtehjafaobaoleaaDoorM07
import Derived.Test.YtehjafaobaoleaaDoorM04
import Derived.Deep.RegionLaw
import Derived.OneCell
namespace Go.Proofs.YtehjafaobaoleaaDoor
open Go.RowKit
set_option linter.all false
def InnR (w : World) (B C : Nat) (us : List Value) (X : Rowi) : Prop := us.length = X.length ∧ ∃ T : Nat → Nat, B ≤ T 0 ∧ (∀ i j, i ≤ j → T i ≤ T j) ∧ T X.length ≤ C ∧ ∀ j (h : j < us.length) (h' : j < X.length), OwnIn w (T j) (T (j + 1)) us[j] X[j]
def OwnRR (w : World) (B C : Nat) (v : Value) (X : Rowi) : Prop := C ≤ w.heap.size ∧ (∀ g, v.ownBlock = some g → g < C) ∧ ∃ us, InnR w B C us X ∧ w.ownsRow B 27 1 v X.length us
theorem InnR.keep {w w' : World} {B C : Nat} {us : List Value} {X : Rowi} (h : InnR w B C us X) (hk : ∀ b, b < C → (X ≠ []) → w'.heap[b]? = w.heap[b]?) : InnR w' B C us X := by
 obtain ⟨hl, T, h0, hm, hC, hr⟩ := h
 refine ⟨hl, T, h0, hm, hC, fun j h1 h2 => (hr j h1 h2).same fun _ b _ hb _ => hk b ?_ (by intro e; rw [e] at h2; simp at h2)⟩
 have := hm (j + 1) X.length (by omega)
 omega
theorem OwnRR.keep {w w' : World} {B C : Nat} {v : Value} {X : Rowi} (h : OwnRR w B C v X) {D : Nat} (hb : Below D w w') (hD : w.heap.size ≤ D) : OwnRR w' B C v X := by
 obtain ⟨hC, hg, us, hi, ho⟩ := h
 refine ⟨Nat.le_trans hC hb.size, hg, us, hi.keep fun b hbC _ => hb.block b (by omega), ?_⟩
 exact World.ownsRow.kept ho (row := none) ⟨hb.os, hb.tape, hb.output, hb.size, fun k hk _ => hb.block k (by omega)⟩ (by cases v.ownBlock <;> simp)
theorem OwnRR.nil (w : World) (B : Nat) (hB : B ≤ w.heap.size) : OwnRR w B w.heap.size (.slice none 0 0) [] :=
 ⟨Nat.le_refl _, fun g e => by simp [Value.ownBlock] at e, [], ⟨rfl, fun _ => B, Nat.le_refl _, fun _ _ _ => Nat.le_refl _, hB, fun j h => by simp at h⟩, World.ownsRow_nil w B _ 1⟩
theorem OwnRR.made (w : World) (B : Nat) (cur : Array Value) (hB : B ≤ w.heap.size) (hm : cur.size ≤ maxLen) : OwnRR (w.alloc (.cells cur 27)) B (w.alloc (.cells cur 27)).heap.size (.slice (some ⟨w.heap.size, 0, none⟩) 0 cur.size) [] :=
 ⟨Nat.le_refl _, fun g e => by simp [Value.ownBlock] at e; subst e; simp, [], ⟨rfl, fun _ => B, Nat.le_refl _, fun _ _ _ => Nat.le_refl _, by simp; omega, fun j h => by simp at h⟩, World.ownsRow_made w cur cur.size hB hm (by simp)⟩
theorem OwnIn.oneCell {w : World} {lo hi : Nat} {v : Value} {xs : List Int} (h : OwnIn w lo hi v xs) : v.oneCell' = true := by
 obtain ⟨a, cap, rfl, -⟩ := h; rfl
theorem ownsRow_cell {w : World} {B : Nat} {v : Value} {n : Nat} {us : List Value} (h : w.ownsRow B 27 1 v n us) {g : Nat} (hg : v.ownBlock = some g) {j : Nat} (hj : j < us.length) : w.cell? ⟨g, j, none⟩ = some us[j] := by
 rcases h.2 with ⟨rfl, _⟩ | ⟨g', cap, cur, rfl, _⟩
 ·simp [Value.ownBlock] at hg
 ·simp only [Value.ownBlock, Option.some.injEq] at hg
  subst hg
  have hcell := World.ownsRow.cells h (g := g') rfl j us[j] (by simp [hj])
  rwa [show (⟨g', 0, none⟩ : Addr).add j = ⟨g', j, none⟩ by unfold Addr.add; split <;> simp_all] at hcell
theorem OwnIn.apart {w : World} {B lo hi : Nat} {v u : Value} {n : Nat} {us : List Value} {xs : List Int} (h : OwnIn w lo hi u xs) (hx : xs ≠ []) (ho : w.ownsRow B 27 1 v n us) (h0 : 0 < us.length) (hs : us[0].oneCell' = true) (hsl : ∃ a l c, us[0] = .slice a l c) : u.ownBlock ≠ none ∧ u.ownBlock ≠ v.ownBlock := by
 obtain ⟨a, cap, rfl, h⟩ := h
 obtain ⟨b, _, _, rfl, hr⟩ := h.resolve_left hx
 refine ⟨by simp [Value.ownBlock], fun e => ?_⟩
 have e' : v.ownBlock = some b := e.symm
 have c1 := ownsRow_cell ho e' h0
 have c2 := hr.1 0 (List.length_pos_iff.2 hx)
 obtain ⟨a', l', c', hsl⟩ := hsl
 rw [c1, hsl] at c2
 simp at c2
theorem OwnRR.rd {w : World} {B C : Nat} {v : Value} {X : Rowi} (h : OwnRR w B C v X) : RdR w v X := by
 obtain ⟨hC, hg, us, ⟨hl, T, h0, hm, hT, hr⟩, ho⟩ := h
 have ho' := ho
 rcases ho.2 with ⟨rfl, hn⟩ | ⟨g, cap, cur, rfl, hB, hgc, _⟩
 ·have : X = [] := List.eq_nil_of_length_eq_zero hn
  subst this
  exact ⟨none, 0, rfl, .inl rfl⟩
 ·refine ⟨_, cap, rfl, .inr ⟨g, 0, rfl, fun j hj => ⟨us[j]'(by omega), ?_, ((hr j (by omega) hj).own).rd⟩⟩⟩
  rw [Nat.zero_add]
  exact ownsRow_cell ho' rfl (by omega)
end Go.Proofs.YtehjafaobaoleaaDoor
namespace Go.Proofs.YtehjafaobaoleaaDoor
open Go.RowKit
set_option linter.all false
theorem OwnR.box {W w' : World} {B p : Nat} {v : Value} {xs : List Int} {o : Option Obj} (hown : OwnR W B v xs) (hg : W.grownBy w' v.ownBlock) (hp : p < W.heap.size) (hne : v.ownBlock ≠ some p) (h : W.heap[p]? = o) : w'.heap[p]? = o :=
 (hg.block p hp (fun e => hne e.symm)).trans h
theorem OwnR.notBox {W : World} {B p : Nat} {v : Value} {xs : List Int} {cs : Array Value} {T : TypeId} {fz : Nat × Nat} (h : OwnR W B v xs) (hp : W.heap[p]? = some (.cells cs T fz)) (hT : T ≠ 3) : v.ownBlock ≠ some p := by
 rcases h.2 with ⟨rfl, -⟩ | ⟨g, cap, cur, rfl, -, hg, -⟩
 ·intro e; cases e
 ·intro e
  obtain rfl := Option.some.inj e
  rw [show W.heap[g]? = some (.cells cur 3 (0, 0)) from hg] at hp
  have := Obj.cells.inj (Option.some.inj hp)
  exact hT this.2.1.symm
theorem OwnR.aside {W : World} {B : Nat} {v : Value} {xs : List Int} (h : OwnR W B v xs) {p : Addr} (hne : v.ownBlock ≠ some p.block) (u : Value) : OwnR (W.setCell p u) B v xs :=
 ownsRow_setCell_other h hne u
end Go.Proofs.YtehjafaobaoleaaDoor
