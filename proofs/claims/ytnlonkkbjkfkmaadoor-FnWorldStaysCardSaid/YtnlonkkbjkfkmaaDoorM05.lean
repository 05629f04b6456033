/-
  Texts of this proof: Oin, MkR, Orr, StI, Size.
-/
import Derived.Test.YtnlonkkbjkfkmaaDoorM03
import Derived.Test.YtnlonkkbjkfkmaaDoorM04
import Derived.Deep.RegionLaw
import Derived.OneCell
import Derived.Test.YtnlonkkbjkfkmaaDoorM00
namespace Go.Proofs.YtnlonkkbjkfkmaaDoor
open Go.RowKit
set_option linter.all false
def OwnIn (w : World) (lo hi : Nat) (v : Value) (xs : List Int) : Prop := ∃ a cap, v = .slice a xs.length cap ∧ (xs = [] ∨ ∃ b, lo ≤ b ∧ b < hi ∧ a = some ⟨b, 0, none⟩ ∧ RowI w b xs)
theorem OwnIn.of {w : World} {B : Nat} {v : Value} {xs : List Int} (h : OwnI w B v xs) : OwnIn w B w.heap.size v xs := by
 obtain ⟨a, cap, hv, h⟩ := h
 refine ⟨a, cap, hv, ?_⟩
 by_cases hx : xs = []
 ·exact .inl hx
 rcases h with h | ⟨b, hB, ha, hr⟩
 ·exact .inl h
 ·exact .inr ⟨b, hB, hr.lt hx, ha, hr⟩
theorem OwnIn.own {w : World} {lo hi : Nat} {v : Value} {xs : List Int} (h : OwnIn w lo hi v xs) : OwnI w lo v xs := by
 obtain ⟨a, cap, hv, h⟩ := h
 refine ⟨a, cap, hv, ?_⟩
 rcases h with h | ⟨b, hB, _, ha, hr⟩
 ·exact .inl h
 ·exact .inr ⟨b, hB, ha, hr⟩
theorem OwnIn.wide {w : World} {lo hi lo' hi' : Nat} {v : Value} {xs : List Int} (h : OwnIn w lo hi v xs) (h1 : lo' ≤ lo) (h2 : hi ≤ hi') : OwnIn w lo' hi' v xs := by
 obtain ⟨a, cap, hv, h⟩ := h
 refine ⟨a, cap, hv, ?_⟩
 rcases h with h | ⟨b, hB, hb, ha, hr⟩
 ·exact .inl h
 ·exact .inr ⟨b, by omega, by omega, ha, hr⟩
theorem frozen_of_block {w w' : World} {b : Nat} (h : w'.heap[b]? = w.heap[b]?) (j : Nat) : w'.frozen? ⟨b, j, none⟩ = w.frozen? ⟨b, j, none⟩ := by simp [World.frozen?, h]
theorem RowI.same {w w' : World} {b : Nat} {xs : List Int} (h : RowI w b xs) (he : w'.heap[b]? = w.heap[b]?) : RowI w' b xs :=
 ⟨fun j hj => by rw [World.cell?_of_block (w := w) he]; exact h.1 j hj, fun j hj => by rw [frozen_of_block he]; exact h.2 j hj⟩
theorem OwnIn.same {w w' : World} {lo hi : Nat} {v : Value} {xs : List Int} (h : OwnIn w lo hi v xs) (he : xs ≠ [] → ∀ b, lo ≤ b → b < hi → v.ownBlock = some b → w'.heap[b]? = w.heap[b]?) : OwnIn w' lo hi v xs := by
 obtain ⟨a, cap, rfl, h⟩ := h
 refine ⟨a, cap, rfl, ?_⟩
 by_cases hx : xs = []
 ·exact .inl hx
 rcases h with h | ⟨b, hB, hb, rfl, hr⟩
 ·exact .inl h
 ·exact .inr ⟨b, hB, hb, rfl, hr.same (he hx b hB hb rfl)⟩
theorem OwnIn.far {w : World} {lo hi : Nat} {v : Value} {xs : List Int} (h : OwnIn w lo hi v xs) {p : Addr} (hp : p.block < lo) (u : Value) : OwnIn (w.setCell p u) lo hi v xs := by
 obtain ⟨a, cap, rfl, h⟩ := h
 refine ⟨a, cap, rfl, ?_⟩
 rcases h with h | ⟨b, h1, h2, rfl, hr⟩
 ·exact .inl h
 ·exact .inr ⟨b, h1, h2, rfl, hr.far (by omega) u⟩
end Go.Proofs.YtnlonkkbjkfkmaaDoor
namespace Go.Proofs.YtnlonkkbjkfkmaaDoor
open Go.RowKit
set_option linter.all false
end Go.Proofs.YtnlonkkbjkfkmaaDoor
namespace Go.Proofs.YtnlonkkbjkfkmaaDoor
open Go.RowKit
set_option linter.all false
def InnR (w : World) (B C : Nat) (us : List Value) (X : Rowi) : Prop := us.length = X.length ∧ ∃ T : Nat → Nat, B ≤ T 0 ∧ (∀ i j, i ≤ j → T i ≤ T j) ∧ T X.length ≤ C ∧ ∀ j (h : j < us.length) (h' : j < X.length), OwnIn w (T j) (T (j + 1)) us[j] X[j]
def OwnRR (w : World) (B C : Nat) (v : Value) (X : Rowi) : Prop := C ≤ w.heap.size ∧ (∀ g, v.ownBlock = some g → g < C) ∧ ∃ us, InnR w B C us X ∧ w.ownsRow B 27 1 v X.length us
theorem InnR.keep {w w' : World} {B C : Nat} {us : List Value} {X : Rowi} (h : InnR w B C us X) (hk : ∀ b, b < C → (X ≠ []) → w'.heap[b]? = w.heap[b]?) : InnR w' B C us X := by
 obtain ⟨hl, T, h0, hm, hC, hr⟩ := h
 refine ⟨hl, T, h0, hm, hC, fun j h1 h2 => (hr j h1 h2).same fun _ b _ hb _ => hk b ?_ (by intro e; rw [e] at h2; simp at h2)⟩
 have := hm (j + 1) X.length (by omega)
 omega
theorem OwnRR.keep {w w' : World} {B C : Nat} {v : Value} {X : Rowi} (h : OwnRR w B C v X) {D : Nat} (hb : Below D w w') (hD : w.heap.size ≤ D) : OwnRR w' B C v X := by
 obtain ⟨hC, hg, us, hi, ho⟩ := h
 refine ⟨Nat.le_trans hC hb.size, hg, us, hi.keep fun b hbC _ => hb.block b (by omega), ?_⟩
 exact World.ownsRow.kept ho (row := none) ⟨hb.os, hb.tape, hb.output, hb.size, fun k hk _ => hb.block k (by omega)⟩ (by cases v.ownBlock <;> simp)
theorem OwnRR.nil (w : World) (B : Nat) (hB : B ≤ w.heap.size) : OwnRR w B w.heap.size (.slice none 0 0) [] :=
 ⟨Nat.le_refl _, fun g e => by simp [Value.ownBlock] at e, [], ⟨rfl, fun _ => B, Nat.le_refl _, fun _ _ _ => Nat.le_refl _, hB, fun j h => by simp at h⟩, World.ownsRow_nil w B _ 1⟩
theorem OwnRR.made (w : World) (B : Nat) (cur : Array Value) (hB : B ≤ w.heap.size) (hm : cur.size ≤ maxLen) : OwnRR (w.alloc (.cells cur 27)) B (w.alloc (.cells cur 27)).heap.size (.slice (some ⟨w.heap.size, 0, none⟩) 0 cur.size) [] :=
 ⟨Nat.le_refl _, fun g e => by simp [Value.ownBlock] at e; subst e; simp, [], ⟨rfl, fun _ => B, Nat.le_refl _, fun _ _ _ => Nat.le_refl _, by simp; omega, fun j h => by simp at h⟩, World.ownsRow_made w cur cur.size hB hm (by simp)⟩
theorem OwnIn.oneCell {w : World} {lo hi : Nat} {v : Value} {xs : List Int} (h : OwnIn w lo hi v xs) : v.oneCell' = true := by
 obtain ⟨a, cap, rfl, -⟩ := h; rfl
theorem ownsRow_cell {w : World} {B : Nat} {v : Value} {n : Nat} {us : List Value} (h : w.ownsRow B 27 1 v n us) {g : Nat} (hg : v.ownBlock = some g) {j : Nat} (hj : j < us.length) : w.cell? ⟨g, j, none⟩ = some us[j] := by
 rcases h.2 with ⟨rfl, _⟩ | ⟨g', cap, cur, rfl, _⟩
 ·simp [Value.ownBlock] at hg
 ·simp only [Value.ownBlock, Option.some.injEq] at hg
  subst hg
  have hcell := World.ownsRow.cells h (g := g') rfl j us[j] (by simp [hj])
  rwa [show (⟨g', 0, none⟩ : Addr).add j = ⟨g', j, none⟩ by unfold Addr.add; split <;> simp_all] at hcell
theorem OwnIn.apart {w : World} {B lo hi : Nat} {v u : Value} {n : Nat} {us : List Value} {xs : List Int} (h : OwnIn w lo hi u xs) (hx : xs ≠ []) (ho : w.ownsRow B 27 1 v n us) (h0 : 0 < us.length) (hs : us[0].oneCell' = true) (hsl : ∃ a l c, us[0] = .slice a l c) : u.ownBlock ≠ none ∧ u.ownBlock ≠ v.ownBlock := by
 obtain ⟨a, cap, rfl, h⟩ := h
 obtain ⟨b, _, _, rfl, hr⟩ := h.resolve_left hx
 refine ⟨by simp [Value.ownBlock], fun e => ?_⟩
 have e' : v.ownBlock = some b := e.symm
 have c1 := ownsRow_cell ho e' h0
 have c2 := hr.1 0 (List.length_pos_iff.2 hx)
 obtain ⟨a', l', c', hsl⟩ := hsl
 rw [c1, hsl] at c2
 simp at c2
theorem OwnRR.rd {w : World} {B C : Nat} {v : Value} {X : Rowi} (h : OwnRR w B C v X) : RdR w v X := by
 obtain ⟨hC, hg, us, ⟨hl, T, h0, hm, hT, hr⟩, ho⟩ := h
 have ho' := ho
 rcases ho.2 with ⟨rfl, hn⟩ | ⟨g, cap, cur, rfl, hB, hgc, _⟩
 ·have : X = [] := List.eq_nil_of_length_eq_zero hn
  subst this
  exact ⟨none, 0, rfl, .inl rfl⟩
 ·refine ⟨_, cap, rfl, .inr ⟨g, 0, rfl, fun j hj => ⟨us[j]'(by omega), ?_, ((hr j (by omega) hj).own).rd⟩⟩⟩
  rw [Nat.zero_add]
  exact ownsRow_cell ho' rfl (by omega)
end Go.Proofs.YtnlonkkbjkfkmaaDoor
namespace Go.Proofs.YtnlonkkbjkfkmaaDoor
open Go.RowKit
set_option linter.all false
theorem OwnR.box {W w' : World} {B p : Nat} {v : Value} {xs : List Int} {o : Option Obj} (hown : OwnR W B v xs) (hg : W.grownBy w' v.ownBlock) (hp : p < W.heap.size) (hne : v.ownBlock ≠ some p) (h : W.heap[p]? = o) : w'.heap[p]? = o :=
 (hg.block p hp (fun e => hne e.symm)).trans h
theorem OwnR.notBox {W : World} {B p : Nat} {v : Value} {xs : List Int} {cs : Array Value} {T : TypeId} {fz : Nat × Nat} (h : OwnR W B v xs) (hp : W.heap[p]? = some (.cells cs T fz)) (hT : T ≠ 3) : v.ownBlock ≠ some p := by
 rcases h.2 with ⟨rfl, -⟩ | ⟨g, cap, cur, rfl, -, hg, -⟩
 ·intro e; cases e
 ·intro e
  obtain rfl := Option.some.inj e
  rw [show W.heap[g]? = some (.cells cur 3 (0, 0)) from hg] at hp
  have := Obj.cells.inj (Option.some.inj hp)
  exact hT this.2.1.symm
theorem OwnR.aside {W : World} {B : Nat} {v : Value} {xs : List Int} (h : OwnR W B v xs) {p : Addr} (hne : v.ownBlock ≠ some p.block) (u : Value) : OwnR (W.setCell p u) B v xs :=
 ownsRow_setCell_other h hne u
end Go.Proofs.YtnlonkkbjkfkmaaDoor
namespace Go.Proofs.YtnlonkkbjkfkmaaDoor
open Go.RowKit
set_option linter.all false

def sizeI (k : Int) : Int := if k = 0 then 12 else if k = 1 then 4 else if k = 2 then 8 else 0
theorem sizeI_0 : sizeI 0 = 12 := rfl
theorem sizeI_no {k : Int} (h0 : k ≠ 0) (h1 : k ≠ 1) (h2 : k ≠ 2) : sizeI k = 0 := by unfold sizeI; rw [if_neg h0, if_neg h1, if_neg h2]
theorem sizeI_range (k : Int) : 0 ≤ sizeI k ∧ sizeI k ≤ 12 := by unfold sizeI; repeat' split <;> omega
theorem playerSize (cs : Array Value) (w : World) : Calls Tryd.prog 135 #[.agg cs] w fun e w' => e = .returned (.int .i64 12) ∧ Below w.heap.size w w' := by
 go_enter Tryd.func135, Tryd.ntmps135
 go_wp2
 go_ret
 exact ⟨rfl, (Below.refl _ _).alloc (Nat.le_refl _) _⟩
theorem shotSize (cs : Array Value) (w : World) : Calls Tryd.prog 136 #[.agg cs] w fun e w' => e = .returned (.int .i64 4) ∧ Below w.heap.size w w' := by
 go_enter Tryd.func136, Tryd.ntmps136
 go_wp2
 go_ret
 exact ⟨rfl, (Below.refl _ _).alloc (Nat.le_refl _) _⟩
theorem itemSize (cs : Array Value) (w : World) : Calls Tryd.prog 137 #[.agg cs] w fun e w' => e = .returned (.int .i64 8) ∧ Below w.heap.size w w' := by
 go_enter Tryd.func137, Tryd.ntmps137
 go_wp2
 go_ret
 exact ⟨rfl, (Below.refl _ _).alloc (Nat.le_refl _) _⟩
theorem sizeOf_impl (k : Int) (w : World) : Calls Tryd.prog 117 #[.int .i64 k] w fun e w' => e = .returned (.int .i64 (sizeI k)) ∧ Below w.heap.size w w' := by
 by_cases h0 : k = 0
 ·subst h0
  go_enter Tryd.func117, Tryd.ntmps117
  go_wp2_with (first
   | (go_at_call 135; refine (playerSize _ _).mono ?_; rintro e w1 ⟨rfl, hb1⟩))
  go_ret
  exact ⟨rfl, hb1⟩
 ·have z0 : (k == 0) = false := by simpa using h0
  by_cases h1 : k = 1
  ·subst h1
   go_enter Tryd.func117, Tryd.ntmps117
   go_wp2_with (first
    | (go_at_call 136; refine (shotSize _ _).mono ?_; rintro e w1 ⟨rfl, hb1⟩))
   go_ret
   exact ⟨rfl, hb1⟩
  ·have z1 : (k == 1) = false := by simpa using h1
   by_cases h2 : k = 2
   ·subst h2
    go_enter Tryd.func117, Tryd.ntmps117
    go_wp2_with (first
     | (go_at_call 137; refine (itemSize _ _).mono ?_; rintro e w1 ⟨rfl, hb1⟩))
    go_ret
    exact ⟨rfl, hb1⟩
   ·have z2 : (k == 2) = false := by simpa using h2
    have HF := Lib.hid (sizeI_no h0 h1 h2)
    clear h0 h1 h2
    go_enter Tryd.func117, Tryd.ntmps117
    go_wp2_with (fail)
    go_ret
    exact ⟨by rw [HF.out]; rfl, Below.refl _ _⟩
theorem sizeOf_spec (k : Int) (w : World) : Calls Tryd.prog 132 #[.int .i64 k] w fun e w' => e = .returned (.int .i64 (sizeI k)) ∧ w = w' := by
 by_cases h0 : k = 0
 ·subst h0
  go_enter Tryd.func132, Tryd.ntmps132
  go_wp2_with (fail)
  go_ret
  exact ⟨rfl, rfl⟩
 ·have z0 : (k == 0) = false := by simpa using h0
  by_cases h1 : k = 1
  ·subst h1
   go_enter Tryd.func132, Tryd.ntmps132
   go_wp2_with (fail)
   go_ret
   exact ⟨rfl, rfl⟩
  ·have z1 : (k == 1) = false := by simpa using h1
   by_cases h2 : k = 2
   ·subst h2
    go_enter Tryd.func132, Tryd.ntmps132
    go_wp2_with (fail)
    go_ret
    exact ⟨rfl, rfl⟩
   ·have z2 : (k == 2) = false := by simpa using h2
    have HF := Lib.hid (sizeI_no h0 h1 h2)
    clear h0 h1 h2
    go_enter Tryd.func132, Tryd.ntmps132
    go_wp2_with (fail)
    go_ret
    exact ⟨by rw [HF.out]; rfl, rfl⟩
def inR (n lo hi : Int) : Bool := decide (lo ≤ n) && decide (n ≤ hi)
theorem inR_iff (n lo hi : Int) : inR n lo hi = true ↔ lo ≤ n ∧ n ≤ hi := by unfold inR; simp
theorem within_impl (n lo hi : Int) (w : World) : Calls Tryd.prog 39 #[.int .i64 n, .int .i64 lo, .int .i64 hi] w fun e w' => e = .returned (.bool (inR n lo hi)) ∧ w = w' := by
 by_cases h0 : lo ≤ n
 ·have z0 : decide (lo ≤ n) = true := by simpa using h0
  have HF0 : inR n lo hi = decide (n ≤ hi) := by unfold inR; rw [z0]; rfl
  have HF := Lib.hid HF0
  clear HF0
  go_enter Tryd.func39, Tryd.ntmps39
  go_wp2_with (fail)
  go_ret
  exact ⟨by rw [HF.out]; rfl, rfl⟩
 ·have z0 : decide (lo ≤ n) = false := by simpa using h0
  have HF0 : inR n lo hi = false := by unfold inR; rw [z0]; rfl
  have HF := Lib.hid HF0
  clear HF0
  go_enter Tryd.func39, Tryd.ntmps39
  go_wp2_with (fail)
  go_ret
  exact ⟨by rw [HF.out]; rfl, rfl⟩
theorem in_spec (n lo hi : Int) (w : World) : Calls Tryd.prog 45 #[.int .i64 n, .int .i64 lo, .int .i64 hi] w fun e w' => e = .returned (.bool (inR n lo hi)) ∧ w = w' := by
 by_cases h0 : lo ≤ n
 ·have z0 : decide (lo ≤ n) = true := by simpa using h0
  have HF0 : inR n lo hi = decide (n ≤ hi) := by unfold inR; rw [z0]; rfl
  have HF := Lib.hid HF0
  clear HF0
  go_enter Tryd.func45, Tryd.ntmps45
  go_wp2_with (fail)
  go_ret
  exact ⟨by rw [HF.out]; rfl, rfl⟩
 ·have z0 : decide (lo ≤ n) = false := by simpa using h0
  have HF0 : inR n lo hi = false := by unfold inR; rw [z0]; rfl
  have HF := Lib.hid HF0
  clear HF0
  go_enter Tryd.func45, Tryd.ntmps45
  go_wp2_with (fail)
  go_ret
  exact ⟨by rw [HF.out]; rfl, rfl⟩
end Go.Proofs.YtnlonkkbjkfkmaaDoor
