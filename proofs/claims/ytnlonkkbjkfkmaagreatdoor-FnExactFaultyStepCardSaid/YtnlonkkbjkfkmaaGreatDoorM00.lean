/-
  Texts of this proof: Base, Size, Heap.
-/
import Derived.Test.YtnlonkkbjkfkmaaGreatDoorChecked
import Derived.WalkKit
import Derived.Lib.Hide
import Derived.Deep.QuietTactic
import Derived.BigQuiet
import Derived.WalkSmall
import Derived.OpenShut
namespace Go.Proofs.YtnlonkkbjkfkmaaGreatDoor
open Go.RowKit

def IsRow (k : IntKind) (w : World) (a : Option Addr) (len cap : Nat) (zs : List Int) : Prop :=
 (a = none ∧ len = 0 ∧ cap = 0 ∧ zs = []) ∨
 ∃ x, a = some x ∧ len ≤ cap ∧ cap ≤ maxLen ∧ zs.length = cap ∧ (∀ i, i < zs.length → w.cell? (x.add i) = some (.int k (zs.getD i 0))) ∧ ∀ n ∈ zs, (Lit.int k n).wf = true

theorem ret_int {k : IntKind} {a b : Int} (h : a = b) : Ending.returned (.int k a) = .returned (.int k b) := by rw [h]

theorem ofInt_i64 (a : Nat) (ha : a < 9223372036854775808) : (BitVec.ofInt 64 (a : Int)).toNat = a := by
 rw [BitVec.ofInt_natCast, BitVec.toNat_ofNat]; exact Nat.mod_eq_of_lt (by omega)
theorem i64_and_nat (a b : Nat) (ha : a < 9223372036854775808) (hb : b < 9223372036854775808) : bits .and .i64 (a : Int) (b : Int) = ((a &&& b : Nat) : Int) := by
 have hx : a &&& b < 2 ^ 63 := Nat.and_lt_two_pow _ (by omega)
 show IntKind.i64.wrap ((BitVec.ofInt 64 (a : Int) &&& BitVec.ofInt 64 (b : Int)).toNat : Int) = _
 rw [BitVec.toNat_and, ofInt_i64 a ha, ofInt_i64 b hb, IntKind.wrap_i64]
 omega
theorem i64_and65535 (n : Int) (h0 : 0 ≤ n) (h1 : n ≤ 9223372036854775807) : bits .and .i64 n 65535 = n % 65536 := by
 obtain ⟨a, rfl⟩ := Int.eq_ofNat_of_zero_le h0
 have := i64_and_nat a 65535 (by omega) (by omega)
 rw [show ((65535 : Nat) : Int) = 65535 from rfl] at this
 rw [this, nat_mask16]; omega
end Go.Proofs.YtnlonkkbjkfkmaaGreatDoor
namespace Go.Proofs.YtnlonkkbjkfkmaaGreatDoor
open Go.RowKit
set_option linter.all false

def sizeI (k : Int) : Int := if k = 0 then 12 else if k = 1 then 4 else if k = 2 then 8 else 0
theorem sizeI_0 : sizeI 0 = 12 := rfl
theorem sizeI_no {k : Int} (h0 : k ≠ 0) (h1 : k ≠ 1) (h2 : k ≠ 2) : sizeI k = 0 := by unfold sizeI; rw [if_neg h0, if_neg h1, if_neg h2]
theorem sizeI_range (k : Int) : 0 ≤ sizeI k ∧ sizeI k ≤ 12 := by unfold sizeI; repeat' split <;> omega
theorem playerSize (cs : Array Value) (w : World) : Calls Tryz.prog 261 #[.agg cs] w fun e w' => e = .returned (.int .i64 12) ∧ Below w.heap.size w w' := by
 go_enter Tryz.func261, Tryz.ntmps261
 go_wp2
 go_ret
 exact ⟨rfl, (Below.refl _ _).alloc (Nat.le_refl _) _⟩
theorem shotSize (cs : Array Value) (w : World) : Calls Tryz.prog 262 #[.agg cs] w fun e w' => e = .returned (.int .i64 4) ∧ Below w.heap.size w w' := by
 go_enter Tryz.func262, Tryz.ntmps262
 go_wp2
 go_ret
 exact ⟨rfl, (Below.refl _ _).alloc (Nat.le_refl _) _⟩
theorem itemSize (cs : Array Value) (w : World) : Calls Tryz.prog 263 #[.agg cs] w fun e w' => e = .returned (.int .i64 8) ∧ Below w.heap.size w w' := by
 go_enter Tryz.func263, Tryz.ntmps263
 go_wp2
 go_ret
 exact ⟨rfl, (Below.refl _ _).alloc (Nat.le_refl _) _⟩
theorem sizeOf_impl (k : Int) (w : World) : Calls Tryz.prog 244 #[.int .i64 k] w fun e w' => e = .returned (.int .i64 (sizeI k)) ∧ Below w.heap.size w w' := by
 by_cases h0 : k = 0
 ·subst h0
  go_enter Tryz.func244, Tryz.ntmps244
  go_wp2_with (first
   | (go_at_call 261; refine (playerSize _ _).mono ?_; rintro e w1 ⟨rfl, hb1⟩))
  go_ret
  exact ⟨rfl, hb1⟩
 ·have z0 : (k == 0) = false := by simpa using h0
  by_cases h1 : k = 1
  ·subst h1
   go_enter Tryz.func244, Tryz.ntmps244
   go_wp2_with (first
    | (go_at_call 262; refine (shotSize _ _).mono ?_; rintro e w1 ⟨rfl, hb1⟩))
   go_ret
   exact ⟨rfl, hb1⟩
  ·have z1 : (k == 1) = false := by simpa using h1
   by_cases h2 : k = 2
   ·subst h2
    go_enter Tryz.func244, Tryz.ntmps244
    go_wp2_with (first
     | (go_at_call 263; refine (itemSize _ _).mono ?_; rintro e w1 ⟨rfl, hb1⟩))
    go_ret
    exact ⟨rfl, hb1⟩
   ·have z2 : (k == 2) = false := by simpa using h2
    have HF := Lib.hid (sizeI_no h0 h1 h2)
    clear h0 h1 h2
    go_enter Tryz.func244, Tryz.ntmps244
    go_wp2_with (fail)
    go_ret
    exact ⟨by rw [HF.out]; rfl, Below.refl _ _⟩
theorem sizeOf_spec (k : Int) (w : World) : Calls Tryz.prog 242 #[.int .i64 k] w fun e w' => e = .returned (.int .i64 (sizeI k)) ∧ w = w' := by
 by_cases h0 : k = 0
 ·subst h0
  go_enter Tryz.func242, Tryz.ntmps242
  go_wp2_with (fail)
  go_ret
  exact ⟨rfl, rfl⟩
 ·have z0 : (k == 0) = false := by simpa using h0
  by_cases h1 : k = 1
  ·subst h1
   go_enter Tryz.func242, Tryz.ntmps242
   go_wp2_with (fail)
   go_ret
   exact ⟨rfl, rfl⟩
  ·have z1 : (k == 1) = false := by simpa using h1
   by_cases h2 : k = 2
   ·subst h2
    go_enter Tryz.func242, Tryz.ntmps242
    go_wp2_with (fail)
    go_ret
    exact ⟨rfl, rfl⟩
   ·have z2 : (k == 2) = false := by simpa using h2
    have HF := Lib.hid (sizeI_no h0 h1 h2)
    clear h0 h1 h2
    go_enter Tryz.func242, Tryz.ntmps242
    go_wp2_with (fail)
    go_ret
    exact ⟨by rw [HF.out]; rfl, rfl⟩
def inR (n lo hi : Int) : Bool := decide (lo ≤ n) && decide (n ≤ hi)
theorem inR_iff (n lo hi : Int) : inR n lo hi = true ↔ lo ≤ n ∧ n ≤ hi := by unfold inR; simp
theorem within_impl (n lo hi : Int) (w : World) : Calls Tryz.prog 69 #[.int .i64 n, .int .i64 lo, .int .i64 hi] w fun e w' => e = .returned (.bool (inR n lo hi)) ∧ w = w' := by
 by_cases h0 : lo ≤ n
 ·have z0 : decide (lo ≤ n) = true := by simpa using h0
  have HF0 : inR n lo hi = decide (n ≤ hi) := by unfold inR; rw [z0]; rfl
  have HF := Lib.hid HF0
  clear HF0
  go_enter Tryz.func69, Tryz.ntmps69
  go_wp2_with (fail)
  go_ret
  exact ⟨by rw [HF.out]; rfl, rfl⟩
 ·have z0 : decide (lo ≤ n) = false := by simpa using h0
  have HF0 : inR n lo hi = false := by unfold inR; rw [z0]; rfl
  have HF := Lib.hid HF0
  clear HF0
  go_enter Tryz.func69, Tryz.ntmps69
  go_wp2_with (fail)
  go_ret
  exact ⟨by rw [HF.out]; rfl, rfl⟩
theorem in_spec (n lo hi : Int) (w : World) : Calls Tryz.prog 88 #[.int .i64 n, .int .i64 lo, .int .i64 hi] w fun e w' => e = .returned (.bool (inR n lo hi)) ∧ w = w' := by
 by_cases h0 : lo ≤ n
 ·have z0 : decide (lo ≤ n) = true := by simpa using h0
  have HF0 : inR n lo hi = decide (n ≤ hi) := by unfold inR; rw [z0]; rfl
  have HF := Lib.hid HF0
  clear HF0
  go_enter Tryz.func88, Tryz.ntmps88
  go_wp2_with (fail)
  go_ret
  exact ⟨by rw [HF.out]; rfl, rfl⟩
 ·have z0 : decide (lo ≤ n) = false := by simpa using h0
  have HF0 : inR n lo hi = false := by unfold inR; rw [z0]; rfl
  have HF := Lib.hid HF0
  clear HF0
  go_enter Tryz.func88, Tryz.ntmps88
  go_wp2_with (fail)
  go_ret
  exact ⟨by rw [HF.out]; rfl, rfl⟩
end Go.Proofs.YtnlonkkbjkfkmaaGreatDoor
namespace Go.Proofs.YtnlonkkbjkfkmaaGreatDoor
open Go.RowKit
set_option linter.all false

theorem heap_at (w : World) (o : Obj) {k : Nat} (h : k = w.heap.size) : (w.alloc o).heap[k]? = some o := by subst h; exact heap_alloc_new w o
theorem below1 (w : World) (x : Obj) : Below w.heap.size w (w.alloc x) := (Below.refl _ _).alloc (Nat.le_refl _) _
theorem below2 (w : World) (x y : Obj) : Below w.heap.size w ((w.alloc x).alloc y) := (below1 w x).alloc (by simp) _
theorem keepHeap {W W' : World} {k : Nat} {o : Obj} (hb : Below W.heap.size W W') (h : W.heap[k]? = some o) : W'.heap[k]? = some o := by
 have hlt : k < W.heap.size := (Array.getElem?_eq_some_iff.1 h).1
 rw [hb.block k hlt]; exact h
theorem rowCells {W : World} {k : Nat} {xs : Array Value} {t : TypeId} (h : W.heap[k]? = some (.cells xs t (0, 0))) : ∀ j, W.cell? ⟨k, j, none⟩ = xs[j]? := fun j => by rw [Lib.cell_of_heap h]
theorem rows1 (w : World) (xs : Array Value) (t : TypeId) : ∃ W0, w.alloc (.cells xs t) = W0 ∧ W0.heap[w.heap.size]? = some (.cells xs t (0, 0)) ∧ Below w.heap.size w W0 ∧ w.heap.size + 1 ≤ W0.heap.size :=
 ⟨_, rfl, heap_alloc_new w _, below1 _ _, by simp⟩
theorem rows2 (w : World) (xs ys : Array Value) (t u : TypeId) : ∃ W0, (w.alloc (.cells xs t)).alloc (.cells ys u) = W0 ∧ W0.heap[w.heap.size]? = some (.cells xs t (0, 0)) ∧ W0.heap[w.heap.size + 1]? = some (.cells ys u (0, 0)) ∧ Below w.heap.size w W0 ∧ w.heap.size + 2 ≤ W0.heap.size :=
 ⟨_, rfl, keepHeap (below1 _ _) (heap_alloc_new w _), heap_at _ _ (by simp), below2 _ _ _, by simp⟩
theorem rows3 (w : World) (xs ys zs : Array Value) (t u v : TypeId) : ∃ W0, ((w.alloc (.cells xs t)).alloc (.cells ys u)).alloc (.cells zs v) = W0 ∧ W0.heap[w.heap.size]? = some (.cells xs t (0, 0)) ∧ W0.heap[w.heap.size + 1]? = some (.cells ys u (0, 0)) ∧ W0.heap[w.heap.size + 1 + 1]? = some (.cells zs v (0, 0)) ∧ Below w.heap.size w W0 ∧ w.heap.size + 3 ≤ W0.heap.size := by
 obtain ⟨W1, h1, ha, hb, hc, hd⟩ := rows2 w xs ys t u
 have hsz : W1.heap.size = w.heap.size + 2 := by rw [← h1]; simp
 refine ⟨_, rfl, ?_, ?_, ?_, ?_, ?_⟩
 ·rw [h1]; exact keepHeap (below1 _ _) ha
 ·rw [h1]; exact keepHeap (below1 _ _) hb
 ·rw [h1]; exact heap_at _ _ (by omega)
 ·rw [h1]; exact hc.alloc (by omega) _
 ·rw [h1]; simp; omega
theorem frozenHeap {W : World} {k : Nat} {xs : Array Value} {t : TypeId} (h : W.heap[k]? = some (.cells xs t (0, 0))) (i : Nat) : W.frozen? ⟨k, i, none⟩ = false := by simp [World.frozen?, h]
theorem setHeap {w : World} {c k : Nat} {v : Value} {cs : Array Value} {T : TypeId} {fr : Nat × Nat} (h : w.heap[c]? = some (.cells cs T fr)) : (w.setCell ⟨c, k, none⟩ v).heap[c]? = some (.cells (cs.setIfInBounds k v) T fr) := by
 simp [World.setCell, Array.getElem?_modify, h]
theorem farHeap {w : World} {c : Nat} {o : Obj} (h : w.heap[c]? = some o) {p : Addr} (hp : c ≠ p.block) (v : Value) : (w.setCell p v).heap[c]? = some o := (Below.heap_setCell w p v c hp).trans h
theorem belowDrew (w : World) (n : Nat) : Below w.heap.size w (w.drewN n) := ⟨rfl, rfl, rfl, Nat.le_refl _, fun _ _ => rfl⟩
theorem results_two {fn : Func} {p q : Tmp} {ty : TypeId} (h : fn.results = #[.cell p ty, .tmp q]) (tmps : Array Value) (w : World) (g : Nat) (u v : Value) (hp : tmps.getD p undef = .pointer (some ⟨g, 0, none⟩)) (hq : tmps.getD q undef = v) (hL : (loadVar ty ⟨g, 0, none⟩).run Tryz.prog w = .ok u w) :
  (results fn tmps).run Tryz.prog w = .ok (.tuple #[u, v]) w := by
 have hp' : tmps[p]?.getD undef = .pointer (some ⟨g, 0, none⟩) := by simpa using hp
 have hq' : tmps[q]?.getD undef = v := by simpa using hq
 simp [results, h, hp', hq', asAddr, hL]
end Go.Proofs.YtnlonkkbjkfkmaaGreatDoor
