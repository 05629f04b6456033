/-
  Texts of this proof: Base, Pure, Ints, Code.
-/
import Derived.Test.YtnlonkkbjkfkmaaDoorChecked
import Derived.WalkKit
import Derived.Lib.Hide
import Derived.Deep.QuietTactic
import Derived.BigQuiet
import Derived.WalkSmall
import Derived.OpenShut
import Derived.Deep.RegionWith
namespace Go.Proofs.YtnlonkkbjkfkmaaDoor
open Go.RowKit

def IsRow (k : IntKind) (w : World) (a : Option Addr) (len cap : Nat) (zs : List Int) : Prop :=
 (a = none ∧ len = 0 ∧ cap = 0 ∧ zs = []) ∨
 ∃ x, a = some x ∧ len ≤ cap ∧ cap ≤ maxLen ∧ zs.length = cap ∧ (∀ i, i < zs.length → w.cell? (x.add i) = some (.int k (zs.getD i 0))) ∧ ∀ n ∈ zs, (Lit.int k n).wf = true

theorem ret_int {k : IntKind} {a b : Int} (h : a = b) : Ending.returned (.int k a) = .returned (.int k b) := by rw [h]

theorem ofInt_i64 (a : Nat) (ha : a < 9223372036854775808) : (BitVec.ofInt 64 (a : Int)).toNat = a := by
 rw [BitVec.ofInt_natCast, BitVec.toNat_ofNat]; exact Nat.mod_eq_of_lt (by omega)
end Go.Proofs.YtnlonkkbjkfkmaaDoor
namespace Go.Proofs.YtnlonkkbjkfkmaaDoor
open Go.RowKit
set_option linter.all false

end Go.Proofs.YtnlonkkbjkfkmaaDoor
namespace Go.Proofs.YtnlonkkbjkfkmaaDoor
open Go.RowKit
set_option linter.all false

def nextR (n : Int) : Int := if n < 0 ∨ 65535 < n then 0 else (n * 25173 + 13849) % 65536
def belowR (s n : Int) : Int × Int := if s < 0 ∨ 65535 < s ∨ n < 1 ∨ 4096 < n then (0, 0) else (nextR s, nextR s / 16 % n)
theorem nextR_bd (s : Int) : 0 ≤ nextR s ∧ nextR s ≤ 65535 := by unfold nextR; split <;> omega
theorem next_impl (n : Int) (w : World) :
  Calls Tryd.prog 85 #[.int .i64 n] w fun e w' => e = .returned (.int .i64 (nextR n)) ∧ w = w' := by
 by_cases h1 : n < 0
 ·have g1 : decide (n < 0) = true := by simpa using h1
  go_enter Tryd.func85, Tryd.ntmps85
  go_wp2
  go_ret
  exact ⟨ret_int (by unfold nextR; repeat' split <;> omega), rfl⟩
 ·have g1 : decide (n < 0) = false := by simpa using h1
  by_cases h2 : 65535 < n
  ·have g2 : decide (65535 < n) = true := by simpa using h2
   go_enter Tryd.func85, Tryd.ntmps85
   go_wp2
   go_ret
   exact ⟨ret_int (by unfold nextR; repeat' split <;> omega), rfl⟩
  ·have g2 : decide (65535 < n) = false := by simpa using h2
   go_enter Tryd.func85, Tryd.ntmps85
   go_wp2
   go_ret
   exact ⟨ret_int (by unfold nextR; repeat' split <;> omega), rfl⟩
theorem below_impl (s n : Int) (w : World) :
  Calls Tryd.prog 122 #[.int .i64 s, .int .i64 n] w fun e w' => e = .returned (.tuple #[.int .i64 (belowR s n).1, .int .i64 (belowR s n).2]) ∧ ∃ k, w' = w.drewN k := by
 by_cases h1 : s < 0
 ·have g1 : decide (s < 0) = true := by simpa using h1
  have hf : belowR s n = (0, 0) := by unfold belowR; rw [if_pos (by omega)]
  have HF := Lib.hid hf; clear hf
  go_enter Tryd.func122, Tryd.ntmps122
  go_wp2
  go_ret2
  exact ⟨by rw [HF.out]; rfl, 0, rfl⟩
 ·have g1 : decide (s < 0) = false := by simpa using h1
  by_cases h2 : 65535 < s
  ·have g2 : decide (65535 < s) = true := by simpa using h2
   have hf : belowR s n = (0, 0) := by unfold belowR; rw [if_pos (by omega)]
   have HF := Lib.hid hf; clear hf
   go_enter Tryd.func122, Tryd.ntmps122
   go_wp2
   go_ret2
   exact ⟨by rw [HF.out]; rfl, 0, rfl⟩
  ·have g2 : decide (65535 < s) = false := by simpa using h2
   by_cases h3 : n < 1
   ·have g3 : decide (n < 1) = true := by simpa using h3
    have hf : belowR s n = (0, 0) := by unfold belowR; rw [if_pos (by omega)]
    have HF := Lib.hid hf; clear hf
    go_enter Tryd.func122, Tryd.ntmps122
    go_wp2
    go_ret2
    exact ⟨by rw [HF.out]; rfl, 0, rfl⟩
   ·have g3 : decide (n < 1) = false := by simpa using h3
    by_cases h4 : 4096 < n
    ·have g4 : decide (4096 < n) = true := by simpa using h4
     have hf : belowR s n = (0, 0) := by unfold belowR; rw [if_pos (by omega)]
     have HF := Lib.hid hf; clear hf
     go_enter Tryd.func122, Tryd.ntmps122
     go_wp2
     go_ret2
     exact ⟨by rw [HF.out]; rfl, 0, rfl⟩
    ·have g4 : decide (4096 < n) = false := by simpa using h4
     have hf : belowR s n = (nextR s, nextR s / 16 % n) := by unfold belowR; rw [if_neg (by omega)]
     have HF := Lib.hid hf; clear hf
     have hb := (nextR_bd s).1
     have hb2 := (nextR_bd s).2
     have hz : (n == 0) = false := by simp; omega
     go_enter Tryd.func122, Tryd.ntmps122
     go_wp2_with (go_at_call 85; refine (next_impl _ _).mono ?_; rintro e w' ⟨rfl, rfl⟩)
     go_quiet (fail)
     go_wp2
     go_ret2
     exact ⟨by rw [HF.out]; rfl, _, rfl⟩
end Go.Proofs.YtnlonkkbjkfkmaaDoor
namespace Go.Proofs.YtnlonkkbjkfkmaaDoor
open Go.RowKit
set_option linter.all false

def RdC (w : World) (v : Value) (len : Nat) : Prop :=
 ∃ a cap, v = .slice a len cap ∧ (len = 0 ∨ ∃ b off, a = some ⟨b, off, none⟩ ∧ ∀ j, j < len → ∃ x : Nat, x ≤ 255 ∧ w.cell? ⟨b, off + j, none⟩ = some (.int .u8 (x : Int)))
theorem RdC.of_row {w : World} {a : Option Addr} {len cap : Nat} {zs : List Int} (h : IsRow .u8 w a len cap zs) : RdC w (.slice a len cap) len ∧ len ≤ 9223372036854775807 := by
 rcases h with ⟨rfl, rfl, rfl, rfl⟩ | ⟨x, rfl, hl, hm, hz, hc, hw⟩
 ·exact ⟨⟨none, 0, rfl, .inl rfl⟩, by omega⟩
 ·unfold maxLen at hm
  refine ⟨⟨some x, cap, rfl, ?_⟩, by omega⟩
  by_cases h0 : len = 0
  ·exact .inl h0
  ·obtain ⟨b, off, spot⟩ := x
   have hc0 := hc 0 (by omega)
   have hspot : spot = none := by simpa [Addr.add] using World.cell?_spot hc0
   subst hspot
   refine .inr ⟨b, off, rfl, fun j hj => ?_⟩
   have := hc j (by omega)
   rw [show (⟨b, off, none⟩ : Addr).add j = ⟨b, off + j, none⟩ by unfold Addr.add; split <;> simp_all] at this
   have hb := bounds_u8 (hw (zs.getD j 0) (by rw [List.getD_eq_getElem?_getD, List.getElem?_eq_getElem (by omega)]; exact List.getElem_mem _))
   exact ⟨(zs.getD j 0).toNat, by omega, by rw [this, Int.toNat_of_nonneg hb.1]⟩
theorem RdC.keep {w w' : World} {v : Value} {len : Nat} (h : RdC w v len) (hb : Below w.heap.size w w') : RdC w' v len := by
 obtain ⟨a, cap, hv, h⟩ := h
 refine ⟨a, cap, hv, ?_⟩
 rcases h with h | ⟨b, off, ha, hr⟩
 ·exact .inl h
 ·refine .inr ⟨b, off, ha, fun j hj => ?_⟩
  obtain ⟨x, hx, hc⟩ := hr j hj
  exact ⟨x, hx, by rw [← hc]; exact hb.cell (World.block_lt_of_cell? w _ hc)⟩
theorem big_any {w : World} {v : Value} {len : Nat} (h : RdC w v len) (hl : len ≤ 9223372036854775807) :
  Calls Tryd.prog 7 #[v] w fun e w' => e = .returned (.bool (decide (1048576 < (len : Int)))) ∧ w = w' := by
 obtain ⟨a, cap, rfl, _⟩ := h
 go_enter Tryd.func7, Tryd.ntmps7
 go_wp2
 go_ret
 exact ⟨rfl, rfl⟩
end Go.Proofs.YtnlonkkbjkfkmaaDoor
