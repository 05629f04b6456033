/-
  SolidAt: the plain mathematics, the contracts of the model and of the program. No condition.
-/
import Derived.Test.YtecimgennncjkaaDoorLvTi
namespace Go.Proofs.YtecimgennncjkaaDoor
open Go.RowKit
set_option linter.all false
theorem belowN {B : Nat} {w W : World} (h : Below B w W) (n : Nat) : Below B w (W.drewN n) := ⟨h.os, h.tape, h.output, h.size, h.block⟩
/-- Shape that the walks need of a valid level. -/
def Good (L : Rowz) : Prop := 3 ≤ L.length ∧ L.length ≤ 12 ∧ 4 ≤ wd L ∧ wd L ≤ 20 ∧ ∀ row ∈ L, row.length = wd L
theorem Good.row {L : Rowz} (h : Good L) {r : Nat} (hr : r < L.length) : L[r].length = wd L := h.2.2.2.2 _ (List.getElem_mem _)
theorem Good.sane {L : Rowz} (h : Good L) : Sane L := ⟨by have := h.2.1; omega, fun s hs => by have := h.2.2.2.2 s hs; have := h.2.2.2.1; omega⟩
/-- Whether the tile in row r, column c is a wall or lies outside. -/
def cellN (L : Rowz) (r c : Nat) : Bool := decide (L.length ≤ r) || (decide (wd L ≤ c) || (((atL L r c).toNat : Int) == 35))
def blockN (L : Rowz) (X Y S : Nat) : Bool := cellN L (Y / 16) (X / 16) || (cellN L (Y / 16) ((X + S - 1) / 16) || (cellN L ((Y + S - 1) / 16) (X / 16) || cellN L ((Y + S - 1) / 16) ((X + S - 1) / 16)))
def blockB (L : Rowz) (x y s : Int) : Bool := decide (x < 0) || (decide (y < 0) || blockN L x.toNat y.toNat s.toNat)
def solidB (L : Rowz) (x y s : Int) : Bool := !levelB L || (!inR s 1 16 || blockB L x y s)
theorem cellN_out {L : Rowz} {r c : Nat} (h : L.length ≤ r ∨ wd L ≤ c) : cellN L r c = true := by
  unfold cellN; rcases h with h | h <;> simp [h]
theorem cellN_in {L : Rowz} {r c : Nat} (h : Good L) (hr : r < L.length) (hc : c < wd L) : cellN L r c = (((L[r][c]'(by rw [h.row hr]; exact hc)).toNat : Int) == 35) := by
  unfold cellN
  rw [decide_eq_false (by omega), decide_eq_false (by omega), atL_eq hr (by rw [h.row hr]; exact hc)]
  rfl
theorem blockB_neg {L : Rowz} {x y s : Int} (h : x < 0 ∨ y < 0) : blockB L x y s = true := by
  unfold blockB; rcases h with h | h <;> simp [h]
theorem blockB_nat {L : Rowz} (X Y S : Nat) : blockB L (X : Int) (Y : Int) (S : Int) = blockN L X Y S := by
  unfold blockB
  rw [decide_eq_false (by omega), decide_eq_false (by omega)]; simp
theorem blockN_hit {L : Rowz} {X Y S r c : Nat} (hr : r = Y / 16 ∨ r = (Y + S - 1) / 16) (hc : c = X / 16 ∨ c = (X + S - 1) / 16) (h : cellN L r c = true) : blockN L X Y S = true := by
  unfold blockN
  rcases hr with rfl | rfl <;> rcases hc with rfl | rfl <;> rw [h] <;> simp
theorem blockN_no {L : Rowz} {X Y S : Nat} (h : ∀ r c, (r = Y / 16 ∨ r = (Y + S - 1) / 16) → (c = X / 16 ∨ c = (X + S - 1) / 16) → cellN L r c = false) : blockN L X Y S = false := by
  unfold blockN
  rw [h _ _ (.inl rfl) (.inl rfl), h _ _ (.inl rfl) (.inr rfl), h _ _ (.inr rfl) (.inl rfl), h _ _ (.inr rfl) (.inr rfl)]; rfl
theorem blockN_far {L : Rowz} {X Y S : Nat} (hS : 1 ≤ S) (h : 16 * wd L < X + S ∨ 16 * L.length < Y + S) : blockN L X Y S = true := by
  rcases h with h | h
  · exact blockN_hit (r := Y / 16) (c := (X + S - 1) / 16) (.inl rfl) (.inr rfl) (cellN_out (by omega))
  · exact blockN_hit (r := (Y + S - 1) / 16) (c := X / 16) (.inr rfl) (.inl rfl) (cellN_out (by omega))
end Go.Proofs.YtecimgennncjkaaDoor
