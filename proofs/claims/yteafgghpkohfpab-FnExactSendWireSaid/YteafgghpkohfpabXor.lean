/-
  Contracts of XorText, and the law on it. Strings of at most 2^46 bytes.
-/
import Derived.Test.YteafgghpkohfpabOwn
import Derived.WalkLawsBesides
namespace Go.Proofs.Yteafgghpkohfpab
open Go.RowKit
set_option linter.all false

def xorL : List UInt8 → List UInt8 → List UInt8
  | [], b => b
  | _ :: _, [] => []
  | x :: a, y :: b => (y ^^^ x) :: xorL a b
theorem xorL_len : ∀ a b : List UInt8, (xorL a b).length = b.length
  | [], b => rfl
  | _ :: _, [] => rfl
  | x :: a, y :: b => by simp [xorL, xorL_len a b]
theorem xorL_at : ∀ (a b : List UInt8) (k : Nat) (h : k < b.length), a.length ≤ k → (xorL a b)[k]'(by rw [xorL_len]; exact h) = b[k]
  | [], b, k, h, _ => rfl
  | x :: a, y :: b, k + 1, h, hk => by
    simp only [xorL, List.getElem_cons_succ]
    exact xorL_at a b k (by simpa using h) (by simpa using hk)
  | x :: a, y :: b, 0, h, hk => by simp at hk
theorem xorL_step : ∀ (a b : List UInt8) (k : Nat) (ha : k < a.length) (hb : k < b.length), xorL (a.take (k + 1)) b = (xorL (a.take k) b).set k (b[k] ^^^ a[k])
  | [], _, _, ha, _ => by simp at ha
  | _ :: _, [], _, _, hb => by simp at hb
  | x :: a, y :: b, 0, _, _ => by simp [xorL]
  | x :: a, y :: b, k + 1, ha, hb => by
    simp only [List.take_succ_cons, xorL, List.set_cons_succ, List.getElem_cons_succ]
    rw [xorL_step a b k (by simpa using ha) (by simpa using hb)]
theorem xorL_end : ∀ (a b : List UInt8) (k : Nat), (a.length ≤ k ∨ b.length ≤ k) → xorL (a.take k) b = xorL a b
  | [], _, _, _ => by simp
  | _ :: _, [], k, _ => by cases k <;> simp [xorL]
  | x :: a, y :: b, 0, h => by simp at h
  | x :: a, y :: b, k + 1, h => by
    simp only [List.take_succ_cons, xorL]
    rw [xorL_end a b k (by simpa using h)]
/-- Block b holds the bytes l, and they may be written. -/
def RowB (w : World) (b : Nat) (l : List UInt8) : Prop := (∀ j (h : j < l.length), w.cell? ⟨b, j, none⟩ = some (byteV l[j])) ∧ ∀ j, j < l.length → w.frozen? ⟨b, j, none⟩ = false
theorem RowB.made (w : World) (l : List UInt8) (c : Nat) (n : Nat) (hn : l.length ≤ n) : RowB (w.alloc (.cells (bytesRow ⟨l.toArray⟩ c) 5 (n, n + 1))) w.heap.size l := by
  refine ⟨fun j h => ?_, fun j h => ?_⟩
  · rw [World.cell?_alloc_mark]; exact bytesRow_at _ c j (by simpa using h)
  · rw [World.frozen?_alloc_mark]; simp; omega
theorem RowB.set {w : World} {b : Nat} {l : List UInt8} (h : RowB w b l) (k : Nat) (hk : k < l.length) (c : UInt8) : RowB (w.setCell ⟨b, k, none⟩ (.int .u8 (c.toNat : Int))) b (l.set k c) := by
  refine ⟨fun j hj => ?_, fun j hj => ?_⟩
  · rw [List.length_set] at hj
    by_cases e : k = j
    · subst e
      rw [List.getElem_set_self]
      exact World.cell?_setCell_same _ _ _ (h.1 k hk)
    · rw [List.getElem_set_ne e]
      rw [World.cell?_setCell_other _ _ _ _ (by simpa using e)]
      exact h.1 j hj
  · rw [List.length_set] at hj
    rw [World.frozen?_setCell]; exact h.2 j hj
end Go.Proofs.Yteafgghpkohfpab
