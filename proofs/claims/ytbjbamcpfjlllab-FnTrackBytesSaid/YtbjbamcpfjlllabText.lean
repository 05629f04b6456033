/-
  Contracts of PackText and UnpackText, and the laws on them. Strings of at most 2^46 bytes.
-/
import Derived.Test.YtbjbamcpfjlllabVarD
namespace Go.Proofs.Ytbjbamcpfjlllab
open Go.RowKit
set_option linter.all false

theorem decR_facts : ∀ (f i n : Nat) (l : List UInt8) (a b : Nat), f + i ≤ 6 → decR f i n l = some (a, b) → i + 1 ≤ b ∧ b ≤ 6 ∧ b ≤ i + l.length ∧ a ≤ 1099511627775
  | 0, _, _, _, _, _, _, h => by simp [decR] at h
  | f + 1, i, n, [], a, b, _, h => by simp [decR] at h
  | f + 1, i, n, c :: l, a, b, hf, h => by
    rw [decR] at h
    split at h
    · have := decR_facts f (i + 1) _ l a b (by omega) h
      simp only [List.length_cons]; omega
    · split at h
      · cases h
      · rename_i h2
        simp only [Option.some.injEq, Prod.mk.injEq] at h
        simp only [List.length_cons]; omega
theorem decAt_facts {l : List UInt8} {p : Int} {n m : Nat} (h : decAt l p = some (n, m)) : 0 ≤ p ∧ 1 ≤ m ∧ m ≤ 6 ∧ p.toNat + m ≤ l.length ∧ n ≤ 1099511627775 := by
  unfold decAt at h
  split at h
  · cases h
  · have := decR_facts 6 0 0 _ n m (by omega) h
    have hl := List.length_drop (i := p.toNat) (l := l)
    omega
theorem retDec_none : retDec none = .tuple #[.int .i64 0, .int .i64 0, .bool false] := rfl
/-- What PackText returns. -/
def packT (l : List UInt8) : List UInt8 := encI (l.length : Int) ++ l
/-- What UnpackText returns. -/
def unpT (l : List UInt8) (p : Int) : Option (List UInt8 × Nat) :=
  match decAt l p with
  | none => none
  | some (n, m) => if l.length < p.toNat + m + n then none else some ((l.drop (p.toNat + m)).take n, m + n)
def retUnpT (o : Option (List UInt8 × Nat)) : Value := .tuple #[.string ⟨((o.getD ([], 0)).1).toArray⟩, .int .i64 ((o.getD ([], 0)).2 : Nat), .bool o.isSome]
theorem retUnpT_some (a : List UInt8) (b : Nat) : retUnpT (some (a, b)) = .tuple #[.string ⟨a.toArray⟩, .int .i64 (b : Int), .bool true] := rfl
theorem unpT_no {l : List UInt8} {p : Int} (h : decAt l p = none) : unpT l p = none := by unfold unpT; rw [h]
theorem unpT_far {l : List UInt8} {p : Int} {n m : Nat} (h : decAt l p = some (n, m)) (h2 : l.length < p.toNat + m + n) : unpT l p = none := by unfold unpT; rw [h]; simp only; rw [if_pos h2]
theorem unpT_yes {l : List UInt8} {p : Int} {n m : Nat} (h : decAt l p = some (n, m)) (h2 : ¬ l.length < p.toNat + m + n) : unpT l p = some ((l.drop (p.toNat + m)).take n, m + n) := by unfold unpT; rw [h]; simp only; rw [if_neg h2]
end Go.Proofs.Ytbjbamcpfjlllab
