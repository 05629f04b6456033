/-
  slices.Clone of a row of ints; slices.Grow of nil; slices.Concat of two rows of ints. Conditions: short rows.
-/
import Derived.Test.YteafgghpkohfpaaTrk
import Derived.Test.YteafgghpkohfpaaAppI
import Derived.Lib.SliceRun
import Derived.Lib.AppendZeros
import Derived.Test.YteafgghpkohfpaaRep0
import Derived.Test.YteafgghpkohfpaaRow
namespace Go.Proofs.Yteafgghpkohfpaa
open Go.RowKit
set_option linter.all false
theorem OwnR.capd {w : World} {B : Nat} {v : Value} {xs : List Int} (h : OwnR w B v xs) : CapI v := by
  rcases h.2 with ⟨rfl, h0⟩ | ⟨g, cap, cur, rfl, hB, hg, hn, hc, -⟩
  · exact ⟨_, _, _, rfl, Nat.le_refl _⟩
  · exact ⟨_, _, _, rfl, hn⟩
set_option maxHeartbeats 1000000 in
theorem cloneI_any {w : World} {v : Value} {xs : List Int} (h : RdI w v xs) (hn : xs.length ≤ 1099511627776) :
    Calls Try.prog 75 #[v] w (RetOwnC w xs) := by
  obtain ⟨a, cap, rfl, h0⟩ := id h
  have q : ∀ (w : World) (a : Option Addr) (n c n' c' : Nat), (binOp .eql 38 (.slice a n c) (.slice none n' c')).run Try.prog w = .ok (.bool a.isNone) w := fun w a n c n' c' => Lib.run_eql_slice_nil w _ _ a n c n' c' Try.underlying38
  cases a with
  | none =>
    have hx : xs = [] := by
      rcases h0 with h0 | ⟨b, off, h0, -⟩
      · exact h0
      · cases h0
    subst hx
    go_enter Try.func75, Try.ntmps75
    go_wp2_with (fail)
    go_ret
    exact ⟨_, rfl, ⟨none, 0, rfl, .inl rfl⟩, ⟨none, 0, 0, rfl, Nat.le_refl _⟩, Below.refl _ _⟩
  | some ad =>
    have hk := h.keep (below1 w (.cells #[] 3))
    have ho := OwnR.made w #[] w.heap.size (Nat.le_refl _) (by unfold maxLen; simp)
    clear h h0
    go_enter Try.func75, Try.ntmps75
    go_wp2_with (at_builtin; refine app_ints rfl _ _ rfl w.heap.size _ [] rfl ho _ xs rfl hk (by simp; omega) (by simp) ?_; intro v' w1 hown' hb1)
    go_ret
    exact ⟨_, rfl, by simpa using hown'.own, hown'.capd, (below1 w _).trans (hb1.mono (by simp))⟩
theorem totalR_take (X : Rowi) (k : Nat) : totalR (X.take k) ≤ totalR X := by
  have h : totalR X = totalR (X.take k) + totalR (X.drop k) := by
    unfold totalR
    rw [← List.sum_append, ← List.map_append, List.take_append_drop]
  omega
theorem flat_len (X : Rowi) : X.flatten.length = totalR X := by
  unfold totalR; rw [List.length_flatten]
theorem flat_snoc (X : Rowi) (k : Nat) (hk : k < X.length) : (X.take (k + 1)).flatten = (X.take k).flatten ++ X[k] := by
  rw [List.take_succ_eq_append_getElem hk, List.flatten_append]; simp
end Go.Proofs.Yteafgghpkohfpaa
