/-
  append of one int to a row of the call's own, with what it leaves alone and where the new row lies: two rows that grow beside each other. Condition: at most 2^40.
-/
import Derived.Test.YtikaiimafliceaaAppI
import Derived.Maps.AppendAt
namespace Go.Proofs.Ytikaiimafliceaa
open Go.RowKit
set_option linter.all false
theorem app_intG {ops : Array Oper} {rest : List Oper} {o : Oper} {a : Act} {Q : Exit → Act → World → Prop} {W : World} (hgd : o.guard = none) (s x : Operand)
    (ho : o.op = .call { callee := .builtin .append, args := #[s, x], argTypes := #[25, 25] })
    (B : Nat) (v : Value) (xs : List Int) (hs : a.eval s = v) (hown : OwnR W B v xs) (n : Int) (hx : a.eval x = .slice (some ⟨W.heap.size, 0, none⟩) 1 1)
    (u : Value) (ys : List Int) (hu : OwnR W B u ys) (hne : u.ownBlock ≠ v.ownBlock) (hun : u.ownBlock ≠ none)
    (hlen : xs.length + 1 ≤ 17592186044416) (hbase : B ≤ W.heap.size)
    (h : ∀ v' w', OwnR w' B v' (xs ++ [n]) → OwnR w' B u ys → u.ownBlock ≠ v'.ownBlock → (v.ownBlock ≠ none → v'.ownBlock ≠ none) → Below B W w' → wpList Try.prog ops Q rest (a.put o.dst v') w') : wpList Try.prog ops Q (o :: rest) a (W.alloc (.cells #[.int .i64 n] 3)) := by
  obtain ⟨i0, hi, hz0, hz1, hz2⟩ := info_parts info_int
  have hown2 : (W.alloc (.cells #[.int .i64 n] 3)).ownsRow B 3 1 v xs.length (xs.map (Value.int .i64)) := World.ownsRow.alloc hown _
  have hu2 : (W.alloc (.cells #[.int .i64 n] 3)).ownsRow B 3 1 u ys.length (ys.map (Value.int .i64)) := World.ownsRow.alloc hu _
  have hbase2 : B ≤ (W.alloc (.cells #[.int .i64 n] 3)).heap.size := by simp; omega
  refine wpList_append_own_at _ hgd s x 25 ho B 3 i0 (.int .i64 0) 1 8 Try.underlying25 hi hz0 hz1 hz2 rfl (by decide) v xs.length (xs.map (Value.int .i64)) hs hown2 ⟨W.heap.size, 0, none⟩ 1 1 [.int .i64 n] hx rfl (one_cell_int _ _ _) (int_one _) (by unfold maxLen; omega) (by omega) hbase2 ?_
  intro v' w' hown' hgrow _ hat
  have hat2 : v'.ownBlock = v.ownBlock ∨ v'.ownBlock = some (W.heap.size + 1) := by simpa using hat
  refine h v' w' ?_ (World.ownsRow.kept hu2 hgrow (.inr hne)) ?_ ?_ (((Below.refl B W).alloc hbase _).trans ((Below.refl B _).grown hgrow hbase2 fun k hk => (World.ownsRow.lt hown2 k hk).1))
  · unfold OwnR; rw [List.length_append, List.map_append]; exact hown'
  · rcases hat2 with e | e
    · rw [e]; exact hne
    · rw [e]; intro e2
      have := (World.ownsRow.lt hu2 _ e2).2
      simp at this
  · intro hv e
    rcases hat2 with e2 | e2
    · rw [e2] at e; exact hv e
    · rw [e2] at e; cases e
end Go.Proofs.Ytikaiimafliceaa
