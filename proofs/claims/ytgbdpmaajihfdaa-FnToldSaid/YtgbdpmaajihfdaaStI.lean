/-
  'append' of one int inside a region that draws its order, with what it leaves alone: every block but the row's own. A store into a box beside the row.
-/
import Derived.Test.YtgbdpmaajihfdaaAppI
import Derived.Test.YtgbdpmaajihfdaaHeap
import Derived.Deep.RegionLaw
import Derived.OneCell
namespace Go.Proofs.Ytgbdpmaajihfdaa
open Go.RowKit
set_option linter.all false
theorem step_int {ops : Array Oper} {o : Oper} {a : Act} {W : World} {K : Act → World → Prop} {Q : Exit → Act → World → Prop} {E : Prop} (hgd : o.guard = none) (s x : Operand)
    (ho : o.op = .call { callee := .builtin .append, args := #[s, x], argTypes := #[27, 27] })
    (B : Nat) (v : Value) (xs : List Int) (hs : a.eval s = v) (hown : OwnR W B v xs) (ad : Nat) (n : Int) (hx : a.eval x = .slice (some ⟨ad, 0, none⟩) 1 1)
    (hc0 : W.cell? ⟨ad, 0, none⟩ = some (.int .i64 n))
    (hlen : xs.length + 1 ≤ 17592186044416) (hbase : B ≤ W.heap.size)
    (h : ∀ v' w', OwnR w' B v' (xs ++ [n]) → Below B W w' → W.grownBy w' v.ownBlock → K (a.put o.dst v') w') : if Region.wanted o (yielded ops a.tmps) = true then Oper.wp Try.prog o a W K Q else E := by
  obtain ⟨i0, hi, hz0, hz1, hz2⟩ := info_parts info_int
  have hcell : ∀ j u, [Value.int .i64 n][j]? = some u → W.cell? ((⟨ad, 0, none⟩ : Addr).add j) = some u := by
    intro j u hj
    match j, hj with
    | 0, hj => simp at hj; subst hj; exact hc0
  rw [if_pos (by simp [Region.wanted, hgd])]
  refine wp_append_own W s x 27 ho B 3 i0 (.int .i64 0) 1 8 Try.underlying27 hi hz0 hz1 hz2 rfl (by decide) v xs.length (xs.map (Value.int .i64)) hs hown.row ⟨ad, 0, none⟩ 1 1 [.int .i64 n] hx rfl hcell (int_one _) (by unfold maxLen; omega) (by omega) hbase ?_
  intro v' w' hown' hgrow _
  refine h v' w' ?_ ?_ hgrow
  · unfold OwnR; rw [List.length_append, List.map_append]; exact hown'
  · exact (Below.refl B W).grown hgrow hbase fun k hk => (hown.row.lt k hk).1
/-- A box beside the row stays as it was. -/
theorem OwnR.box {W w' : World} {B p : Nat} {v : Value} {xs : List Int} {o : Option Obj} (hown : OwnR W B v xs) (hg : W.grownBy w' v.ownBlock) (hp : p < W.heap.size) (hne : v.ownBlock ≠ some p) (h : W.heap[p]? = o) : w'.heap[p]? = o :=
  (hg.block p hp (fun e => hne e.symm)).trans h
/-- A block of another type is not the row's. -/
theorem OwnR.notBox {W : World} {B p : Nat} {v : Value} {xs : List Int} {cs : Array Value} {T : TypeId} {fz : Nat × Nat} (h : OwnR W B v xs) (hp : W.heap[p]? = some (.cells cs T fz)) (hT : T ≠ 3) : v.ownBlock ≠ some p := by
  rcases h.2 with ⟨rfl, -⟩ | ⟨g, cap, cur, rfl, -, hg, -⟩
  · intro e; cases e
  · intro e
    obtain rfl := Option.some.inj e
    rw [show W.heap[g]? = some (.cells cur 3 (0, 0)) from hg] at hp
    have := Obj.cells.inj (Option.some.inj hp)
    exact hT this.2.1.symm
/-- A store into a box beside the row leaves the row alone. -/
theorem OwnR.aside {W : World} {B : Nat} {v : Value} {xs : List Int} (h : OwnR W B v xs) {p : Addr} (hne : v.ownBlock ≠ some p.block) (u : Value) : OwnR (W.setCell p u) B v xs :=
  ownsRow_setCell_other h hne u
end Go.Proofs.Ytgbdpmaajihfdaa
