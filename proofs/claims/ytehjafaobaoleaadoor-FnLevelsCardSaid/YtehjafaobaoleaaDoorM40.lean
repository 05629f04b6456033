/-
  Texts of this proof: StepS.
-/
import Derived.Test.YtehjafaobaoleaaDoorM15
import Derived.Test.YtehjafaobaoleaaDoorM04
import Derived.Deep.RegionLaw
namespace Go.Proofs.YtehjafaobaoleaaDoor
open Go.RowKit
set_option linter.all false
theorem step_str {ops : Array Oper} {o : Oper} {a : Act} {W : World} {K : Act → World → Prop} {Q : Exit → Act → World → Prop} {E : Prop} (hgd : o.guard = none) (s x : Operand)
  (ho : o.op = .call { callee := .builtin .append, args := #[s, x], argTypes := #[24, 24] })
  (B : Nat) (v : Value) (l : List (List UInt8)) (hs : a.eval s = v) (hown : OwnS W B v l) (ad : Nat) (b : List UInt8) (hx : a.eval x = .slice (some ⟨ad, 0, none⟩) 1 1)
  (hc0 : W.cell? ⟨ad, 0, none⟩ = some (.string ⟨b.toArray⟩))
  (hlen : l.length + 1 ≤ 8796093022208) (hbase : B ≤ W.heap.size)
  (h : ∀ v' w', OwnS w' B v' (l ++ [b]) → Below B W w' → K (a.put o.dst v') w') : if Region.wanted o (yielded ops a.tmps) = true then Oper.wp Tryd.prog o a W K Q else E := by
 obtain ⟨i0, hi, hz0, hz1, hz2⟩ := info_parts info_str
 have hcell : ∀ j u, [strV b][j]? = some u → W.cell? ((⟨ad, 0, none⟩ : Addr).add j) = some u := by
  intro j u hj
  match j, hj with
  | 0, hj => simp at hj; subst hj; exact hc0
 rw [if_pos (by simp [Region.wanted, hgd])]
 refine wp_append_own W s x 24 ho B 9 i0 (.string ⟨#[]⟩) 1 16 Tryd.underlying24 hi hz0 hz1 hz2 rfl (by decide) v l.length (strsV l) hs hown.row ⟨ad, 0, none⟩ 1 1 [strV b] hx rfl hcell (str_one b) (by unfold maxLen; omega) (by omega) hbase ?_
 intro v' w' hown' hgrow _
 refine h v' w' ?_ ?_
 ·unfold OwnS; rw [strsV_snoc, List.length_append]; exact hown'
 ·exact (Below.refl B W).grown hgrow hbase fun k hk => (hown.row.lt k hk).1
theorem OwnS.set {w : World} {B : Nat} {v : Value} {l : List (List UInt8)} (h : OwnS w B v l) {p : Addr} (hp : p.block < B) (u : Value) : OwnS (w.setCell p u) B v l := by
 obtain ⟨h1, h2⟩ := h
 refine ⟨h1, ?_⟩
 rcases h2 with h2 | ⟨g, cap, cur, e, hB, hg, r⟩
 ·exact .inl h2
 ·exact .inr ⟨g, cap, cur, e, hB, farHeap hg (by omega) u, r⟩
theorem heapUp {B : Nat} {W W' : World} {k : Nat} {o : Obj} (hb : Below B W W') (hk : k < B) (h : W.heap[k]? = some o) : W'.heap[k]? = some o := by rw [hb.block k hk]; exact h
end Go.Proofs.YtehjafaobaoleaaDoor
