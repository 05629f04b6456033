/-
  Texts of this proof: MarkP, Get.
-/
import Derived.Test.YtehjafaobaoleaaDoorM44
import Derived.Test.YtehjafaobaoleaaDoorM03
import Derived.Deep.RegionHeld3
import Derived.Test.YtehjafaobaoleaaDoorM04
namespace Go.Proofs.YtehjafaobaoleaaDoor
open Go.RowKit
set_option linter.all false
theorem InnP.rd {w : World} {b : Nat} {p : Int × Int} (h : w.heap[b]? = some (.cells (cell2 p) 3 (0, 0))) : RdI w (innV b) [p.1, p.2] := by
 refine ⟨some ⟨b, 0, none⟩, 2, rfl, .inr ⟨b, 0, rfl, fun j hj => ?_⟩⟩
 rw [rowCells h]
 match j, hj with
 | 0, _ => rfl
 | 1, _ => rfl
theorem OwnP.cells {w : World} {B : Nat} {v : Value} {ps : Pairs} (h : OwnP w B v ps) (hx : ps ≠ []) : ∃ g cap bs, v = .slice (some ⟨g, 0, none⟩) ps.length cap ∧ B ≤ g ∧ g < w.heap.size ∧ InnP w B bs ps ∧ (∀ b ∈ bs, b ≠ g) ∧ (∀ j (hj : j < bs.length), w.cell? ⟨g, j, none⟩ = some (innV bs[j])) ∧ w.ownsRow B 27 1 v ps.length (bs.map innV) := by
 obtain ⟨bs, hi, ho⟩ := h
 have hap := hi.apart ho
 have hpos : 0 < ps.length := List.length_pos_iff.2 hx
 have ho' := ho
 rcases ho.2 with ⟨e, h0⟩ | ⟨g, cap, cur, rfl, hB, hg, hn, hc, _⟩
 ·omega
 ·refine ⟨g, cap, bs, rfl, hB, (Array.getElem?_eq_some_iff.1 hg).1, hi, fun b hb e => hap b hb (by rw [e]; rfl), fun j hj => ?_, ho'⟩
  have hcell := World.ownsRow.cells ho' (g := g) rfl j (innV bs[j]) (by simp [hj])
  rw [show (⟨g, 0, none⟩ : Addr).add j = ⟨g, j, none⟩ by unfold Addr.add; split <;> simp_all] at hcell
  exact hcell
theorem OwnP.shape {w : World} {B : Nat} {v : Value} {ps : Pairs} (h : OwnP w B v ps) : ∃ a c, v = .slice a ps.length c := by
 obtain ⟨bs, hi, ho⟩ := h
 rcases ho.2 with ⟨rfl, h0⟩ | ⟨g, cap, cur, rfl, _⟩
 ·exact ⟨none, 0, by rw [h0]⟩
 ·exact ⟨_, _, rfl⟩
theorem InnP.set {w w' : World} {B : Nat} {bs : List Nat} {L : Pairs} (h : InnP w B bs L) {k : Nat} (hk : k < bs.length) (m : Int × Int) (h1 : w'.heap[bs[k]]? = some (.cells (cell2 m) 3 (0, 0))) (h2 : ∀ j, j ≠ bs[k] → w'.heap[j]? = w.heap[j]?) (hs : w.heap.size ≤ w'.heap.size) : InnP w' B bs (L.set k m) := by
 refine ⟨by rw [List.length_set]; exact h.1, h.2.1, fun b hb => ⟨(h.2.2.1 b hb).1, by have := (h.2.2.1 b hb).2; omega⟩, fun i hi hi' => ?_⟩
 by_cases e : k = i
 ·subst e; rw [List.getElem_set_self]; exact h1
 ·rw [List.getElem_set_ne e]
  have hpw := List.pairwise_iff_getElem.1 h.2.1
  rw [h2 _ ?_]
  ·exact h.2.2.2 i hi (by rw [List.length_set] at hi'; exact hi')
  ·rcases Nat.lt_or_gt_of_ne e with hlt | hlt
   ·have := hpw k i hk hi hlt; omega
   ·have := hpw i k hi hk hlt; omega
theorem ownsRow_far {w w' : World} {B : Nat} {e : TypeId} {v : Value} {n : Nat} {xs : List Value} (h : w.ownsRow B e 1 v n xs) (hk : ∀ g, v.ownBlock = some g → w'.heap[g]? = w.heap[g]?) : w'.ownsRow B e 1 v n xs := by
 obtain ⟨h1, h2⟩ := h
 refine ⟨h1, ?_⟩
 rcases h2 with h2 | ⟨g, cap, cur, rfl, hB, hg, r⟩
 ·exact .inl h2
 ·exact .inr ⟨g, cap, cur, rfl, hB, by rw [hk g rfl]; exact hg, r⟩
end Go.Proofs.YtehjafaobaoleaaDoor
namespace Go.Proofs.YtehjafaobaoleaaDoor
open Go.RowKit
set_option linter.all false
theorem RdR.at {w : World} {v : Value} {X : Rowi} (h : RdR w v X) {k : Nat} (hk : k < X.length) : ∃ b off cap u, v = .slice (some ⟨b, off, none⟩) X.length cap ∧ w.cell? ⟨b, off + k, none⟩ = some u ∧ RdI w u X[k] := by
 obtain ⟨a, cap, rfl, h⟩ := h
 obtain ⟨b, off, rfl, hc⟩ := h.resolve_left (by intro e; rw [e] at hk; simp at hk)
 obtain ⟨u, c, r⟩ := hc k hk
 exact ⟨b, off, cap, u, rfl, c, r⟩
theorem get_any {w : World} {v : Value} {xs : List Int} (h : RdI w v xs) (hs : xs.length ≤ 9223372036854775807) (k : Nat) (hk : k < xs.length) :
  Calls Tryd.prog 14 #[v, .int .i64 (k : Int)] w fun e w' => e = .returned (.int .i64 xs[k]) ∧ w = w' := by
 obtain ⟨a, cap, rfl, h⟩ := h
 obtain ⟨b, off, rfl, hc⟩ := h.resolve_left (by intro e; rw [e] at hk; simp at hk)
 have c1 := hc k hk
 have hlc : (xs.length : Int) ≤ 9223372036854775807 := by omega
 have hkk : (k : Int) < (xs.length : Int) := by omega
 have z0 : decide ((k : Int) < 0) = false := by simp
 have z1 : decide ((xs.length : Int) ≤ (k : Int)) = false := by simp; omega
 generalize xs[k] = x at *
 clear hc h
 go_enter Tryd.func14, Tryd.ntmps14
 go_wp2_with (fail)
 go_ret
 exact ⟨rfl, rfl⟩
end Go.Proofs.YtehjafaobaoleaaDoor
