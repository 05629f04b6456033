/-
  Texts of this proof: Spot.
-/
import Derived.Test.YtehjafaobaoleaaDoorM19
namespace Go.Proofs.YtehjafaobaoleaaDoor
open Go.RowKit
set_option linter.all false
abbrev Pairs := List (Int × Int)
def spotP (r c : Nat) : Int × Int := (16 * (c : Int) + 4, 16 * (r : Int) + 4)
def spR (r : Nat) : List UInt8 → Nat → Pairs
 | [], _ => []
 | ch :: l, c => if ch.toNat = 111 then spotP r c :: spR r l (c + 1) else spR r l (c + 1)
def spL : Rowz → Nat → Pairs
 | [], _ => []
 | row :: L, r => spR r row 0 ++ spL L (r + 1)
def spotsP (L : Rowz) : Pairs := if levelB L then spL L 0 else []
def SpAt (L : Rowz) (r c : Nat) (acc : Pairs) : Prop := acc ++ (spR r ((L.getD r []).drop c) c ++ spL (L.drop (r + 1)) (r + 1)) = spL L 0 ∧ acc.length ≤ 20 * r + c
def SpRow (L : Rowz) (r : Nat) (acc : Pairs) : Prop := acc ++ spL (L.drop r) r = spL L 0 ∧ acc.length ≤ 20 * r
theorem SpRow.zero (L : Rowz) : SpRow L 0 [] := ⟨rfl, Nat.le_refl _⟩
theorem SpRow.at_ {L : Rowz} {r : Nat} {acc : Pairs} (h : SpRow L r acc) (hr : r < L.length) : SpAt L r 0 acc := by
 obtain ⟨h1, h2⟩ := h
 refine ⟨?_, h2⟩
 rw [← h1, List.drop_eq_getElem_cons hr, getD_row hr, List.drop_zero, spL]
theorem SpAt.done {L : Rowz} {r : Nat} {acc : Pairs} (hr : r < L.length) (hw : L[r].length ≤ 20) (h : SpAt L r L[r].length acc) : SpRow L (r + 1) acc := by
 obtain ⟨h1, h2⟩ := h
 refine ⟨?_, by omega⟩
 rw [← h1, getD_row hr, List.drop_of_length_le (Nat.le_refl _), spR, List.nil_append]
theorem SpAt.hit {L : Rowz} {r c : Nat} {acc : Pairs} (hr : r < L.length) (hc : c < L[r].length) (h : SpAt L r c acc) (h0 : L[r][c].toNat = 111) : SpAt L r (c + 1) (acc ++ [spotP r c]) := by
 obtain ⟨h1, h2⟩ := h
 refine ⟨?_, by simp; omega⟩
 rw [← h1, getD_row hr, List.drop_eq_getElem_cons hc, spR, if_pos h0]; simp
theorem SpAt.miss {L : Rowz} {r c : Nat} {acc : Pairs} (hr : r < L.length) (hc : c < L[r].length) (h : SpAt L r c acc) (h0 : L[r][c].toNat ≠ 111) : SpAt L r (c + 1) acc := by
 obtain ⟨h1, h2⟩ := h
 refine ⟨?_, by omega⟩
 rw [← h1, getD_row hr, List.drop_eq_getElem_cons hc, spR, if_neg h0]
theorem SpRow.done {L : Rowz} {acc : Pairs} (h : SpRow L L.length acc) : acc = spL L 0 := by
 obtain ⟨h1, -⟩ := h
 rw [List.drop_of_length_le (Nat.le_refl _), spL, List.append_nil] at h1; exact h1
theorem info_ints : (Tryd.prog.info? 27).map (fun i => (i.zero, i.size, i.bytes)) = some (some (.slice none 0 0), 1, 24) := by kernel_rfl
def innV (b : Nat) : Value := .slice (some ⟨b, 0, none⟩) 2 2
def cell2 (p : Int × Int) : Array Value := #[.int .i64 p.1, .int .i64 p.2]
def InnP (w : World) (B : Nat) (bs : List Nat) (ps : Pairs) : Prop := bs.length = ps.length ∧ bs.Pairwise (· < ·) ∧ (∀ b ∈ bs, B ≤ b ∧ b < w.heap.size) ∧ ∀ i (h : i < bs.length) (h' : i < ps.length), w.heap[bs[i]]? = some (.cells (cell2 ps[i]) 3 (0, 0))
def OwnP (w : World) (B : Nat) (v : Value) (ps : Pairs) : Prop := ∃ bs, InnP w B bs ps ∧ w.ownsRow B 27 1 v ps.length (bs.map innV)
theorem OwnP.made (w : World) (B : Nat) (hB : B ≤ w.heap.size) : OwnP (w.alloc (.cells #[] 27)) B (.slice (some ⟨w.heap.size, 0, none⟩) 0 0) [] :=
 ⟨[], ⟨rfl, List.Pairwise.nil, by simp, by simp⟩, World.ownsRow_made w #[] 0 hB (by unfold maxLen; decide) (by simp)⟩
theorem OwnP.nil (w : World) (B : Nat) : OwnP w B (.slice none 0 0) [] := ⟨[], ⟨rfl, List.Pairwise.nil, by simp, by simp⟩, World.ownsRow_nil w B _ 1⟩
theorem InnP.keep {w w' : World} {B : Nat} {bs : List Nat} {ps : Pairs} (h : InnP w B bs ps) (hs : w.heap.size ≤ w'.heap.size) (hk : ∀ b ∈ bs, w'.heap[b]? = w.heap[b]?) : InnP w' B bs ps :=
 ⟨h.1, h.2.1, fun b hb => ⟨(h.2.2.1 b hb).1, by have := (h.2.2.1 b hb).2; omega⟩, fun i h1 h2 => (hk _ (List.getElem_mem h1)).trans (h.2.2.2 i h1 h2)⟩
theorem OwnP.of_below {w w' : World} {B C : Nat} {v : Value} {ps : Pairs} (h : OwnP w B v ps) (hb : Below C w w') (hC : w.heap.size ≤ C) : OwnP w' B v ps := by
 obtain ⟨bs, hi, ho⟩ := h
 exact ⟨bs, hi.keep hb.size fun b hm => hb.block b (by have := (hi.2.2.1 b hm).2; omega), World.ownsRow.kept ho (row := none) ⟨hb.os, hb.tape, hb.output, hb.size, fun k hk _ => hb.block k (by omega)⟩ (by cases v.ownBlock <;> simp)⟩
theorem InnP.apart {w : World} {B C : Nat} {bs : List Nat} {ps : Pairs} {v : Value} {n : Nat} {xs : List Value} (h : InnP w B bs ps) (ho : w.ownsRow C 27 1 v n xs) : ∀ b ∈ bs, some b ≠ v.ownBlock := by
 intro b hb e
 obtain ⟨i, hi, rfl⟩ := List.getElem_of_mem hb
 have h1 := h.2.2.2 i hi (by rw [← h.1]; exact hi)
 rcases ho.2 with ⟨rfl, _⟩ | ⟨g, cap, cur, rfl, _, hg, _⟩
 ·simp [Value.ownBlock] at e
 ·simp only [Value.ownBlock, Option.some.injEq] at e
  rw [← e, h1] at hg
  simp at hg
theorem app_pair {ops : Array Oper} {rest : List Oper} {o : Oper} {a : Act} {Q : Exit → Act → World → Prop} {W : World} (hgd : o.guard = none) (s x : Operand)
  (ho : o.op = .call { callee := .builtin .append, args := #[s, x], argTypes := #[31, 31] })
  (B : Nat) (v : Value) (ps : Pairs) (hs : a.eval s = v) (hown : OwnP W B v ps) (p : Int × Int) (hx : a.eval x = .slice (some ⟨W.heap.size + 1, 0, none⟩) 1 1)
  (hlen : ps.length + 1 ≤ 1000000000) (hbase : B ≤ W.heap.size)
  (h : ∀ v' w', OwnP w' B v' (ps ++ [p]) → Below B W w' → wpList Tryd.prog ops Q rest (a.put o.dst v') w') : wpList Tryd.prog ops Q (o :: rest) a ((W.alloc (.cells (cell2 p) 3)).alloc (.cells #[innV W.heap.size] 27)) := by
 obtain ⟨i0, hi, hz0, hz1, hz2⟩ := info_parts info_ints
 obtain ⟨bs, hin, how⟩ := hown
 have hown2 := (how.alloc (.cells (cell2 p) 3)).alloc (.cells #[innV W.heap.size] 27)
 have hin2 : InnP ((W.alloc (.cells (cell2 p) 3)).alloc (.cells #[innV W.heap.size] 27)) B bs ps := hin.keep (by simp; omega) fun b hm => (below2 W _ _).block b (hin.2.2.1 b hm).2
 have hnew : ((W.alloc (.cells (cell2 p) 3)).alloc (.cells #[innV W.heap.size] 27)).heap[W.heap.size]? = some (.cells (cell2 p) 3 (0, 0)) := keepHeap (below1 _ _) (heap_alloc_new W _)
 refine wpList_append_own _ hgd s x 31 ho B 27 i0 (.slice none 0 0) 1 24 Tryd.underlying31 hi hz0 hz1 hz2 rfl (by decide) v ps.length (bs.map innV) hs hown2 ⟨W.heap.size + 1, 0, none⟩ 1 1 [innV W.heap.size] hx rfl (fun j u hj => ?_) (by intro u hu; simp at hu; subst hu; rfl) (by unfold maxLen; omega) (by omega) (by simp; omega) ?_
 ·match j, hj with
  | 0, hj =>
   simp at hj; subst hj
   exact rowCells (heap_at (W.alloc (.cells (cell2 p) 3)) (.cells #[innV W.heap.size] 27) (k := W.heap.size + 1) (by simp)) 0
 intro v' w' hown' hgrow _
 have hap := hin2.apart hown2
 refine h v' w' ⟨bs ++ [W.heap.size], ⟨by simp [hin.1], ?_, ?_, ?_⟩, ?_⟩ ?_
 ·rw [List.pairwise_append]
  exact ⟨hin.2.1, by simp, fun a ha b hb => by simp at hb; subst hb; exact (hin.2.2.1 a ha).2⟩
 ·intro b hb
  have hz := hgrow.size
  rcases List.mem_append.1 hb with hb | hb
  ·have := hin.2.2.1 b hb; simp at hz; omega
  ·simp at hb; subst hb; simp at hz; omega
 ·intro i h1 h2
  by_cases hib : i < bs.length
  ·rw [List.getElem_append_left hib, List.getElem_append_left (by rw [← hin.1]; exact hib), hgrow.block _ (by have := (hin.2.2.1 _ (List.getElem_mem hib)).2; simp; omega) (hap _ (List.getElem_mem hib))]
   exact hin2.2.2.2 i hib (by rw [← hin.1]; exact hib)
  ·have e : i = bs.length := by simp at h1; omega
   subst e
   rw [List.getElem_append_right (Nat.le_refl _)]
   have e2 : (ps ++ [p])[bs.length] = p := by simp [hin.1]
   rw [e2]
   simp only [Nat.sub_self, List.getElem_cons_zero]
   rw [hgrow.block _ (by simp; omega) ?_]
   ·exact hnew
   ·intro e
    rcases hown2.2 with ⟨rfl, _⟩ | ⟨g, cap, cur, rfl, _, hg, _⟩
    ·simp [Value.ownBlock] at e
    ·simp only [Value.ownBlock, Option.some.injEq] at e
     rw [← e, hnew] at hg; simp at hg
 ·rw [List.map_append, List.length_append]; exact hown'
 ·exact ((Below.refl B W).alloc hbase _).alloc (by simp; omega) _ |>.grown hgrow (by simp; omega) fun k hk => (hown2.lt k hk).1
end Go.Proofs.YtehjafaobaoleaaDoor
