/-
  append of one packet to a row of the call's own: what else there is stays, and where the new row lies. Condition: at most 2^22.
-/
import Derived.Test.YtbjbamcpfjlllabPvs
import Derived.Maps.AppendAt
namespace Go.Proofs.Ytbjbamcpfjlllab
open Go.RowKit
set_option linter.all false
/-- The cells of a packet as they lie are those of the packet p, and its two slices read as p's lists. -/
def LikePk (w : World) (q : Pv) (p : Pk) : Prop := pvL q = (pkC p (.slice q.ins q.insN q.insC) (.slice q.acks q.acksN q.acksC)).toList ∧ RdP w p (.slice q.ins q.insN q.insC) (.slice q.acks q.acksN q.acksC)
theorem LikePk.keep {w w' : World} {q : Pv} {p : Pk} (h : LikePk w q p) (hb : Below w.heap.size w w') : LikePk w' q p := ⟨h.1, h.2.keep hb⟩
theorem app_PvG {ops : Array Oper} {rest : List Oper} {o : Oper} {a : Act} {Q : Exit → Act → World → Prop} {W : World} (hgd : o.guard = none) (s x : Operand)
    (ho : o.op = .call { callee := .builtin .append, args := #[s, x], argTypes := #[27, 27] })
    (B : Nat) (v : Value) (X : List Pv) (hs : a.eval s = v) (hown : GrowPv W B v X) (q : Pv) (hx : a.eval x = .slice (some ⟨W.heap.size, 0, none⟩) 1 1)
    (hlen : X.length + 1 ≤ 1048576) (hbase : B ≤ W.heap.size)
    (h : ∀ v' w', GrowPv w' B v' (X ++ [q]) → Below B W w' → (W.alloc (.cells #[.int .i64 q.fr, .int .i64 q.tick, .int .i64 q.first, .slice q.ins q.insN q.insC, .slice q.acks q.acksN q.acksC, .int .i64 q.sumTick, .int .i64 q.sum, .int .i64 q.time, .int .i64 q.echo] 31)).grownBy w' v.ownBlock → (v'.ownBlock = v.ownBlock ∨ v'.ownBlock = some (W.heap.size + 1)) → wpList Try.prog ops Q rest (a.put o.dst v') w') : wpList Try.prog ops Q (o :: rest) a (W.alloc (.cells #[.int .i64 q.fr, .int .i64 q.tick, .int .i64 q.first, .slice q.ins q.insN q.insC, .slice q.acks q.acksN q.acksC, .int .i64 q.sumTick, .int .i64 q.sum, .int .i64 q.time, .int .i64 q.echo] 31)) := by
  obtain ⟨i0, hi, hz0, hz1, hz2⟩ := info_parts info_PacketS
  have hcell : ∀ j u, (pvL q)[j]? = some u → (W.alloc (.cells #[.int .i64 q.fr, .int .i64 q.tick, .int .i64 q.first, .slice q.ins q.insN q.insC, .slice q.acks q.acksN q.acksC, .int .i64 q.sumTick, .int .i64 q.sum, .int .i64 q.time, .int .i64 q.echo] 31)).cell? ((⟨W.heap.size, 0, none⟩ : Addr).add j) = some u := by
    intro j u hj
    rw [Addr.add_lit, Nat.zero_add, World.cell?_alloc_mark]
    simpa [pvL] using hj
  have hown2 : GrowPv (W.alloc (.cells #[.int .i64 q.fr, .int .i64 q.tick, .int .i64 q.first, .slice q.ins q.insN q.insC, .slice q.acks q.acksN q.acksC, .int .i64 q.sumTick, .int .i64 q.sum, .int .i64 q.time, .int .i64 q.echo] 31)) B v X := hown.keep ((Below.refl _ _).alloc (Nat.le_refl _) _) (Nat.le_refl _)
  have hbase2 : B ≤ (W.alloc (.cells #[.int .i64 q.fr, .int .i64 q.tick, .int .i64 q.first, .slice q.ins q.insN q.insC, .slice q.acks q.acksN q.acksC, .int .i64 q.sumTick, .int .i64 q.sum, .int .i64 q.time, .int .i64 q.echo] 31)).heap.size := by simp; omega
  refine wpList_append_own_at _ hgd s x 27 ho B 31 i0 (.agg zPv) 9 104 Try.underlying27 hi hz0 hz1 hz2 (by rfl) (by decide) v X.length (X.map pvL).flatten hs hown2 ⟨W.heap.size, 0, none⟩ 1 1 (pvL q) hx (by rfl) hcell (pvL_one q) (by unfold maxLen; omega) (by omega) hbase2 ?_
  intro v' w' hown' hgrow _ hat
  refine h v' w' ?_ (((Below.refl B W).alloc hbase _).trans ((Below.refl B _).grown hgrow hbase2 fun k hk => (World.ownsRow.lt hown2 k hk).1)) hgrow (by simpa using hat)
  unfold GrowPv; rw [List.length_append, List.map_append, List.flatten_append]; simpa using hown'
/-- A list of ints that is not empty lies from B on, below N, and not in the block row. -/
def OffI (a : Option Addr) (xs : List Int) (B N : Nat) (row : Option Nat) : Prop := xs ≠ [] → ∀ p, a = some p → B ≤ p.block ∧ p.block < N ∧ some p.block ≠ row
theorem OffI.next {a : Option Addr} {xs : List Int} {B N N' : Nat} {r r' : Option Nat} (h : OffI a xs B N r) (hN : N ≤ N') (hr : r' = r ∨ ∃ n, r' = some n ∧ N ≤ n) : OffI a xs B N' r' := by
  intro hx p hp
  obtain ⟨h0, h1, h2⟩ := h hx p hp
  refine ⟨h0, by omega, ?_⟩
  rcases hr with rfl | ⟨n, rfl, hn⟩
  · exact h2
  · intro e
    have := Option.some.inj e
    omega
theorem RdI.grown {w w' : World} {a : Option Addr} {n c B N : Nat} {xs : List Int} {row : Option Nat} (h : RdI w (.slice a n c) xs) (hg : w.grownBy w' row) (ho : OffI a xs B N row) : RdI w' (.slice a n c) xs := by
  obtain ⟨a', c', e, h⟩ := h
  obtain ⟨rfl, rfl, rfl⟩ := Value.slice.inj e
  refine ⟨_, _, rfl, ?_⟩
  by_cases hx : xs = []
  · exact .inl hx
  · obtain ⟨b, off, rfl, hb⟩ := h.resolve_left hx
    exact .inr ⟨b, off, rfl, fun j hj => hg.cell (hb j hj) (ho hx _ rfl).2.2⟩
def OffP (q : Pv) (p : Pk) (B N : Nat) (row : Option Nat) : Prop := OffI q.ins p.ins B N row ∧ OffI q.acks p.acks B N row
theorem LikePk.grown {w w' : World} {q : Pv} {p : Pk} {B N : Nat} {row : Option Nat} (h : LikePk w q p) (hg : w.grownBy w' row) (ho : OffP q p B N row) : LikePk w' q p := ⟨h.1, h.2.1.grown hg ho.1, h.2.2.grown hg ho.2⟩
/-- A row of the call's own that may grow, whose packets are as X; their lists lie in neither of the blocks r1 and r2. -/
def RowPk (w : World) (B : Nat) (v : Value) (X : List Pk) (r1 r2 : Option Nat) : Prop :=
  ∃ Qs, GrowPv w B v Qs ∧ Qs.length = X.length ∧ ∀ j (h1 : j < Qs.length) (h2 : j < X.length), LikePk w Qs[j] X[j] ∧ OffP Qs[j] X[j] B w.heap.size r1 ∧ OffP Qs[j] X[j] B w.heap.size r2
/-- The other row has grown. -/
theorem RowPk.other {w w' : World} {B : Nat} {v : Value} {X : List Pk} {r1 r2 r1' : Option Nat} (h : RowPk w B v X r1 r2) (hg : w.grownBy w' r1) (hne : v.ownBlock ≠ r1) (hs : w.heap.size ≤ w'.heap.size) (hr : r1' = r1 ∨ ∃ n, r1' = some n ∧ w.heap.size ≤ n) : RowPk w' B v X r1' r2 := by
  obtain ⟨Qs, h1, h2, h3⟩ := h
  refine ⟨Qs, World.ownsRow.kept h1 hg (.inr hne), h2, fun j hj1 hj2 => ?_⟩
  obtain ⟨a, b, c⟩ := h3 j hj1 hj2
  exact ⟨a.grown hg b, ⟨b.1.next hs hr, b.2.next hs hr⟩, ⟨c.1.next hs (.inl rfl), c.2.next hs (.inl rfl)⟩⟩
/-- The row itself has grown by one: what is left of it at the new world, its own row given. -/
theorem RowPk.more {w w' : World} {B : Nat} {v v' : Value} {X : List Pk} {r2 r1' : Option Nat} {Qs : List Pv} {q : Pv} {p : Pk} (h2 : Qs.length = X.length)
    (h3 : ∀ j (h1 : j < Qs.length) (h2 : j < X.length), LikePk w Qs[j] X[j] ∧ OffP Qs[j] X[j] B w.heap.size v.ownBlock ∧ OffP Qs[j] X[j] B w.heap.size r2)
    (hq : LikePk w q p) (o1 : OffP q p B w.heap.size v.ownBlock) (o2 : OffP q p B w.heap.size r2) (hg : w.grownBy w' v.ownBlock) (hs : w.heap.size ≤ w'.heap.size) (hr : r1' = v.ownBlock ∨ ∃ n, r1' = some n ∧ w.heap.size ≤ n)
    (hown : GrowPv w' B v' (Qs ++ [q])) : RowPk w' B v' (X ++ [p]) r1' r2 := by
  refine ⟨Qs ++ [q], hown, by simp [h2], fun j hj1 hj2 => ?_⟩
  by_cases hj : j < Qs.length
  · have hjX : j < X.length := by omega
    rw [List.getElem_append_left hj, List.getElem_append_left hjX]
    obtain ⟨a, b, c⟩ := h3 j hj hjX
    exact ⟨a.grown hg b, ⟨b.1.next hs hr, b.2.next hs hr⟩, ⟨c.1.next hs (.inl rfl), c.2.next hs (.inl rfl)⟩⟩
  · have hjq : j = Qs.length := by simp at hj1; omega
    subst hjq
    rw [List.getElem_append_right (Nat.le_refl _)]
    rw [List.getElem_append_right (by omega)]
    simp only [Nat.sub_self, h2, List.getElem_cons_zero]
    exact ⟨hq.grown hg o1, ⟨o1.1.next hs hr, o1.2.next hs hr⟩, ⟨o2.1.next hs (.inl rfl), o2.2.next hs (.inl rfl)⟩⟩
/-- One packet of the row. -/
theorem RowPk.at {w : World} {B : Nat} {v : Value} {X : List Pk} {r1 r2 : Option Nat} (h : RowPk w B v X r1 r2) {j : Nat} (hj : j < X.length) : ∃ g cap q, v = .slice (some ⟨g, 0, none⟩) X.length cap ∧ w.rangeAt g (j * 9) (pvL q) ∧ LikePk w q X[j] := by
  obtain ⟨Qs, h1, h2, h3⟩ := h
  have hjQ : j < Qs.length := by omega
  obtain ⟨a, cap, rfl, ho⟩ := h1.own
  obtain ⟨g, hB, rfl, hr⟩ := ho.resolve_left (by intro e; rw [e] at hjQ; simp at hjQ)
  exact ⟨g, cap, Qs[j], by rw [h2], (hr j hjQ).1, (h3 j hjQ hj).1⟩
theorem RowPk.made {w : World} {B : Nat} (hB : B ≤ w.heap.size) (r2 : Option Nat) : RowPk (w.alloc (.cells #[] 31)) B (.slice (some ⟨w.heap.size, 0, none⟩) 0 0) [] (some w.heap.size) r2 :=
  ⟨[], GrowPv.made0 w B hB, rfl, fun j h1 _ => by simp at h1⟩
theorem RowPk.keep {w w' : World} {B C : Nat} {v : Value} {X : List Pk} {r1 r2 : Option Nat} (h : RowPk w B v X r1 r2) (hb : Below C w w') (hC : w.heap.size ≤ C) : RowPk w' B v X r1 r2 := by
  obtain ⟨Qs, h1, h2, h3⟩ := h
  refine ⟨Qs, h1.keep hb hC, h2, fun j hj1 hj2 => ?_⟩
  obtain ⟨a, b, c⟩ := h3 j hj1 hj2
  have hs := hb.size
  exact ⟨⟨a.1, a.2.keep (hb.mono hC)⟩, ⟨b.1.next hs (.inl rfl), b.2.next hs (.inl rfl)⟩, ⟨c.1.next hs (.inl rfl), c.2.next hs (.inl rfl)⟩⟩
/-- A cell ahead of B is stored: the box of a pace. -/
theorem RowPk.aside {w : World} {B : Nat} {v : Value} {X : List Pk} {r1 r2 : Option Nat} (h : RowPk w B v X r1 r2) {p : Addr} (hp : p.block < B) (u : Value) : RowPk (w.setCell p u) B v X r1 r2 := by
  obtain ⟨Qs, h1, h2, h3⟩ := h
  have hsz : (w.setCell p u).heap.size = w.heap.size := by simp
  have hk : ∀ {a : Option Addr} {n c N : Nat} {xs : List Int} {r : Option Nat}, RdI w (.slice a n c) xs → OffI a xs B N r → RdI (w.setCell p u) (.slice a n c) xs := by
    intro a n c N xs r hr ho
    obtain ⟨a', c', e, hh⟩ := hr
    obtain ⟨rfl, rfl, rfl⟩ := Value.slice.inj e
    refine ⟨_, _, rfl, ?_⟩
    by_cases hx : xs = []
    · exact .inl hx
    · obtain ⟨b, off, rfl, hb⟩ := hh.resolve_left hx
      have hB := (ho hx _ rfl).1
      have hB' : B ≤ b := hB
      exact .inr ⟨b, off, rfl, fun j hj => by rw [World.cell?_setCell_other _ _ _ _ (by intro e; rw [e] at hp; have : b < B := hp; omega)]; exact hb j hj⟩
  have hv : v.ownBlock ≠ some p.block := by
    rcases h1.2 with ⟨rfl, -⟩ | ⟨g, cap, cur, rfl, hBg, -⟩
    · intro e; cases e
    · intro e
      have := Option.some.inj e
      have : g = p.block := this
      omega
  refine ⟨Qs, ownsRow_setCell_other h1 hv u, h2, fun j hj1 hj2 => ?_⟩
  obtain ⟨a, b, c⟩ := h3 j hj1 hj2
  rw [hsz]
  exact ⟨⟨a.1, hk a.2.1 b.1, hk a.2.2 b.2⟩, b, c⟩
end Go.Proofs.Ytbjbamcpfjlllab
