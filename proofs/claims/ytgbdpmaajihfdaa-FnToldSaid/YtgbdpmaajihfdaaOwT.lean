/-
  Lists of tracks that a call has made itself, in no order: append and store of a track; the laws' marks on them and their test. Lists of at most 2^20 tracks and inputs.
-/
import Derived.Test.YtgbdpmaajihfdaaTrC
import Derived.Test.YtgbdpmaajihfdaaMkR
namespace Go.Proofs.Ytgbdpmaajihfdaa
open Go.RowKit
set_option linter.all false
/-- The tracks lie in blocks of their own from lo up to hi, each in another; so does the list. -/
def OwnTT (w : World) (lo hi : Nat) (v : Value) (X : Rowi) : Prop := lo ≤ hi ∧ hi ≤ w.heap.size ∧ (∀ g, v.ownBlock = some g → g < hi) ∧ ∃ us : List Value, us.length = X.length ∧ w.ownsRow lo 29 1 v X.length us ∧ (∀ j (h : j < us.length) (h' : j < X.length), OwnIn w lo hi us[j] X[j]) ∧ ∀ i j (hi : i < us.length) (hj : j < us.length), i ≠ j → us[i].ownBlock = us[j].ownBlock → ∀ (h' : i < X.length), X[i] ≠ [] → ∀ (h2 : j < X.length), X[j] = []
theorem ownsT_cell {w : World} {B : Nat} {v : Value} {n : Nat} {us : List Value} (h : w.ownsRow B 29 1 v n us) {g : Nat} (hg : v.ownBlock = some g) {j : Nat} (hj : j < us.length) : w.cell? ⟨g, j, none⟩ = some us[j] := by
  rcases h.2 with ⟨rfl, _⟩ | ⟨g', cap, cur, rfl, _⟩
  · simp [Value.ownBlock] at hg
  · simp only [Value.ownBlock, Option.some.injEq] at hg
    subst hg
    have hcell := World.ownsRow.cells h (g := g') rfl j us[j] (by simp [hj])
    rwa [show (⟨g', 0, none⟩ : Addr).add j = ⟨g', j, none⟩ by unfold Addr.add; split <;> simp_all] at hcell
/-- A track's block is never that of the list. -/
theorem apartT {w : World} {B lo hi : Nat} {v u : Value} {n : Nat} {us : List Value} {xs : List Int} (h : OwnIn w lo hi u xs) (hx : xs ≠ []) (ho : w.ownsRow B 29 1 v n us) (h0 : 0 < us.length) (hsl : ∃ a l c, us[0] = .slice a l c) : u.ownBlock ≠ none ∧ u.ownBlock ≠ v.ownBlock := by
  obtain ⟨a, cap, rfl, h⟩ := h
  obtain ⟨b, _, _, rfl, hr⟩ := h.resolve_left hx
  refine ⟨by simp [Value.ownBlock], fun e => ?_⟩
  have e' : v.ownBlock = some b := e.symm
  have c1 := ownsT_cell ho e' h0
  have c2 := hr.1 0 (List.length_pos_iff.2 hx)
  obtain ⟨a', l', c', hsl⟩ := hsl
  rw [c1, hsl] at c2
  simp at c2
theorem OwnTT.rd {w : World} {lo hi : Nat} {v : Value} {X : Rowi} (h : OwnTT w lo hi v X) : RdR w v X := by
  obtain ⟨hlo, hC, hg, us, hl, ho, hr, -⟩ := h
  have ho' := ho
  rcases ho.2 with ⟨rfl, hn⟩ | ⟨g, cap, cur, rfl, hB, hgc, _⟩
  · have : X = [] := List.eq_nil_of_length_eq_zero hn
    subst this
    exact ⟨none, 0, rfl, .inl rfl⟩
  · refine ⟨_, cap, rfl, .inr ⟨g, 0, rfl, fun j hj => ⟨us[j]'(by omega), ?_, ((hr j (by omega) hj).own).rd⟩⟩⟩
    rw [Nat.zero_add]
    exact ownsT_cell ho' rfl (by omega)
/-- What leaves the blocks from lo up to hi alone leaves the list alone. -/
theorem OwnTT.stay {w w' : World} {lo hi : Nat} {v : Value} {X : Rowi} (h : OwnTT w lo hi v X) (hs : w.heap.size ≤ w'.heap.size) (hk : ∀ b, lo ≤ b → b < hi → w'.heap[b]? = w.heap[b]?) : OwnTT w' lo hi v X := by
  obtain ⟨hlo, hC, hg, us, hl, ho, hr, hd⟩ := h
  refine ⟨hlo, by omega, hg, us, hl, ownsRow_far ho fun g e => ?_, fun j h1 h2 => (hr j h1 h2).same fun _ b hb1 hb2 _ => hk b hb1 hb2, hd⟩
  rcases ho.2 with ⟨rfl, _⟩ | ⟨g', cap, cur, rfl, hB, _⟩
  · simp [Value.ownBlock] at e
  · have e' : g' = g := by simpa [Value.ownBlock] using e
    subst e'
    exact hk g' hB (hg g' rfl)
theorem OwnTT.keep {w w' : World} {lo hi : Nat} {v : Value} {X : Rowi} (h : OwnTT w lo hi v X) (hb : Below w.heap.size w w') : OwnTT w' lo hi v X :=
  h.stay hb.size fun b _ h2 => hb.block b (by have := h.2.1; omega)
theorem OwnTT.apart2 {w w' : World} {lo hi l r : Nat} {v : Value} {X : Rowi} (h : OwnTT w lo hi v X) (hf : FarB l r w w') (hd : r ≤ lo ∨ hi ≤ l) : OwnTT w' lo hi v X :=
  h.stay hf.1.size fun b h1 h2 => by
    have := h.2.1
    rcases hd with hd | hd
    · exact hf.2 b (by omega) (by omega)
    · exact hf.1.block b (by omega)
theorem OwnTT.wide {w : World} {lo hi lo' hi' : Nat} {v : Value} {X : Rowi} (h : OwnTT w lo hi v X) (h1 : lo' ≤ lo) (h2 : hi ≤ hi') (h3 : hi' ≤ w.heap.size) : OwnTT w lo' hi' v X := by
  obtain ⟨hlo, hC, hg, us, hl, ho, hr, hd⟩ := h
  refine ⟨by omega, h3, fun g e => by have := hg g e; omega, us, hl, ?_, fun j h1' h2' => (hr j h1' h2').wide h1 h2, hd⟩
  obtain ⟨q1, q2⟩ := ho
  refine ⟨q1, ?_⟩
  rcases q2 with q2 | ⟨g, cap, cur, e, hB, rest⟩
  · exact .inl q2
  · exact .inr ⟨g, cap, cur, e, by omega, rest⟩
theorem OwnTT.made (w : World) (B : Nat) (cur : Array Value) (hB : B ≤ w.heap.size) (hm : cur.size ≤ maxLen) : OwnTT (w.alloc (.cells cur 29)) B (w.alloc (.cells cur 29)).heap.size (.slice (some ⟨w.heap.size, 0, none⟩) 0 cur.size) [] :=
  ⟨by simp; omega, Nat.le_refl _, fun g e => by simp [Value.ownBlock] at e; subst e; simp, [], rfl, World.ownsRow_made w cur cur.size hB hm (by simp), fun j h => by simp at h, fun i j h => by simp at h⟩
/-- 'append(v, t)' of one track of the call's own that came behind the list: the list has one track more; the rows keep their room. -/
theorem app_trackC {ops : Array Oper} {rest : List Oper} {o : Oper} {a : Act} {Q : Exit → Act → World → Prop} {W : World} (hgd : o.guard = none) (s x : Operand)
    (ho : o.op = .call { callee := .builtin .append, args := #[s, x], argTypes := #[24, 24] })
    (B C : Nat) (v : Value) (X : Rowi) (hs : a.eval s = v) (hown : OwnTT W B C v X) (u : Value) (xs : List Int) (hu : OwnI W C u xs) (hx : a.eval x = .slice (some ⟨W.heap.size, 0, none⟩) 1 1)
    (hlen : X.length + 1 ≤ 1000000000)
    (h : ∀ v' w', OwnTT w' B w'.heap.size v' (X ++ [xs]) → Below B W w' → (CapR W v X → CapI u → CapR w' v' (X ++ [xs])) → wpList Try.prog ops Q rest (a.put o.dst v') w') : wpList Try.prog ops Q (o :: rest) a (W.alloc (.cells #[u] 29)) := by
  obtain ⟨i0, hi, hz0, hz1, hz2⟩ := info_parts info_TrackS
  obtain ⟨hBC, hC, hg, us, hl, how, hr, hd⟩ := hown
  have hu0 := OwnIn.of hu
  have how2 := how.alloc (.cells #[u] 29)
  have hr2 : ∀ j (h : j < us.length) (h' : j < X.length), OwnIn (W.alloc (.cells #[u] 29)) B C us[j] X[j] := fun j h1 h2 => (hr j h1 h2).same fun _ b _ hb _ => (below1 W _).block b (by omega)
  have hu2 : OwnIn (W.alloc (.cells #[u] 29)) C W.heap.size u xs := hu0.same fun _ b _ hb _ => (below1 W _).block b hb
  have huc : u.oneCell' = true := by obtain ⟨_, _, rfl, _⟩ := hu0; rfl
  refine wpList_append_own _ hgd s x 24 ho B 29 i0 (.agg #[.slice none 0 0]) 1 24 Try.underlying24 hi hz0 hz1 hz2 rfl (by decide) v X.length us hs how2 ⟨W.heap.size, 0, none⟩ 1 1 [u] hx rfl (fun j q hj => ?_) (by intro q hq; simp at hq; subst hq; exact huc) (by unfold maxLen; omega) (by omega) (by simp; omega) ?_
  · match j, hj with
    | 0, hj =>
      simp at hj; subst hj
      exact rowCells (heap_alloc_new W (.cells #[u] 29)) 0
  intro v' w' hown' hgrow _
  have hsz := hgrow.size
  have hsz1 : (W.alloc (.cells #[u] 29)).heap.size = W.heap.size + 1 := by simp
  have hold : ∀ k, k < W.heap.size → some k ≠ v.ownBlock → w'.heap[k]? = (W.alloc (.cells #[u] 29)).heap[k]? := fun k hk hne => hgrow.block k (by simp; omega) hne
  have hrow : ∀ j (h : j < us.length) (h' : j < X.length), OwnIn w' B C us[j] X[j] := fun j h1 h2 => (hr2 j h1 h2).same fun hne b _ hbC hob => hold b (by omega) fun e => by
    have hus0 : 0 < us.length := by omega
    obtain ⟨a0, c0, e0, -⟩ := hr2 0 hus0 (by omega)
    have := (apartT (hr2 j h1 h2) hne how2 hus0 ⟨_, _, _, e0⟩).2
    rw [hob] at this
    exact this e
  have hnew : OwnIn w' C W.heap.size u xs := hu2.same fun hne b hb1 hb2 hob => hold b hb2 fun e => by have := hg b e.symm; omega
  refine h v' w' ⟨by omega, Nat.le_refl _, fun g e => (hown'.lt g e).2, us ++ [u], by simp [hl], ?_, ?_, ?_⟩ ?_ ?_
  · rw [List.length_append]; exact hown'
  · intro j h1 h2
    by_cases hj : j < us.length
    · rw [List.getElem_append_left hj, List.getElem_append_left (by omega)]
      exact (hrow j hj (by omega)).wide (Nat.le_refl _) (by omega)
    · have e : j = us.length := by simp at h1; omega
      subst e
      rw [List.getElem_append_right (Nat.le_refl _)]
      have e2 : (X ++ [xs])[us.length] = xs := by simp [hl]
      rw [e2]
      simp only [Nat.sub_self, List.getElem_cons_zero]
      exact hnew.wide hBC (by omega)
  · intro i j h1 h2 hne he hi' hxi hj'
    have key : ∀ {k : Nat} (hk : k < us.length), us[k].ownBlock = u.ownBlock → X[k]'(by omega) ≠ [] → xs = [] := fun {k} hk e hk2 => by
      by_cases hxs : xs = []
      · exact hxs
      · exfalso
        obtain ⟨a1, c1, e1, q1⟩ := hrow k hk (by omega)
        obtain ⟨b1, _, hb1, rfl, -⟩ := q1.resolve_left hk2
        obtain ⟨a2, c2, e2, q2⟩ := hnew
        obtain ⟨b2, hb2, _, rfl, -⟩ := q2.resolve_left hxs
        rw [e1, e2] at e
        have : b1 = b2 := by simpa [Value.ownBlock] using e
        omega
    by_cases hi1 : i < us.length
    · by_cases hj1 : j < us.length
      · rw [List.getElem_append_left hi1, List.getElem_append_left hj1] at he
        rw [List.getElem_append_left (by omega)] at hxi ⊢
        exact hd i j hi1 hj1 hne he (by omega) hxi (by omega)
      · have e : j = us.length := by simp at h2; omega
        subst e
        rw [List.getElem_append_left hi1, List.getElem_append_right (Nat.le_refl _)] at he
        simp only [Nat.sub_self, List.getElem_cons_zero] at he
        rw [List.getElem_append_left (by omega)] at hxi
        have e2 : (X ++ [xs])[us.length] = xs := by simp [hl]
        rw [e2]
        exact key hi1 he hxi
    · have e : i = us.length := by simp at h1; omega
      subst e
      have hj1 : j < us.length := by simp at h2; omega
      rw [List.getElem_append_left hj1, List.getElem_append_right (Nat.le_refl _)] at he
      simp only [Nat.sub_self, List.getElem_cons_zero] at he
      have e2 : (X ++ [xs])[us.length] = xs := by simp [hl]
      rw [e2] at hxi
      rw [List.getElem_append_left (by omega)]
      by_cases hxj : X[j]'(by omega) = []
      · exact hxj
      · exact absurd (key hj1 he.symm hxj) hxi
  · exact ((Below.refl B W).alloc (by omega) _).grown hgrow (by simp; omega) fun k hk => (how2.lt k hk).1
  · intro hcr hcu
    have hown2 : w'.ownsRow B 29 1 v' (X ++ [xs]).length (us ++ [u]) := by rw [List.length_append]; exact hown'
    have hcap : ∀ j (h : j < us.length), CapI us[j] := fun j hj => by
      rcases hcr with e | ⟨b, off, cap, e, h2⟩
      · rw [e] at hl; rw [hl] at hj; cases hj
      · obtain ⟨u', c1, c2⟩ := h2 j (by omega)
        rcases how.2 with ⟨e', _⟩ | ⟨g, cap', cur, e', _⟩
        · rw [e'] at e; cases e
        · have e2 := e'.symm.trans e
          have e3 := Option.some.inj (Value.slice.inj e2).1
          have hb : g = b := congrArg Addr.block e3
          have ho : 0 = off := congrArg Addr.off e3
          subst hb ho
          have c3 := ownsT_cell how (by rw [e']; rfl) hj
          rw [Nat.zero_add] at c1
          obtain rfl := Option.some.inj (c1.symm.trans c3)
          exact c2
    rcases hown2.2 with ⟨e', h0⟩ | ⟨g, cap', cur, e', _⟩
    · simp at h0
    · refine .inr ⟨g, 0, cap', e', fun j hj => ?_⟩
      have hj2 : j < (us ++ [u]).length := by simp at hj ⊢; omega
      refine ⟨(us ++ [u])[j], by rw [Nat.zero_add]; exact ownsT_cell hown2 (by rw [e']; rfl) hj2, ?_⟩
      by_cases hju : j < us.length
      · rw [List.getElem_append_left hju]; exact hcap j hju
      · have e : j = us.length := by simp at hj2; omega
        subst e
        rw [List.getElem_append_right (Nat.le_refl _)]
        simpa using hcu
/-- 'append(v, t)' of one track of the call's own that came behind the list: the list has one track more. -/
theorem app_track {ops : Array Oper} {rest : List Oper} {o : Oper} {a : Act} {Q : Exit → Act → World → Prop} {W : World} (hgd : o.guard = none) (s x : Operand)
    (ho : o.op = .call { callee := .builtin .append, args := #[s, x], argTypes := #[24, 24] })
    (B C : Nat) (v : Value) (X : Rowi) (hs : a.eval s = v) (hown : OwnTT W B C v X) (u : Value) (xs : List Int) (hu : OwnI W C u xs) (hx : a.eval x = .slice (some ⟨W.heap.size, 0, none⟩) 1 1)
    (hlen : X.length + 1 ≤ 1000000000)
    (h : ∀ v' w', OwnTT w' B w'.heap.size v' (X ++ [xs]) → Below B W w' → wpList Try.prog ops Q rest (a.put o.dst v') w') : wpList Try.prog ops Q (o :: rest) a (W.alloc (.cells #[u] 29)) :=
  app_trackC hgd s x ho B C v X hs hown u xs hu hx hlen fun v' w' h1 h2 _ => h v' w' h1 h2
theorem ownsT_set {w : World} {B g n cap k : Nat} {us : List Value} {u : Value} (h : w.ownsRow B 29 1 (.slice (some ⟨g, 0, none⟩) n cap) n us) (hk : k < n) : (w.setCell ⟨g, k, none⟩ u).ownsRow B 29 1 (.slice (some ⟨g, 0, none⟩) n cap) n (us.set k u) := by
  obtain ⟨h1, h2⟩ := h
  refine ⟨by rw [List.length_set]; exact h1, ?_⟩
  rcases h2 with ⟨e, _⟩ | ⟨g', cap', cur, e, hB, hg, hn, hc, hsz, htk⟩
  · cases e
  · obtain ⟨e1, -, rfl⟩ := Value.slice.inj e
    have e2 : g = g' := congrArg Addr.block (Option.some.inj e1)
    subst e2
    refine .inr ⟨g, cap, cur.setIfInBounds k u, rfl, hB, setHeap hg, hn, hc, by simp [hsz], ?_⟩
    rw [Array.toList_setIfInBounds, ← htk, List.take_set]
/-- One track is stored anew: one of the call's own that came behind the list. -/
theorem OwnTT.put {w : World} {lo hi H g n cap : Nat} {X : Rowi} (h : OwnTT w lo hi (.slice (some ⟨g, 0, none⟩) n cap) X) {k : Nat} (hk : k < X.length) {u : Value} {xs : List Int} (hu : OwnIn w hi H u xs) (hH : H ≤ w.heap.size) (hhH : hi ≤ H) : OwnTT (w.setCell ⟨g, k, none⟩ u) lo H (.slice (some ⟨g, 0, none⟩) n cap) (X.set k xs) := by
  obtain ⟨hlo, hC, hg, us, hl, ho, hr, hd⟩ := h
  have hgh := hg g rfl
  have hnX : n = X.length := by
    rcases ho.2 with ⟨e, _⟩ | ⟨g', cap', cur, e, _⟩
    · cases e
    · exact (Value.slice.inj e).2.1
  subst hnX
  have hus0 : 0 < us.length := by omega
  obtain ⟨a0, c0, e0, -⟩ := hr 0 hus0 (by omega)
  have hrow : ∀ j (h : j < us.length) (h' : j < X.length), OwnIn (w.setCell ⟨g, k, none⟩ u) lo hi us[j] X[j] := fun j h1 h2 => (hr j h1 h2).same fun hne b _ _ hob => by
    refine Below.heap_setCell _ _ _ b ?_
    have := (apartT (hr j h1 h2) hne ho hus0 ⟨_, _, _, e0⟩).2
    rw [hob] at this
    intro e
    exact this (by rw [e]; rfl)
  have hnew : OwnIn (w.setCell ⟨g, k, none⟩ u) hi H u xs := hu.same fun _ b hb1 _ _ => Below.heap_setCell _ _ _ b (by show b ≠ g; omega)
  refine ⟨by omega, by simpa using hH, fun g' e => by have := hg g' e; omega, us.set k u, by simp [hl], by rw [List.length_set]; exact ownsT_set ho hk, ?_, ?_⟩
  · intro j h1 h2
    by_cases e : k = j
    · subst e; rw [List.getElem_set_self, List.getElem_set_self]; exact hnew.wide hlo (Nat.le_refl _)
    · rw [List.getElem_set_ne e, List.getElem_set_ne e]
      exact (hrow j (by simpa using h1) (by simpa using h2)).wide (Nat.le_refl _) hhH
  · have key : ∀ {j : Nat} (hj : j < us.length), us[j].ownBlock = u.ownBlock → X[j]'(by omega) ≠ [] → xs = [] := fun {j} hj e hk2 => by
      by_cases hxs : xs = []
      · exact hxs
      · exfalso
        obtain ⟨a1, c1, e1, q1⟩ := hrow j hj (by omega)
        obtain ⟨b1, _, hb1, rfl, -⟩ := q1.resolve_left hk2
        obtain ⟨a2, c2, e2, q2⟩ := hnew
        obtain ⟨b2, hb2, _, rfl, -⟩ := q2.resolve_left hxs
        rw [e1, e2] at e
        have : b1 = b2 := by simpa [Value.ownBlock] using e
        omega
    intro i j h1 h2 hne he hi' hxi hj'
    simp only [List.length_set] at h1 h2 hi' hj'
    by_cases e : k = i
    · subst e
      rw [List.getElem_set_self] at he hxi
      rw [List.getElem_set_ne hne] at he ⊢
      by_cases hxj : X[j] = []
      · exact hxj
      · exact absurd (key h2 he.symm hxj) hxi
    · rw [List.getElem_set_ne e] at he hxi
      by_cases e2 : k = j
      · subst e2
        rw [List.getElem_set_self] at he ⊢
        exact key h1 he hxi
      · rw [List.getElem_set_ne e2] at he ⊢
        exact hd i j h1 h2 hne he hi' hxi hj'
end Go.Proofs.Ytgbdpmaajihfdaa
