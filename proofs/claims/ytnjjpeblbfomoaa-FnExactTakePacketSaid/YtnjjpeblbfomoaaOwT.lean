/-
  Lists of tracks that a call has made itself, in no order: append and store of a track; the laws' marks on them and their test. Lists of at most 2^20 tracks and inputs.
-/
import Derived.Test.YtnjjpeblbfomoaaTrC
import Derived.Test.YtnjjpeblbfomoaaMkR
namespace Go.Proofs.Ytnjjpeblbfomoaa
open Go.RowKit
set_option linter.all false
/-- The tracks lie in blocks of their own from lo up to hi, each in another; so does the list. -/
def OwnTT (w : World) (lo hi : Nat) (v : Value) (X : Rowi) : Prop := lo ≤ hi ∧ hi ≤ w.heap.size ∧ (∀ g, v.ownBlock = some g → g < hi) ∧ ∃ us : List Value, us.length = X.length ∧ w.ownsRow lo 26 1 v X.length us ∧ (∀ j (h : j < us.length) (h' : j < X.length), OwnIn w lo hi us[j] X[j]) ∧ ∀ i j (hi : i < us.length) (hj : j < us.length), i ≠ j → us[i].ownBlock = us[j].ownBlock → ∀ (h' : i < X.length), X[i] ≠ [] → ∀ (h2 : j < X.length), X[j] = []
theorem ownsT_cell {w : World} {B : Nat} {v : Value} {n : Nat} {us : List Value} (h : w.ownsRow B 26 1 v n us) {g : Nat} (hg : v.ownBlock = some g) {j : Nat} (hj : j < us.length) : w.cell? ⟨g, j, none⟩ = some us[j] := by
  rcases h.2 with ⟨rfl, _⟩ | ⟨g', cap, cur, rfl, _⟩
  · simp [Value.ownBlock] at hg
  · simp only [Value.ownBlock, Option.some.injEq] at hg
    subst hg
    have hcell := World.ownsRow.cells h (g := g') rfl j us[j] (by simp [hj])
    rwa [show (⟨g', 0, none⟩ : Addr).add j = ⟨g', j, none⟩ by unfold Addr.add; split <;> simp_all] at hcell
/-- A track's block is never that of the list. -/
theorem apartT {w : World} {B lo hi : Nat} {v u : Value} {n : Nat} {us : List Value} {xs : List Int} (h : OwnIn w lo hi u xs) (hx : xs ≠ []) (ho : w.ownsRow B 26 1 v n us) (h0 : 0 < us.length) (hsl : ∃ a l c, us[0] = .slice a l c) : u.ownBlock ≠ none ∧ u.ownBlock ≠ v.ownBlock := by
  obtain ⟨a, cap, rfl, h⟩ := h
  obtain ⟨b, _, _, rfl, hr⟩ := h.resolve_left hx
  refine ⟨by simp [Value.ownBlock], fun e => ?_⟩
  have e' : v.ownBlock = some b := e.symm
  have c1 := ownsT_cell ho e' h0
  have c2 := hr.1 0 (List.length_pos_iff.2 hx)
  obtain ⟨a', l', c', hsl⟩ := hsl
  rw [c1, hsl] at c2
  simp at c2
theorem OwnTT.rd {w : World} {lo hi : Nat} {v : Value} {X : Rowi} (h : OwnTT w lo hi v X) : RdR w v X := by
  obtain ⟨hlo, hC, hg, us, hl, ho, hr, -⟩ := h
  have ho' := ho
  rcases ho.2 with ⟨rfl, hn⟩ | ⟨g, cap, cur, rfl, hB, hgc, _⟩
  · have : X = [] := List.eq_nil_of_length_eq_zero hn
    subst this
    exact ⟨none, 0, rfl, .inl rfl⟩
  · refine ⟨_, cap, rfl, .inr ⟨g, 0, rfl, fun j hj => ⟨us[j]'(by omega), ?_, ((hr j (by omega) hj).own).rd⟩⟩⟩
    rw [Nat.zero_add]
    exact ownsT_cell ho' rfl (by omega)
/-- What leaves the blocks from lo up to hi alone leaves the list alone. -/
theorem OwnTT.stay {w w' : World} {lo hi : Nat} {v : Value} {X : Rowi} (h : OwnTT w lo hi v X) (hs : w.heap.size ≤ w'.heap.size) (hk : ∀ b, lo ≤ b → b < hi → w'.heap[b]? = w.heap[b]?) : OwnTT w' lo hi v X := by
  obtain ⟨hlo, hC, hg, us, hl, ho, hr, hd⟩ := h
  refine ⟨hlo, by omega, hg, us, hl, ownsRow_far ho fun g e => ?_, fun j h1 h2 => (hr j h1 h2).same fun _ b hb1 hb2 _ => hk b hb1 hb2, hd⟩
  rcases ho.2 with ⟨rfl, _⟩ | ⟨g', cap, cur, rfl, hB, _⟩
  · simp [Value.ownBlock] at e
  · have e' : g' = g := by simpa [Value.ownBlock] using e
    subst e'
    exact hk g' hB (hg g' rfl)
theorem OwnTT.keep {w w' : World} {lo hi : Nat} {v : Value} {X : Rowi} (h : OwnTT w lo hi v X) (hb : Below w.heap.size w w') : OwnTT w' lo hi v X :=
  h.stay hb.size fun b _ h2 => hb.block b (by have := h.2.1; omega)
theorem OwnTT.apart2 {w w' : World} {lo hi l r : Nat} {v : Value} {X : Rowi} (h : OwnTT w lo hi v X) (hf : FarB l r w w') (hd : r ≤ lo ∨ hi ≤ l) : OwnTT w' lo hi v X :=
  h.stay hf.1.size fun b h1 h2 => by
    have := h.2.1
    rcases hd with hd | hd
    · exact hf.2 b (by omega) (by omega)
    · exact hf.1.block b (by omega)
theorem OwnTT.wide {w : World} {lo hi lo' hi' : Nat} {v : Value} {X : Rowi} (h : OwnTT w lo hi v X) (h1 : lo' ≤ lo) (h2 : hi ≤ hi') (h3 : hi' ≤ w.heap.size) : OwnTT w lo' hi' v X := by
  obtain ⟨hlo, hC, hg, us, hl, ho, hr, hd⟩ := h
  refine ⟨by omega, h3, fun g e => by have := hg g e; omega, us, hl, ?_, fun j h1' h2' => (hr j h1' h2').wide h1 h2, hd⟩
  obtain ⟨q1, q2⟩ := ho
  refine ⟨q1, ?_⟩
  rcases q2 with q2 | ⟨g, cap, cur, e, hB, rest⟩
  · exact .inl q2
  · exact .inr ⟨g, cap, cur, e, by omega, rest⟩
theorem OwnTT.made (w : World) (B : Nat) (cur : Array Value) (hB : B ≤ w.heap.size) (hm : cur.size ≤ maxLen) : OwnTT (w.alloc (.cells cur 26)) B (w.alloc (.cells cur 26)).heap.size (.slice (some ⟨w.heap.size, 0, none⟩) 0 cur.size) [] :=
  ⟨by simp; omega, Nat.le_refl _, fun g e => by simp [Value.ownBlock] at e; subst e; simp, [], rfl, World.ownsRow_made w cur cur.size hB hm (by simp), fun j h => by simp at h, fun i j h => by simp at h⟩
/-- 'append(v, t)' of one track of the call's own that came behind the list: the list has one track more. -/
theorem app_track {ops : Array Oper} {rest : List Oper} {o : Oper} {a : Act} {Q : Exit → Act → World → Prop} {W : World} (hgd : o.guard = none) (s x : Operand)
    (ho : o.op = .call { callee := .builtin .append, args := #[s, x], argTypes := #[42, 42] })
    (B C : Nat) (v : Value) (X : Rowi) (hs : a.eval s = v) (hown : OwnTT W B C v X) (u : Value) (xs : List Int) (hu : OwnI W C u xs) (hx : a.eval x = .slice (some ⟨W.heap.size, 0, none⟩) 1 1)
    (hlen : X.length + 1 ≤ 1000000000)
    (h : ∀ v' w', OwnTT w' B w'.heap.size v' (X ++ [xs]) → Below B W w' → wpList Try.prog ops Q rest (a.put o.dst v') w') : wpList Try.prog ops Q (o :: rest) a (W.alloc (.cells #[u] 26)) := by
  obtain ⟨i0, hi, hz0, hz1, hz2⟩ := info_parts info_TrackS
  obtain ⟨hBC, hC, hg, us, hl, how, hr, hd⟩ := hown
  have hu0 := OwnIn.of hu
  have how2 := how.alloc (.cells #[u] 26)
  have hr2 : ∀ j (h : j < us.length) (h' : j < X.length), OwnIn (W.alloc (.cells #[u] 26)) B C us[j] X[j] := fun j h1 h2 => (hr j h1 h2).same fun _ b _ hb _ => (below1 W _).block b (by omega)
  have hu2 : OwnIn (W.alloc (.cells #[u] 26)) C W.heap.size u xs := hu0.same fun _ b _ hb _ => (below1 W _).block b hb
  have huc : u.oneCell' = true := by obtain ⟨_, _, rfl, _⟩ := hu0; rfl
  refine wpList_append_own _ hgd s x 42 ho B 26 i0 (.agg #[.slice none 0 0]) 1 24 Try.underlying42 hi hz0 hz1 hz2 rfl (by decide) v X.length us hs how2 ⟨W.heap.size, 0, none⟩ 1 1 [u] hx rfl (fun j q hj => ?_) (by intro q hq; simp at hq; subst hq; exact huc) (by unfold maxLen; omega) (by omega) (by simp; omega) ?_
  · match j, hj with
    | 0, hj =>
      simp at hj; subst hj
      exact rowCells (heap_alloc_new W (.cells #[u] 26)) 0
  intro v' w' hown' hgrow _
  have hsz := hgrow.size
  have hsz1 : (W.alloc (.cells #[u] 26)).heap.size = W.heap.size + 1 := by simp
  have hold : ∀ k, k < W.heap.size → some k ≠ v.ownBlock → w'.heap[k]? = (W.alloc (.cells #[u] 26)).heap[k]? := fun k hk hne => hgrow.block k (by simp; omega) hne
  have hrow : ∀ j (h : j < us.length) (h' : j < X.length), OwnIn w' B C us[j] X[j] := fun j h1 h2 => (hr2 j h1 h2).same fun hne b _ hbC hob => hold b (by omega) fun e => by
    have hus0 : 0 < us.length := by omega
    obtain ⟨a0, c0, e0, -⟩ := hr2 0 hus0 (by omega)
    have := (apartT (hr2 j h1 h2) hne how2 hus0 ⟨_, _, _, e0⟩).2
    rw [hob] at this
    exact this e
  have hnew : OwnIn w' C W.heap.size u xs := hu2.same fun hne b hb1 hb2 hob => hold b hb2 fun e => by have := hg b e.symm; omega
  refine h v' w' ⟨by omega, Nat.le_refl _, fun g e => (hown'.lt g e).2, us ++ [u], by simp [hl], ?_, ?_, ?_⟩ ?_
  · rw [List.length_append]; exact hown'
  · intro j h1 h2
    by_cases hj : j < us.length
    · rw [List.getElem_append_left hj, List.getElem_append_left (by omega)]
      exact (hrow j hj (by omega)).wide (Nat.le_refl _) (by omega)
    · have e : j = us.length := by simp at h1; omega
      subst e
      rw [List.getElem_append_right (Nat.le_refl _)]
      have e2 : (X ++ [xs])[us.length] = xs := by simp [hl]
      rw [e2]
      simp only [Nat.sub_self, List.getElem_cons_zero]
      exact hnew.wide hBC (by omega)
  · intro i j h1 h2 hne he hi' hxi hj'
    have key : ∀ {k : Nat} (hk : k < us.length), us[k].ownBlock = u.ownBlock → X[k]'(by omega) ≠ [] → xs = [] := fun {k} hk e hk2 => by
      by_cases hxs : xs = []
      · exact hxs
      · exfalso
        obtain ⟨a1, c1, e1, q1⟩ := hrow k hk (by omega)
        obtain ⟨b1, _, hb1, rfl, -⟩ := q1.resolve_left hk2
        obtain ⟨a2, c2, e2, q2⟩ := hnew
        obtain ⟨b2, hb2, _, rfl, -⟩ := q2.resolve_left hxs
        rw [e1, e2] at e
        have : b1 = b2 := by simpa [Value.ownBlock] using e
        omega
    by_cases hi1 : i < us.length
    · by_cases hj1 : j < us.length
      · rw [List.getElem_append_left hi1, List.getElem_append_left hj1] at he
        rw [List.getElem_append_left (by omega)] at hxi ⊢
        exact hd i j hi1 hj1 hne he (by omega) hxi (by omega)
      · have e : j = us.length := by simp at h2; omega
        subst e
        rw [List.getElem_append_left hi1, List.getElem_append_right (Nat.le_refl _)] at he
        simp only [Nat.sub_self, List.getElem_cons_zero] at he
        rw [List.getElem_append_left (by omega)] at hxi
        have e2 : (X ++ [xs])[us.length] = xs := by simp [hl]
        rw [e2]
        exact key hi1 he hxi
    · have e : i = us.length := by simp at h1; omega
      subst e
      have hj1 : j < us.length := by simp at h2; omega
      rw [List.getElem_append_left hj1, List.getElem_append_right (Nat.le_refl _)] at he
      simp only [Nat.sub_self, List.getElem_cons_zero] at he
      have e2 : (X ++ [xs])[us.length] = xs := by simp [hl]
      rw [e2] at hxi
      rw [List.getElem_append_left (by omega)]
      by_cases hxj : X[j]'(by omega) = []
      · exact hxj
      · exact absurd (key hj1 he.symm hxj) hxi
  · exact ((Below.refl B W).alloc (by omega) _).grown hgrow (by simp; omega) fun k hk => (how2.lt k hk).1
theorem ownsT_set {w : World} {B g n cap k : Nat} {us : List Value} {u : Value} (h : w.ownsRow B 26 1 (.slice (some ⟨g, 0, none⟩) n cap) n us) (hk : k < n) : (w.setCell ⟨g, k, none⟩ u).ownsRow B 26 1 (.slice (some ⟨g, 0, none⟩) n cap) n (us.set k u) := by
  obtain ⟨h1, h2⟩ := h
  refine ⟨by rw [List.length_set]; exact h1, ?_⟩
  rcases h2 with ⟨e, _⟩ | ⟨g', cap', cur, e, hB, hg, hn, hc, hsz, htk⟩
  · cases e
  · obtain ⟨e1, -, rfl⟩ := Value.slice.inj e
    have e2 : g = g' := congrArg Addr.block (Option.some.inj e1)
    subst e2
    refine .inr ⟨g, cap, cur.setIfInBounds k u, rfl, hB, setHeap hg, hn, hc, by simp [hsz], ?_⟩
    rw [Array.toList_setIfInBounds, ← htk, List.take_set]
/-- One track is stored anew: one of the call's own that came behind the list. -/
theorem OwnTT.put {w : World} {lo hi H g n cap : Nat} {X : Rowi} (h : OwnTT w lo hi (.slice (some ⟨g, 0, none⟩) n cap) X) {k : Nat} (hk : k < X.length) {u : Value} {xs : List Int} (hu : OwnIn w hi H u xs) (hH : H ≤ w.heap.size) (hhH : hi ≤ H) : OwnTT (w.setCell ⟨g, k, none⟩ u) lo H (.slice (some ⟨g, 0, none⟩) n cap) (X.set k xs) := by
  obtain ⟨hlo, hC, hg, us, hl, ho, hr, hd⟩ := h
  have hgh := hg g rfl
  have hnX : n = X.length := by
    rcases ho.2 with ⟨e, _⟩ | ⟨g', cap', cur, e, _⟩
    · cases e
    · exact (Value.slice.inj e).2.1
  subst hnX
  have hus0 : 0 < us.length := by omega
  obtain ⟨a0, c0, e0, -⟩ := hr 0 hus0 (by omega)
  have hrow : ∀ j (h : j < us.length) (h' : j < X.length), OwnIn (w.setCell ⟨g, k, none⟩ u) lo hi us[j] X[j] := fun j h1 h2 => (hr j h1 h2).same fun hne b _ _ hob => by
    refine Below.heap_setCell _ _ _ b ?_
    have := (apartT (hr j h1 h2) hne ho hus0 ⟨_, _, _, e0⟩).2
    rw [hob] at this
    intro e
    exact this (by rw [e]; rfl)
  have hnew : OwnIn (w.setCell ⟨g, k, none⟩ u) hi H u xs := hu.same fun _ b hb1 _ _ => Below.heap_setCell _ _ _ b (by show b ≠ g; omega)
  refine ⟨by omega, by simpa using hH, fun g' e => by have := hg g' e; omega, us.set k u, by simp [hl], by rw [List.length_set]; exact ownsT_set ho hk, ?_, ?_⟩
  · intro j h1 h2
    by_cases e : k = j
    · subst e; rw [List.getElem_set_self, List.getElem_set_self]; exact hnew.wide hlo (Nat.le_refl _)
    · rw [List.getElem_set_ne e, List.getElem_set_ne e]
      exact (hrow j (by simpa using h1) (by simpa using h2)).wide (Nat.le_refl _) hhH
  · have key : ∀ {j : Nat} (hj : j < us.length), us[j].ownBlock = u.ownBlock → X[j]'(by omega) ≠ [] → xs = [] := fun {j} hj e hk2 => by
      by_cases hxs : xs = []
      · exact hxs
      · exfalso
        obtain ⟨a1, c1, e1, q1⟩ := hrow j hj (by omega)
        obtain ⟨b1, _, hb1, rfl, -⟩ := q1.resolve_left hk2
        obtain ⟨a2, c2, e2, q2⟩ := hnew
        obtain ⟨b2, hb2, _, rfl, -⟩ := q2.resolve_left hxs
        rw [e1, e2] at e
        have : b1 = b2 := by simpa [Value.ownBlock] using e
        omega
    intro i j h1 h2 hne he hi' hxi hj'
    simp only [List.length_set] at h1 h2 hi' hj'
    by_cases e : k = i
    · subst e
      rw [List.getElem_set_self] at he hxi
      rw [List.getElem_set_ne hne] at he ⊢
      by_cases hxj : X[j] = []
      · exact hxj
      · exact absurd (key h2 he.symm hxj) hxi
    · rw [List.getElem_set_ne e] at he hxi
      by_cases e2 : k = j
      · subst e2
        rw [List.getElem_set_self] at he ⊢
        exact key h1 he hxi
      · rw [List.getElem_set_ne e2] at he ⊢
        exact hd i j h1 h2 hne he hi' hxi hj'
set_option maxHeartbeats 2000000 in
theorem markTrackS_own {w : World} {lo hi : Nat} {v : Value} {X : Rowi} (h : OwnTT w lo hi v X) (hn : X.length ≤ 1048576) (ht : totalR X ≤ 1048576) (k0 : Int) (h0 : 0 ≤ k0) (h1 : k0 ≤ 1048576) :
    Calls Try.prog 25 #[v, .int .i64 k0] w fun e w' => e = .returned (.int .i64 (k0 + (totalR X : Nat))) ∧ OwnTT w' lo hi v (marksR k0 X) ∧ FarB lo hi w w' := by
  obtain ⟨hlo, hC, hgC, us, hl, ho, hr, hd⟩ := h
  have hlm := marksR_len X k0
  by_cases hx : X = []
  · subst hx
    have ho' := ho
    rcases ho.2 with ⟨rfl, hn0⟩ | ⟨g, cap, cur, rfl, hB, hgc, _⟩
    all_goals
      go_enter Try.func25, Try.ntmps25
      go_wp2
      refine wp_loop_once ?_
      go_wp2
      go_ret
      exact ⟨ret_int (by simp [totalR]), ⟨hlo, hC, hgC, us, hl, ho', hr, hd⟩, Below.refl _ _, fun _ _ _ => rfl⟩
  · have hpos : 0 < X.length := List.length_pos_iff.2 hx
    have ho' := ho
    rcases ho.2 with ⟨rfl, hn0⟩ | ⟨g, cap, cur, rfl, hB, hgc, _⟩
    · omega
    have hgw : g < w.heap.size := (Array.getElem?_eq_some_iff.1 hgc).1
    have hus0 : 0 < us.length := by omega
    obtain ⟨a00, c00, e00, -⟩ := hr 0 hus0 hpos
    have hcell : ∀ j (hj : j < us.length), w.cell? ⟨g, j, none⟩ = some us[j] := fun j hj => ownsT_cell ho' rfl hj
    have HC := Lib.hid hcell
    have HV : Hid (∀ w', w.heap.size ≤ w'.heap.size → w'.heap[g]? = w.heap[g]? → ∀ L : Rowi, L.length = X.length → (∀ j (h : j < L.length) (h' : j < X.length), L[j].length = X[j].length) → (∀ j (h : j < us.length) (h' : j < L.length), OwnIn w' lo hi us[j] L[j]) → OwnTT w' lo hi (.slice (some ⟨g, 0, none⟩) X.length cap) L) := Lib.hid (fun w' hs hgw' L hLl hLn hL => ⟨hlo, by omega, hgC, us, by omega, by rw [hLl]; exact ownsRow_far ho' (fun g' e => by simp only [Value.ownBlock, Option.some.injEq] at e; subst e; exact hgw'), hL, fun i j h1 h2 hne he h3 hxi h4 => by
      have q1 := hLn i h3 (by omega)
      have q2 := hLn j h4 (by omega)
      have q3 := hd i j h1 h2 hne he (by omega) (by intro e; rw [e] at q1; exact hxi (List.eq_nil_of_length_eq_zero (by simpa using q1))) (by omega)
      rw [q3] at q2
      exact List.eq_nil_of_length_eq_zero (by simpa using q2)⟩)
    have HA : Hid (∀ w' lo hi u xs, w'.heap[g]? = w.heap[g]? → OwnIn w' lo hi u xs → xs ≠ [] → u.ownBlock ≠ some g) := Lib.hid (fun w' lo hi u xs hg' hu hne => (apartT hu hne (ownsRow_far ho' (fun g' e => by simp only [Value.ownBlock, Option.some.injEq] at e; subst e; exact hg')) hus0 ⟨_, _, _, e00⟩).2)
    have HD := Lib.hid hd
    clear hcell ho ho' hgC hd
    go_enter Try.func25, Try.ntmps25
    go_wp2_with (fail)
    go_loopw [1, 5] (fun x i wr => ∃ (k : Nat) (L : Rowi), k ≤ X.length ∧ i = .int .i64 (k : Int) ∧ x = .int .i64 (k0 + (totalR (X.take k) : Nat)) ∧ L.length = X.length ∧ L.take k = (marksR k0 X).take k ∧ (∀ j (h : j < L.length) (h' : j < X.length), k ≤ j → L[j] = X[j]) ∧ (∀ j (h : j < us.length) (h' : j < L.length), OwnIn wr lo hi us[j] L[j]) ∧ (∀ j (h : j < L.length) (h' : j < X.length), L[j].length = X[j].length) ∧ FarB lo hi w wr ∧ wr.heap[g]? = w.heap[g]?) (fun _ i _ => X.length - (intOf i).toNat)
    case atStart => exact ⟨0, X, Nat.zero_le _, rfl, by simp [totalR], rfl, rfl, fun _ _ _ _ => rfl, hr, fun _ _ _ => rfl, ⟨Below.refl _ _, fun _ _ _ => rfl⟩, rfl⟩
    case round =>
      obtain ⟨k, L, hk, rfl, rfl, hL, htk, hup, hin, hlen, hfar, hgw'⟩ := hrel
      have hsz := hfar.1.size
      have HT := Lib.hid htk
      have HU := Lib.hid hup
      have HI := Lib.hid hin
      have HL := Lib.hid hlen
      clear htk hup hlen
      by_cases hkl : k < X.length
      · have hb1 : k < us.length := by omega
        have hkL : k < L.length := by omega
        have hLX := HU.out k hkL hkl (Nat.le_refl _)
        obtain ⟨u, hu⟩ : ∃ u, u = us[k] := ⟨_, rfl⟩
        have c1 : wr.cell? ⟨g, k, none⟩ = some u := by rw [World.cell?_of_block (w := w) hgw', hu]; exact HC.out k hb1
        have hon := hin k hb1 hkL
        rw [hLX, ← hu] at hon
        have hx3 : X[k].length ≤ totalR X := totalR_mem (List.getElem_mem _)
        have hsn := totalR_snoc X k hkl
        have hle := totalR_take_le X k
        have hM := markIntS_full hon (by omega) (k0 + (totalR (X.take k) : Nat)) (by omega) (by omega)
        have HLX := Lib.hid hLX
        have HUK := Lib.hid hu
        have HON := Lib.hid hon
        have hl1 : (k : Int) < (X.length : Int) := by omega
        obtain ⟨au, cu, eu, -⟩ := id hon
        have HSN := Lib.hid hsn
        have hvs : ∃ a l c, u = .slice a l c := ⟨_, _, _, eu⟩
        clear hin hon hr hsn hu hLX eu
        obtain ⟨a1, l1, cp1, rfl⟩ := hvs
        go_wp2_with (fail)
        refine hM.mono ?_
        rintro e w1 ⟨rfl, hx1, hb1', ho1⟩
        go_wp2_with (fail)
        go_roundw
        case rel =>
          refine ⟨k + 1, L.set k (marks (k0 + (totalR (X.take k) : Nat)) X[k].length), by omega, by go_num, ?_, by rw [List.length_set]; exact hL, ?_, ?_, ?_, ?_, hfar.trans ⟨hb1', fun b hb _ => ?_⟩, ?_⟩
          · rw [HSN.out]; congr 1; omega
          · rw [List.take_succ_eq_append_getElem (by rw [List.length_set, hL]; exact hkl), List.take_succ_eq_append_getElem (by rw [hlm]; exact hkl), List.take_set_of_le (Nat.le_refl _), HT.out, List.getElem_set_self, marksR_at _ _ _ _ hkl]
          · intro j hj hj' hkj
            rw [List.length_set] at hj
            rw [List.getElem_set_ne (by omega)]
            exact HU.out j hj hj' (by omega)
          · intro j hj hj'
            rw [List.length_set] at hj'
            by_cases e : k = j
            · subst e; rw [List.getElem_set_self, ← HUK.out]; exact hx1
            · rw [List.getElem_set_ne e]
              refine (HI.out j hj hj').same fun hne b _ _ hob => ho1 b ?_
              by_cases hxk : X[k] = []
              · exact .inl hxk
              · refine .inr fun e2 => hne ?_
                have q := HD.out k j hb1 hj e (by rw [← HUK.out, ← e2, hob]) hkl hxk (by omega)
                have q2 := HL.out j hj' (by omega)
                rw [q] at q2
                exact List.eq_nil_of_length_eq_zero (by simpa using q2)
          · intro j hj hj'
            rw [List.length_set] at hj
            by_cases e : k = j
            · subst e; rw [List.getElem_set_self, marks_len]
            · rw [List.getElem_set_ne e]; exact HL.out j hj hj'
          · refine ho1 b ?_
            by_cases hxk : X[k] = []
            · exact .inl hxk
            · refine .inr fun e2 => ?_
              obtain ⟨a2, c2, e3, hh⟩ := HON.out
              obtain ⟨b2, q1, q2, q3, -⟩ := hh.resolve_left hxk
              rw [e3, q3] at e2
              simp only [Value.ownBlock, Option.some.injEq] at e2
              omega
          · refine (ho1 g ?_).trans hgw'
            by_cases hne : X[k] = []
            · exact .inl hne
            · exact .inr fun e => HA.out wr _ _ _ _ hgw' HON.out hne e.symm
        case measure => simp [intOf]; omega
      · have ek : k = X.length := by omega
        subst ek
        have e : L = marksR k0 X := by
          have := HT.out
          rw [List.take_of_length_le (by omega), List.take_of_length_le (by rw [hlm]; omega)] at this
          exact this
        have HE := Lib.hid e
        rw [List.take_of_length_le (Nat.le_refl _)]
        clear e
        go_wp2_with (fail)
        go_ret
        exact ⟨rfl, by rw [← HE.out]; exact HV.out _ hsz hgw' L hL HL.out HI.out, hfar⟩
set_option maxHeartbeats 2000000 in
theorem heldTrackS_rows {w : World} {v : Value} (X : Rowi) (k0 : Int) (h : RdR w v (marksR k0 X)) (hn : X.length ≤ 1048576) (hi : totalR X ≤ 1048576) (h0 : 0 ≤ k0) (h1 : k0 ≤ 1048576) :
    Calls Try.prog 32 #[v, .int .i64 k0] w fun e w' => e = .returned (.int .i64 (k0 + (totalR X : Nat))) ∧ w = w' := by
  obtain ⟨a, cap, rfl, h⟩ := h
  have hlm := marksR_len X k0
  rw [hlm]
  by_cases hx : X = []
  · subst hx
    go_enter Try.func32, Try.ntmps32
    go_wp2
    refine wp_loop_once ?_
    go_wp2
    go_ret
    exact ⟨ret_int (by simp [totalR]), rfl⟩
  · obtain ⟨b, off, rfl, hc⟩ := h.resolve_left (by intro e; rw [e] at hlm; exact hx (List.eq_nil_of_length_eq_zero hlm.symm))
    have HC := Lib.hid hc
    clear hc h
    go_enter Try.func32, Try.ntmps32
    go_wp2_with (fail)
    go_loop [1, 5] (fun x i => ∃ k : Nat, k ≤ X.length ∧ i = .int .i64 (k : Int) ∧ x = .int .i64 (k0 + (totalR (X.take k) : Nat))) (fun _ i => X.length - (intOf i).toNat)
    case atStart => exact ⟨0, Nat.zero_le _, rfl, by simp [totalR]⟩
    case round =>
      obtain ⟨k, hk, rfl, rfl⟩ := hrel
      by_cases hkl : k < X.length
      · obtain ⟨y, c1, hr⟩ := HC.out k (by rw [hlm]; exact hkl)
        rw [marksR_at _ _ _ _ hkl] at hr
        have hl1 : (k : Int) < (X.length : Int) := by omega
        have hx3 : X[k].length ≤ totalR X := totalR_mem (List.getElem_mem _)
        have hsn := totalR_snoc X k hkl
        have hle := totalR_take_le X k
        have hM := heldIntS_any X[k].length (k0 + (totalR (X.take k) : Nat)) hr (by omega) (by omega) (by omega)
        have zq : decide (k0 + (totalR (X.take k) : Nat) + (X[k].length : Int) < 0) = false := decide_eq_false (by omega)
        have HSN := Lib.hid hsn
        obtain ⟨a1, cp1, rfl, -⟩ := id hr
        clear hsn hr
        go_wp2_with (fail)
        refine hM.mono ?_
        rintro e w1 ⟨rfl, rfl⟩
        go_wp2_with (fail)
        go_round
        case rel => exact ⟨k + 1, by omega, by go_num, by rw [HSN.out]; congr 1; omega⟩
        case measure => simp [intOf]; omega
      · have ek : k = X.length := by omega
        subst ek
        rw [List.take_of_length_le (Nat.le_refl _)]
        go_wp2_with (fail)
        go_ret
        exact ⟨rfl, rfl⟩
end Go.Proofs.Ytnjjpeblbfomoaa
