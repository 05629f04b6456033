/-
  Rows of rows of ints that a call has made itself: append of a row; what the laws' marks and tests do with them. Lists of at most 2^20 rows and numbers.
-/
import Derived.Test.YtlffkcmbeolohaaRowL
import Derived.Test.YtlffkcmbeolohaaAppI
import Derived.Test.YtlffkcmbeolohaaOin
import Derived.Test.YtlffkcmbeolohaaMkR
namespace Go.Proofs.Ytlffkcmbeolohaa
open Go.RowKit
set_option linter.all false
/-- The rows lie in blocks of their own, one behind the other. -/
def InnR (w : World) (B C : Nat) (us : List Value) (X : Rowi) : Prop := us.length = X.length ∧ ∃ T : Nat → Nat, B ≤ T 0 ∧ (∀ i j, i ≤ j → T i ≤ T j) ∧ T X.length ≤ C ∧ ∀ j (h : j < us.length) (h' : j < X.length), OwnIn w (T j) (T (j + 1)) us[j] X[j]
/-- Rows of a call's own, all in blocks from B up to C. -/
def OwnRR (w : World) (B C : Nat) (v : Value) (X : Rowi) : Prop := C ≤ w.heap.size ∧ (∀ g, v.ownBlock = some g → g < C) ∧ ∃ us, InnR w B C us X ∧ w.ownsRow B 27 1 v X.length us
theorem InnR.keep {w w' : World} {B C : Nat} {us : List Value} {X : Rowi} (h : InnR w B C us X) (hk : ∀ b, b < C → (X ≠ []) → w'.heap[b]? = w.heap[b]?) : InnR w' B C us X := by
  obtain ⟨hl, T, h0, hm, hC, hr⟩ := h
  refine ⟨hl, T, h0, hm, hC, fun j h1 h2 => (hr j h1 h2).same fun _ b _ hb _ => hk b ?_ (by intro e; rw [e] at h2; simp at h2)⟩
  have := hm (j + 1) X.length (by omega)
  omega
theorem OwnRR.keep {w w' : World} {B C : Nat} {v : Value} {X : Rowi} (h : OwnRR w B C v X) {D : Nat} (hb : Below D w w') (hD : w.heap.size ≤ D) : OwnRR w' B C v X := by
  obtain ⟨hC, hg, us, hi, ho⟩ := h
  refine ⟨Nat.le_trans hC hb.size, hg, us, hi.keep fun b hbC _ => hb.block b (by omega), ?_⟩
  exact World.ownsRow.kept ho (row := none) ⟨hb.os, hb.tape, hb.output, hb.size, fun k hk _ => hb.block k (by omega)⟩ (by cases v.ownBlock <;> simp)
theorem OwnRR.upC {w : World} {B C : Nat} {v : Value} {X : Rowi} (h : OwnRR w B C v X) : OwnRR w B w.heap.size v X := by
  obtain ⟨hC, hg, us, ⟨hl, T, h0, hm, hT, hr⟩, ho⟩ := h
  exact ⟨Nat.le_refl _, fun g e => by have := hg g e; omega, us, ⟨hl, T, h0, hm, by omega, hr⟩, ho⟩
theorem OwnRR.nil (w : World) (B : Nat) (hB : B ≤ w.heap.size) : OwnRR w B w.heap.size (.slice none 0 0) [] :=
  ⟨Nat.le_refl _, fun g e => by simp [Value.ownBlock] at e, [], ⟨rfl, fun _ => B, Nat.le_refl _, fun _ _ _ => Nat.le_refl _, hB, fun j h => by simp at h⟩, World.ownsRow_nil w B _ 1⟩
theorem OwnRR.made (w : World) (B : Nat) (cur : Array Value) (hB : B ≤ w.heap.size) (hm : cur.size ≤ maxLen) : OwnRR (w.alloc (.cells cur 27)) B (w.alloc (.cells cur 27)).heap.size (.slice (some ⟨w.heap.size, 0, none⟩) 0 cur.size) [] :=
  ⟨Nat.le_refl _, fun g e => by simp [Value.ownBlock] at e; subst e; simp, [], ⟨rfl, fun _ => B, Nat.le_refl _, fun _ _ _ => Nat.le_refl _, by simp; omega, fun j h => by simp at h⟩, World.ownsRow_made w cur cur.size hB hm (by simp)⟩
theorem OwnIn.oneCell {w : World} {lo hi : Nat} {v : Value} {xs : List Int} (h : OwnIn w lo hi v xs) : v.oneCell' = true := by
  obtain ⟨a, cap, rfl, -⟩ := h; rfl
theorem ownsRow_cell {w : World} {B : Nat} {v : Value} {n : Nat} {us : List Value} (h : w.ownsRow B 27 1 v n us) {g : Nat} (hg : v.ownBlock = some g) {j : Nat} (hj : j < us.length) : w.cell? ⟨g, j, none⟩ = some us[j] := by
  rcases h.2 with ⟨rfl, _⟩ | ⟨g', cap, cur, rfl, _⟩
  · simp [Value.ownBlock] at hg
  · simp only [Value.ownBlock, Option.some.injEq] at hg
    subst hg
    have hcell := World.ownsRow.cells h (g := g') rfl j us[j] (by simp [hj])
    rwa [show (⟨g', 0, none⟩ : Addr).add j = ⟨g', j, none⟩ by unfold Addr.add; split <;> simp_all] at hcell
/-- A row's block is never that of the list. -/
theorem OwnIn.apart {w : World} {B lo hi : Nat} {v u : Value} {n : Nat} {us : List Value} {xs : List Int} (h : OwnIn w lo hi u xs) (hx : xs ≠ []) (ho : w.ownsRow B 27 1 v n us) (h0 : 0 < us.length) (hs : us[0].oneCell' = true) (hsl : ∃ a l c, us[0] = .slice a l c) : u.ownBlock ≠ none ∧ u.ownBlock ≠ v.ownBlock := by
  obtain ⟨a, cap, rfl, h⟩ := h
  obtain ⟨b, _, _, rfl, hr⟩ := h.resolve_left hx
  refine ⟨by simp [Value.ownBlock], fun e => ?_⟩
  have e' : v.ownBlock = some b := e.symm
  have c1 := ownsRow_cell ho e' h0
  have c2 := hr.1 0 (List.length_pos_iff.2 hx)
  obtain ⟨a', l', c', hsl⟩ := hsl
  rw [c1, hsl] at c2
  simp at c2
/-- 'append(v, [][]int{u})': the list has one row more. -/
theorem app_row {ops : Array Oper} {rest : List Oper} {o : Oper} {a : Act} {Q : Exit → Act → World → Prop} {W : World} (hgd : o.guard = none) (s x : Operand)
    (ho : o.op = .call { callee := .builtin .append, args := #[s, x], argTypes := #[26, 26] })
    (B C : Nat) (v : Value) (X : Rowi) (hs : a.eval s = v) (hown : OwnRR W B C v X) (u : Value) (xs : List Int) (hu : OwnI W C u xs) (hx : a.eval x = .slice (some ⟨W.heap.size, 0, none⟩) 1 1)
    (hlen : X.length + 1 ≤ 1000000000) (hbase : B ≤ C)
    (h : ∀ v' w', OwnRR w' B w'.heap.size v' (X ++ [xs]) → Below B W w' → wpList Try.prog ops Q rest (a.put o.dst v') w') : wpList Try.prog ops Q (o :: rest) a (W.alloc (.cells #[u] 27)) := by
  obtain ⟨i0, hi, hz0, hz1, hz2⟩ := info_parts info_IntSS
  obtain ⟨hC, hg, us, hin, how⟩ := hown
  have hu0 := OwnIn.of hu
  have hin2 : InnR (W.alloc (.cells #[u] 27)) B C us X := hin.keep fun b hb _ => (below1 W _).block b (by omega)
  have how2 := how.alloc (.cells #[u] 27)
  have hu2 : OwnIn (W.alloc (.cells #[u] 27)) C W.heap.size u xs := hu0.same fun _ b _ hb _ => (below1 W _).block b hb
  refine wpList_append_own _ hgd s x 26 ho B 27 i0 (.slice none 0 0) 1 24 Try.underlying26 hi hz0 hz1 hz2 rfl (by decide) v X.length us hs how2 ⟨W.heap.size, 0, none⟩ 1 1 [u] hx rfl (fun j q hj => ?_) (by intro q hq; simp at hq; subst hq; exact hu0.oneCell) (by unfold maxLen; omega) (by omega) (by simp; omega) ?_
  · match j, hj with
    | 0, hj =>
      simp at hj; subst hj
      exact rowCells (heap_alloc_new W (.cells #[u] 27)) 0
  intro v' w' hown' hgrow _
  have hsz := hgrow.size
  have hsz1 : (W.alloc (.cells #[u] 27)).heap.size = W.heap.size + 1 := by simp
  obtain ⟨hl, T, h0, hm, hT, hr⟩ := hin2
  have hold : ∀ k, k < W.heap.size → some k ≠ v.ownBlock → w'.heap[k]? = (W.alloc (.cells #[u] 27)).heap[k]? := fun k hk hne => hgrow.block k (by simp; omega) hne
  refine h v' w' ⟨Nat.le_refl _, fun g e => ?_, us ++ [u], ⟨by simp [hl], fun i => if i ≤ X.length then T i else w'.heap.size, ?_, ?_, ?_, ?_⟩, ?_⟩ ?_
  · exact (hown'.lt g e).2
  · simp only [Nat.zero_le, if_true]; exact h0
  · intro i j hij
    simp only
    by_cases h1 : i ≤ X.length
    · by_cases h2 : j ≤ X.length
      · rw [if_pos h1, if_pos h2]; exact hm i j hij
      · rw [if_pos h1, if_neg h2]
        have := hm i X.length h1
        omega
    · rw [if_neg h1, if_neg (by omega)]; exact Nat.le_refl _
  · simp only [List.length_append, List.length_cons, List.length_nil]; rw [if_neg (by omega)]; exact Nat.le_refl _
  · intro j h1 h2
    by_cases hj : j < us.length
    · have hjX : j < X.length := by omega
      rw [List.getElem_append_left hj, List.getElem_append_left hjX]
      simp only
      rw [if_pos (by omega), if_pos (by omega)]
      have hb := hm (j + 1) X.length (by omega)
      refine (hr j hj hjX).same fun hne b _ hbT hob => hold b (by omega) ?_
      have hus0 : 0 < us.length := by omega
      obtain ⟨a0, c0, e0, -⟩ := hr 0 hus0 (by omega)
      have := ((hr j hj hjX).apart hne how2 hus0 (hr 0 hus0 (by omega)).oneCell ⟨_, _, _, e0⟩).2
      rw [hob] at this
      exact this
    · have e : j = us.length := by simp at h1; omega
      subst e
      rw [List.getElem_append_right (Nat.le_refl _)]
      have e2 : (X ++ [xs])[us.length] = xs := by simp [hl]
      rw [e2]
      simp only [Nat.sub_self, List.getElem_cons_zero, hl]
      rw [if_pos (Nat.le_refl _), if_neg (by omega)]
      refine (hu2.wide (hi' := w'.heap.size) hT (by omega)).same fun hne b hb1 _ hob => ?_
      obtain ⟨a1, c1, e1, hh⟩ := hu2
      obtain ⟨b', hb'C, hb'S, e3, -⟩ := hh.resolve_left hne
      have : b = b' := by rw [e1, e3] at hob; simp [Value.ownBlock] at hob; exact hob.symm
      subst this
      exact hold b hb'S fun e => by have := hg b e.symm; omega
  · rw [List.length_append]; exact hown'
  · exact ((Below.refl B W).alloc (by omega) _).grown hgrow (by simp; omega) fun k hk => (how2.lt k hk).1
theorem OwnRR.rd {w : World} {B C : Nat} {v : Value} {X : Rowi} (h : OwnRR w B C v X) : RdR w v X := by
  obtain ⟨hC, hg, us, ⟨hl, T, h0, hm, hT, hr⟩, ho⟩ := h
  have ho' := ho
  rcases ho.2 with ⟨rfl, hn⟩ | ⟨g, cap, cur, rfl, hB, hgc, _⟩
  · have : X = [] := List.eq_nil_of_length_eq_zero hn
    subst this
    exact ⟨none, 0, rfl, .inl rfl⟩
  · refine ⟨_, cap, rfl, .inr ⟨g, 0, rfl, fun j hj => ⟨us[j]'(by omega), ?_, ((hr j (by omega) hj).own).rd⟩⟩⟩
    rw [Nat.zero_add]
    exact ownsRow_cell ho' rfl (by omega)
/-- One row is written over. -/
theorem OwnRR.row_set {w w' : World} {B C : Nat} {L : Rowi} {us : List Value} {T : Nat → Nat} (hC : C ≤ w.heap.size) (hs : w.heap.size ≤ w'.heap.size) (hl : us.length = L.length) (h0 : B ≤ T 0) (hm : ∀ i j, i ≤ j → T i ≤ T j) (hT : T L.length ≤ C)
    (hr : ∀ j (h : j < us.length) (h' : j < L.length), OwnIn w (T j) (T (j + 1)) us[j] L[j]) {k : Nat} (hk : k < us.length) {x : List Int} (hx : OwnIn w' (T k) (T (k + 1)) us[k] x) (hoth : ∀ j : Nat, some j ≠ us[k].ownBlock → w'.heap[j]? = w.heap[j]?) (hob : ∀ b, us[k].ownBlock = some b → L[k]'(by omega) ≠ [] → T k ≤ b ∧ b < T (k + 1)) (hnil : L[k]'(by omega) = [] → ∀ j : Nat, w'.heap[j]? = w.heap[j]?) :
    ∀ j (h : j < us.length) (h' : j < (L.set k x).length), OwnIn w' (T j) (T (j + 1)) us[j] (L.set k x)[j] := by
  intro j h h'
  rw [List.length_set] at h'
  by_cases e : k = j
  · subst e; rw [List.getElem_set_self]; exact hx
  · rw [List.getElem_set_ne e]
    refine (hr j h h').same fun _ b hb1 hb2 _ => ?_
    by_cases hn : L[k]'(by omega) = []
    · exact hnil hn b
    · refine hoth b fun e2 => ?_
      obtain ⟨q1, q2⟩ := hob b e2.symm hn
      rcases Nat.lt_or_gt_of_ne e with hlt | hlt
      · have := hm (k + 1) j (by omega); omega
      · have := hm (j + 1) k (by omega); omega
set_option maxHeartbeats 2000000 in
theorem markIntSS_own {w : World} {B C : Nat} {v : Value} {X : Rowi} (h : OwnRR w B C v X) (hn : X.length ≤ 1048576) (hi : totalR X ≤ 1048576) (k0 : Int) (h0 : 0 ≤ k0) (h1 : k0 ≤ 1048576) :
    Calls Try.prog 15 #[v, .int .i64 k0] w fun e w' => e = .returned (.int .i64 (k0 + (totalR X : Nat))) ∧ OwnRR w' B C v (marksR k0 X) ∧ Below B w w' := by
  obtain ⟨hC, hgC, us, ⟨hl, T, hT0, hm, hT, hr⟩, ho⟩ := h
  have hlm := marksR_len X k0
  by_cases hx : X = []
  · subst hx
    have ho' := ho
    rcases ho.2 with ⟨rfl, hn0⟩ | ⟨g, cap, cur, rfl, hB, hgc, _⟩
    all_goals
      go_enter Try.func15, Try.ntmps15
      go_wp2
      refine wp_loop_once ?_
      go_wp2
      go_ret
      exact ⟨ret_int (by simp [totalR]), ⟨hC, hgC, us, ⟨hl, T, hT0, hm, hT, fun j h h' => by simp [marksR] at h'⟩, ho'⟩, Below.refl _ _⟩
  · have hpos : 0 < X.length := List.length_pos_iff.2 hx
    have ho' := ho
    rcases ho.2 with ⟨rfl, hn0⟩ | ⟨g, cap, cur, rfl, hB, hgc, _⟩
    · omega
    have hgw : g < w.heap.size := (Array.getElem?_eq_some_iff.1 hgc).1
    have hus0 : 0 < us.length := by omega
    obtain ⟨a00, c00, e00, -⟩ := hr 0 hus0 hpos
    have hcell : ∀ j (hj : j < us.length), w.cell? ⟨g, j, none⟩ = some us[j] := fun j hj => ownsRow_cell ho' rfl hj
    have HC := Lib.hid hcell
    have HV : Hid (∀ w', w.heap.size ≤ w'.heap.size → w'.heap[g]? = w.heap[g]? → ∀ L : Rowi, L.length = X.length → (∀ j (h : j < us.length) (h' : j < L.length), OwnIn w' (T j) (T (j + 1)) us[j] L[j]) → OwnRR w' B C (.slice (some ⟨g, 0, none⟩) X.length cap) L) := Lib.hid (fun w' hs hgw' L hLl hL => ⟨by omega, hgC, us, ⟨by omega, T, hT0, hm, by rw [hLl]; exact hT, hL⟩, by rw [hLl]; exact ownsRow_far ho' (fun g' e => by simp only [Value.ownBlock, Option.some.injEq] at e; subst e; exact hgw')⟩)
    have HA : Hid (∀ w' lo hi u xs, w'.heap[g]? = w.heap[g]? → OwnIn w' lo hi u xs → xs ≠ [] → u.ownBlock ≠ some g) := Lib.hid (fun w' lo hi u xs hg' hu hne => (hu.apart hne (ownsRow_far ho' (fun g' e => by simp only [Value.ownBlock, Option.some.injEq] at e; subst e; exact hg')) hus0 (hr 0 hus0 hpos).oneCell ⟨_, _, _, e00⟩).2)
    clear hcell ho ho' hgC
    go_enter Try.func15, Try.ntmps15
    go_wp2_with (fail)
    go_loopw [1, 5] (fun x i wr => ∃ (k : Nat) (L : Rowi), k ≤ X.length ∧ i = .int .i64 (k : Int) ∧ x = .int .i64 (k0 + (totalR (X.take k) : Nat)) ∧ L.length = X.length ∧ L.take k = (marksR k0 X).take k ∧ (∀ j (h : j < L.length) (h' : j < X.length), k ≤ j → L[j] = X[j]) ∧ (∀ j (h : j < us.length) (h' : j < L.length), OwnIn wr (T j) (T (j + 1)) us[j] L[j]) ∧ Below B w wr ∧ wr.heap[g]? = w.heap[g]?) (fun _ i _ => X.length - (intOf i).toNat)
    case atStart => exact ⟨0, X, Nat.zero_le _, rfl, by simp [totalR], rfl, rfl, fun _ _ _ _ => rfl, hr, Below.refl _ _, rfl⟩
    case round =>
      obtain ⟨k, L, hk, rfl, rfl, hL, htk, hup, hin, hbel, hgw'⟩ := hrel
      have hsz := hbel.size
      have HT := Lib.hid htk
      have HU := Lib.hid hup
      have HI := Lib.hid hin
      clear htk hup
      by_cases hkl : k < X.length
      · have hb1 : k < us.length := by omega
        have hkL : k < L.length := by omega
        have hLX := HU.out k hkL hkl (Nat.le_refl _)
        obtain ⟨u, hu⟩ : ∃ u, u = us[k] := ⟨_, rfl⟩
        have c1 : wr.cell? ⟨g, k, none⟩ = some u := by rw [World.cell?_of_block (w := w) hgw', hu]; exact HC.out k hb1
        have hon := hin k hb1 hkL
        rw [hLX, ← hu] at hon
        have hx3 : X[k].length ≤ totalR X := totalR_mem (List.getElem_mem _)
        have hsn := totalR_snoc X k hkl
        have hle := totalR_take_le X k
        have hM := markIntS_full hon (by omega) (k0 + (totalR (X.take k) : Nat)) (by omega) (by omega)
        have HLX := Lib.hid hLX
        have HUK := Lib.hid hu
        have HON := Lib.hid hon
        have hl1 : (k : Int) < (X.length : Int) := by omega
        have hTB : B ≤ T k := Nat.le_trans hT0 (hm 0 k (Nat.zero_le _))
        obtain ⟨au, cu, eu, -⟩ := id hon
        have HSN := Lib.hid hsn
        have HEU := Lib.hid eu
        have hvs : ∃ a l c, u = .slice a l c := ⟨_, _, _, eu⟩
        clear hin hon hr hsn hu hLX eu
        obtain ⟨a1, l1, cp1, rfl⟩ := hvs
        go_wp2_with (fail)
        refine hM.mono ?_
        rintro e w1 ⟨rfl, hx1, hb1', ho1⟩
        go_wp2_with (fail)
        go_roundw
        case rel =>
          have hnil : L[k] = [] → ∀ j : Nat, w1.heap[j]? = wr.heap[j]? := fun e j => ho1 j (.inl (by rw [← HLX.out]; exact e))
          refine ⟨k + 1, L.set k (marks (k0 + (totalR (X.take k) : Nat)) X[k].length), by omega, by go_num, ?_, by rw [List.length_set]; exact hL, ?_, ?_, ?_, hbel.trans (hb1'.mono hTB), ?_⟩
          · rw [HSN.out]; congr 1; omega
          · rw [List.take_succ_eq_append_getElem (by rw [List.length_set, hL]; exact hkl), List.take_succ_eq_append_getElem (by rw [hlm]; exact hkl), List.take_set_of_le (Nat.le_refl _), HT.out, List.getElem_set_self, marksR_at _ _ _ _ hkl]
          · intro j hj hj' hkj
            rw [List.length_set] at hj
            rw [List.getElem_set_ne (by omega)]
            exact HU.out j hj hj' (by omega)
          · refine OwnRR.row_set (B := B) (C := w.heap.size) (w := wr) (w' := w1) hsz hb1'.size (by omega) hT0 hm (by rw [hL]; omega) HI.out hb1 (by rw [← HUK.out]; exact hx1) (fun j hj => ho1 j (.inr (by rw [HUK.out]; exact hj))) (fun b hb hne => ?_) hnil
            obtain ⟨a2, c2, e2, hh⟩ := HON.out
            obtain ⟨b2, q1, q2, q3, -⟩ := hh.resolve_left (by rw [← HLX.out]; exact hne)
            rw [← HUK.out, e2, q3] at hb
            simp only [Value.ownBlock, Option.some.injEq] at hb
            omega
          · refine (ho1 g ?_).trans hgw'
            by_cases hne : X[k] = []
            · exact .inl hne
            · exact .inr fun e => HA.out wr _ _ _ _ hgw' HON.out hne e.symm
        case measure => simp [intOf]; omega
      · have ek : k = X.length := by omega
        subst ek
        have e : L = marksR k0 X := by
          have := HT.out
          rw [List.take_of_length_le (by omega), List.take_of_length_le (by rw [hlm]; omega)] at this
          exact this
        have HE := Lib.hid e
        rw [List.take_of_length_le (Nat.le_refl _)]
        clear e
        go_wp2_with (fail)
        go_ret
        exact ⟨rfl, by rw [← HE.out]; exact HV.out _ hsz hgw' L hL HI.out, hbel⟩
set_option maxHeartbeats 2000000 in
theorem heldIntSS_rows {w : World} {v : Value} (X : Rowi) (k0 : Int) (h : RdR w v (marksR k0 X)) (hn : X.length ≤ 1048576) (hi : totalR X ≤ 1048576) (h0 : 0 ≤ k0) (h1 : k0 ≤ 1048576) :
    Calls Try.prog 16 #[v, .int .i64 k0] w fun e w' => e = .returned (.int .i64 (k0 + (totalR X : Nat))) ∧ w = w' := by
  obtain ⟨a, cap, rfl, h⟩ := h
  have hlm := marksR_len X k0
  rw [hlm]
  by_cases hx : X = []
  · subst hx
    go_enter Try.func16, Try.ntmps16
    go_wp2
    refine wp_loop_once ?_
    go_wp2
    go_ret
    exact ⟨ret_int (by simp [totalR]), rfl⟩
  · obtain ⟨b, off, rfl, hc⟩ := h.resolve_left (by intro e; rw [e] at hlm; exact hx (List.eq_nil_of_length_eq_zero hlm.symm))
    have HC := Lib.hid hc
    clear hc h
    go_enter Try.func16, Try.ntmps16
    go_wp2_with (fail)
    go_loop [1, 5] (fun x i => ∃ k : Nat, k ≤ X.length ∧ i = .int .i64 (k : Int) ∧ x = .int .i64 (k0 + (totalR (X.take k) : Nat))) (fun _ i => X.length - (intOf i).toNat)
    case atStart => exact ⟨0, Nat.zero_le _, rfl, by simp [totalR]⟩
    case round =>
      obtain ⟨k, hk, rfl, rfl⟩ := hrel
      by_cases hkl : k < X.length
      · obtain ⟨y, c1, hr⟩ := HC.out k (by rw [hlm]; exact hkl)
        rw [marksR_at _ _ _ _ hkl] at hr
        have hl1 : (k : Int) < (X.length : Int) := by omega
        have hx3 : X[k].length ≤ totalR X := totalR_mem (List.getElem_mem _)
        have hsn := totalR_snoc X k hkl
        have hle := totalR_take_le X k
        have hM := heldIntS_any X[k].length (k0 + (totalR (X.take k) : Nat)) hr (by omega) (by omega) (by omega)
        have zq : decide (k0 + (totalR (X.take k) : Nat) + (X[k].length : Int) < 0) = false := decide_eq_false (by omega)
        have HSN := Lib.hid hsn
        obtain ⟨a1, cp1, rfl, -⟩ := id hr
        clear hsn hr
        go_wp2_with (fail)
        refine hM.mono ?_
        rintro e w1 ⟨rfl, rfl⟩
        go_wp2_with (fail)
        go_round
        case rel => exact ⟨k + 1, by omega, by go_num, by rw [HSN.out]; congr 1; omega⟩
        case measure => simp [intOf]; omega
      · have ek : k = X.length := by omega
        subst ek
        rw [List.take_of_length_le (Nat.le_refl _)]
        go_wp2_with (fail)
        go_ret
        exact ⟨rfl, rfl⟩
end Go.Proofs.Ytlffkcmbeolohaa
