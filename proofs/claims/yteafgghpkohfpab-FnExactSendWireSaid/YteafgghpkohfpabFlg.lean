/-
  Rows of flights that grow: append of a slice, of one flight; slices.Clone. Lists of at most 2^20.
-/
import Derived.Test.YteafgghpkohfpabFls
import Derived.Test.YteafgghpkohfpabAppI
import Derived.Lib.SliceRun
import Derived.Laws.AppendOwn
namespace Go.Proofs.Yteafgghpkohfpab
open Go.RowKit
set_option linter.all false
/-- A row of the call's own, that may grow. -/
def GrowFl (w : World) (B : Nat) (v : Value) (X : List Fl) : Prop := w.ownsRow B 101 2 v X.length (X.map flL).flatten
theorem flatFl : ∀ l : List Fl, (l.map flL).flatten.length = l.length * 2
  | [] => rfl
  | b :: r => by rw [List.map_cons, List.flatten_cons, List.length_append, flatFl r, flL_len, List.length_cons]; omega
theorem flatFl_at : ∀ (l : List Fl) (j i : Nat) (hj : j < l.length) (hi : i < 2), (l.map flL).flatten[j * 2 + i]? = some ((flL l[j])[i]'(by rw [flL_len]; exact hi))
  | [], _, _, hj, _ => by simp at hj
  | b :: r, 0, i, _, hi => by
    rw [List.map_cons, List.flatten_cons, List.getElem?_append_left (by rw [flL_len]; omega)]
    rw [show 0 * 2 + i = i by omega, List.getElem?_eq_getElem (by rw [flL_len]; exact hi)]
    rfl
  | b :: r, j + 1, i, hj, hi => by
    rw [List.map_cons, List.flatten_cons, List.getElem?_append_right (by rw [flL_len]; omega), flL_len]
    rw [show (j + 1) * 2 + i - 2 = j * 2 + i by omega]
    have := flatFl_at r j i (by simpa using hj) hi
    rw [this]
    rfl
theorem flatFl_one (l : List Fl) : ∀ u ∈ (l.map flL).flatten, u.oneCell' = true := by
  intro u hu
  rw [List.mem_flatten] at hu
  obtain ⟨c, hc, hu⟩ := hu
  obtain ⟨q, -, rfl⟩ := List.mem_map.1 hc
  exact flL_one q u hu
theorem GrowFl.nil (w : World) (B : Nat) : GrowFl w B (.slice none 0 0) [] := World.ownsRow_nil w B _ 2
theorem GrowFl.made0 (w : World) (B : Nat) (hB : B ≤ w.heap.size) : GrowFl (w.alloc (.cells #[] 101)) B (.slice (some ⟨w.heap.size, 0, none⟩) 0 0) [] :=
  World.ownsRow_made w #[] 0 hB (by unfold maxLen; decide) (by simp)
theorem GrowFl.keep {w w' : World} {B C : Nat} {v : Value} {X : List Fl} (h : GrowFl w B v X) (hb : Below C w w') (hC : w.heap.size ≤ C) : GrowFl w' B v X :=
  World.ownsRow.kept h (row := none) ⟨hb.os, hb.tape, hb.output, hb.size, fun k hk _ => hb.block k (by omega)⟩ (by cases v.ownBlock <;> simp)
theorem GrowFl.capd {w : World} {B : Nat} {v : Value} {X : List Fl} (h : GrowFl w B v X) : CapI v := by
  rcases h.2 with ⟨rfl, h0⟩ | ⟨g, cap, cur, rfl, hB, hg, hn, hc, -⟩
  · exact ⟨_, _, _, rfl, Nat.le_refl _⟩
  · exact ⟨_, _, _, rfl, hn⟩
theorem GrowFl.own {w : World} {B : Nat} {v : Value} {X : List Fl} (h : GrowFl w B v X) : OwnFl w B v X := by
  obtain ⟨h1, h2⟩ := h
  rcases h2 with ⟨rfl, h0⟩ | ⟨g, cap, cur, rfl, hB, hg, hn, hc, hsz, htk⟩
  · have : X = [] := List.eq_nil_of_length_eq_zero h0
    subst this
    exact ⟨none, 0, rfl, .inl rfl⟩
  · have hcell : ∀ j (hj : j < X.length) i (hi : i < 2), w.cell? ⟨g, j * 2 + i, none⟩ = some ((flL X[j])[i]'(by rw [flL_len]; exact hi)) := by
      intro j hj i hi
      rw [cell_of_row w g (j * 2 + i) cur _ (0, 0) hg]
      have h3 := flatFl_at X j i hj hi
      rw [← htk, List.getElem?_take, if_pos (by omega)] at h3
      simpa using h3
    refine ⟨_, cap, rfl, .inr ⟨g, hB, rfl, fun j hj => ⟨fun i v hv => ?_, fun i hi => ?_⟩⟩⟩
    · obtain ⟨hi, hv'⟩ := List.getElem?_eq_some_iff.1 hv
      rw [flL_len] at hi
      rw [hcell j hj i hi, hv']
    · exact ⟨by rw [hcell j hj i hi]; rfl, by simp [World.frozen?, hg]⟩
theorem cells_of_rdFl {W : World} {b off : Nat} {Y : List Fl} (hc : ∀ j (h : j < Y.length), W.rangeAt b (off + j * 2) (flL Y[j])) : ∀ j u, (Y.map flL).flatten[j]? = some u → W.cell? ((⟨b, off, none⟩ : Addr).add j) = some u := by
  intro j u hj
  have hjl := (List.getElem?_eq_some_iff.1 hj).1
  rw [flatFl] at hjl
  have h3 := flatFl_at Y (j / 2) (j % 2) (by omega) (by omega)
  rw [show j / 2 * 2 + j % 2 = j by omega, hj] at h3
  rw [Addr.add_lit, show off + j = off + j / 2 * 2 + j % 2 by omega, h3]
  exact hc (j / 2) (by omega) (j % 2) _ (List.getElem?_eq_getElem _)
/-- 'append(v, u...)' of a slice that reads as Y, as the walk meets it. -/
theorem app_Fls {ops : Array Oper} {rest : List Oper} {o : Oper} {a : Act} {Q : Exit → Act → World → Prop} {W : World} (hgd : o.guard = none) (s x : Operand)
    (ho : o.op = .call { callee := .builtin .append, args := #[s, x], argTypes := #[50, 50] })
    (B : Nat) (v : Value) (X : List Fl) (hs : a.eval s = v) (hown : GrowFl W B v X) (u : Value) (Y : List Fl) (hx : a.eval x = u) (hr : RdFl W u Y)
    (hlen : X.length + Y.length ≤ 4194304) (hbase : B ≤ W.heap.size)
    (h : ∀ v' w', GrowFl w' B v' (X ++ Y) → Below B W w' → wpList Try.prog ops Q rest (a.put o.dst v') w') : wpList Try.prog ops Q (o :: rest) a W := by
  obtain ⟨i0, hi, hz0, hz1, hz2⟩ := info_parts info_FlightS
  obtain ⟨ad, cap, rfl, hr⟩ := hr
  have key : ∀ (ad : Addr), (∀ j u, (Y.map flL).flatten[j]? = some u → W.cell? (ad.add j) = some u) → a.eval x = .slice (some ad) Y.length cap → wpList Try.prog ops Q (o :: rest) a W := by
    intro ad hc hx
    refine wpList_append_own _ hgd s x 50 ho B 101 i0 (.agg zFl) 2 24 Try.underlying50 hi hz0 hz1 hz2 (by rfl) (by decide) v X.length (X.map flL).flatten hs hown ad Y.length cap (Y.map flL).flatten hx (flatFl Y) hc (flatFl_one Y) (by unfold maxLen; omega) (by omega) hbase ?_
    intro v' w' hown' hgrow _
    refine h v' w' ?_ ((Below.refl B W).grown hgrow hbase fun k hk => (World.ownsRow.lt hown k hk).1)
    unfold GrowFl; rw [List.length_append, List.map_append, List.flatten_append]; exact hown'
  rcases hr with rfl | ⟨b, off, rfl, hc⟩
  · cases ad with
    | none =>
      exact wp_append_none hgd s x 50 ho B 101 i0 2 Try.underlying50 hi v X.length (X.map flL).flatten hs hown cap hx (h v W (by simpa using hown) (Below.refl _ _))
    | some ad => exact key ad (by simp) hx
  · exact key _ (cells_of_rdFl hc) hx
/-- 'append(v, q)' of one, as the walk meets it. -/
theorem app_Fl {ops : Array Oper} {rest : List Oper} {o : Oper} {a : Act} {Q : Exit → Act → World → Prop} {W : World} (hgd : o.guard = none) (s x : Operand)
    (ho : o.op = .call { callee := .builtin .append, args := #[s, x], argTypes := #[50, 50] })
    (B : Nat) (v : Value) (X : List Fl) (hs : a.eval s = v) (hown : GrowFl W B v X) (q : Fl) (hx : a.eval x = .slice (some ⟨W.heap.size, 0, none⟩) 1 1)
    (hlen : X.length + 1 ≤ 4194304) (hbase : B ≤ W.heap.size)
    (h : ∀ v' w', GrowFl w' B v' (X ++ [q]) → Below B W w' → wpList Try.prog ops Q rest (a.put o.dst v') w') : wpList Try.prog ops Q (o :: rest) a (W.alloc (.cells #[.int .i64 q.at0, .string ⟨q.data.toArray⟩] 101)) := by
  have hr : RdFl (W.alloc (.cells #[.int .i64 q.at0, .string ⟨q.data.toArray⟩] 101)) (.slice (some ⟨W.heap.size, 0, none⟩) 1 1) [q] := by
    refine ⟨some ⟨W.heap.size, 0, none⟩, 1, rfl, .inr ⟨W.heap.size, 0, rfl, fun j hj i v hv => ?_⟩⟩
    have hj0 : j = 0 := by simpa using hj
    subst hj0
    rw [World.cell?_alloc_mark]
    have : (flL q)[i]? = some v := hv
    simpa [flL] using this
  refine app_Fls hgd s x ho B v X hs (hown.keep ((Below.refl _ _).alloc (Nat.le_refl _) _) (Nat.le_refl _)) _ [q] hx hr (by simpa using hlen) (by simp; omega) fun v' w' h1 h2 => h v' w' h1 (((Below.refl B W).alloc hbase _).trans h2)
/-- 'append(v, q)' of one inside a region that draws. -/
theorem step_Fl {ops : Array Oper} {o : Oper} {a : Act} {W : World} {K : Act → World → Prop} {Q : Exit → Act → World → Prop} {E : Prop} (hgd : o.guard = none) (s x : Operand)
    (ho : o.op = .call { callee := .builtin .append, args := #[s, x], argTypes := #[50, 50] })
    (B : Nat) (v : Value) (X : List Fl) (hs : a.eval s = v) (hown : GrowFl W B v X) (ad : Nat) (b : Fl) (hx : a.eval x = .slice (some ⟨ad, 0, none⟩) 1 1)
    (hc0 : W.rangeAt ad 0 (flL b)) (hlen : X.length + 1 ≤ 1048576) (hbase : B ≤ W.heap.size)
    (h : ∀ v' w', GrowFl w' B v' (X ++ [b]) → Below B W w' → W.grownBy w' v.ownBlock → K (a.put o.dst v') w') : if Region.wanted o (yielded ops a.tmps) = true then Oper.wp Try.prog o a W K Q else E := by
  obtain ⟨i0, hi, hz0, hz1, hz2⟩ := info_parts info_FlightS
  have hcell : ∀ j u, (flL b)[j]? = some u → W.cell? ((⟨ad, 0, none⟩ : Addr).add j) = some u := by
    intro j u hj
    rw [Addr.add_lit]
    exact hc0 j u hj
  rw [if_pos (by simp [Region.wanted, hgd])]
  refine wp_append_own W s x 50 ho B 101 i0 (.agg zFl) 2 24 Try.underlying50 hi hz0 hz1 hz2 (by rfl) (by decide) v X.length (X.map flL).flatten hs hown ⟨ad, 0, none⟩ 1 1 (flL b) hx (by rfl) hcell (flL_one b) (by unfold maxLen; omega) (by omega) hbase ?_
  intro v' w' hown' hgrow _
  refine h v' w' ?_ ?_ hgrow
  · unfold GrowFl; rw [List.length_append, List.map_append, List.flatten_append]; simpa using hown'
  · exact (Below.refl B W).grown hgrow hbase fun k hk => (World.ownsRow.lt hown k hk).1
set_option maxHeartbeats 1000000 in
theorem cloneFl_any {w : World} {v : Value} {X : List Fl} (h : RdFl w v X) (hn : X.length ≤ 1048576) :
    Calls Try.prog 85 #[v] w fun e w' => ∃ u, e = .returned u ∧ GrowFl w' w.heap.size u X ∧ Below w.heap.size w w' := by
  obtain ⟨a, cap, rfl, h0⟩ := id h
  have q : ∀ (w : World) (a : Option Addr) (n c n' c' : Nat), (binOp .eql 50 (.slice a n c) (.slice none n' c')).run Try.prog w = .ok (.bool a.isNone) w := fun w a n c n' c' => Lib.run_eql_slice_nil w _ _ a n c n' c' Try.underlying50
  cases a with
  | none =>
    have hx : X = [] := by
      rcases h0 with h0 | ⟨b, off, h0, -⟩
      · exact h0
      · cases h0
    subst hx
    go_enter Try.func85, Try.ntmps85
    go_wp2_with (fail)
    go_ret
    exact ⟨_, rfl, GrowFl.nil _ _, Below.refl _ _⟩
  | some ad =>
    have hk := h.keep (below1 w (.cells #[] 101))
    have ho := GrowFl.made0 w w.heap.size (Nat.le_refl _)
    clear h h0
    go_enter Try.func85, Try.ntmps85
    go_wp2_with (at_builtin; refine app_Fls rfl _ _ rfl w.heap.size _ [] rfl ho _ X rfl hk (by simp; omega) (by simp) ?_; intro v' w1 hown' hb1)
    go_ret
    exact ⟨_, rfl, by simpa using hown', (below1 w _).trans (hb1.mono (by simp))⟩
end Go.Proofs.Yteafgghpkohfpab
