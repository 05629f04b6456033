/-
  A row of ints of the call's own, that may grow: append of one int, append of a slice. No condition.
-/
import Derived.Test.YtgbdpmaajihfdaaLst
import Derived.Test.YtgbdpmaajihfdaaTrk
import Derived.Lib.AppendIntMem
import Derived.Laws.AppendOwnNone
import Derived.BigQuiet
namespace Go.Proofs.Ytgbdpmaajihfdaa
open Go.RowKit
set_option linter.all false
/-- A row of ints of the call's own, that may grow. -/
def OwnR (w : World) (B : Nat) (v : Value) (xs : List Int) : Prop := w.ownsRow B 3 1 v xs.length (xs.map (Value.int .i64))
theorem OwnR.row {w : World} {B : Nat} {v : Value} {xs : List Int} (h : OwnR w B v xs) : w.ownsRow B 3 1 v xs.length (xs.map (Value.int .i64)) := h
theorem OwnR.keep {w w' : World} {B C : Nat} {v : Value} {xs : List Int} (h : OwnR w B v xs) (hb : Below C w w') (hC : w.heap.size ≤ C) : OwnR w' B v xs :=
  World.ownsRow.kept h (row := none) ⟨hb.os, hb.tape, hb.output, hb.size, fun k hk _ => hb.block k (by omega)⟩ (by cases v.ownBlock <;> simp)
theorem OwnR.made (w : World) (cur : Array Value) (B : Nat) (hB : B ≤ w.heap.size) (hm : cur.size ≤ maxLen) : OwnR (w.alloc (.cells cur 3)) B (.slice (some ⟨w.heap.size, 0, none⟩) 0 cur.size) [] :=
  World.ownsRow_made w cur cur.size hB hm (by simp)
theorem OwnR.own {w : World} {B : Nat} {v : Value} {xs : List Int} (h : OwnR w B v xs) : OwnI w B v xs := by
  obtain ⟨h1, h2⟩ := h
  rcases h2 with ⟨rfl, h0⟩ | ⟨g, cap, cur, rfl, hB, hg, hn, hc, hsz, htk⟩
  · have : xs = [] := List.eq_nil_of_length_eq_zero h0
    subst this
    exact ⟨none, 0, rfl, .inl rfl⟩
  · refine ⟨_, cap, rfl, .inr ⟨g, hB, rfl, fun j hj => ?_, fun j hj => ?_⟩⟩
    · rw [cell_of_row w g j cur _ (0, 0) hg]
      have hjc : (xs.map (Value.int .i64))[j]? = some (.int .i64 xs[j]) := by simp [hj]
      rw [← htk, List.getElem?_take] at hjc
      split at hjc
      · simpa using hjc
      · cases hjc
    · simp [World.frozen?, hg]
theorem int_one (n : Int) : ∀ u ∈ [Value.int .i64 n], u.oneCell' = true := by intro u hu; simp at hu; subst hu; rfl
theorem one_cell_int (W : World) (v : Value) (t : TypeId) : ∀ j u, [v][j]? = some u → (W.alloc (.cells #[v] t)).cell? ((⟨W.heap.size, 0, none⟩ : Addr).add j) = some u := by
  intro j u hj
  match j, hj with
  | 0, hj =>
    simp at hj; subst hj
    rw [show (⟨W.heap.size, 0, none⟩ : Addr).add 0 = ⟨W.heap.size, 0, none⟩ by simp [Addr.add]]
    exact World.cell?_alloc_mark W #[v] t (0, 0) 0
/-- 'append(v, n)' of one int, as the walk meets it. -/
theorem app_int {ops : Array Oper} {rest : List Oper} {o : Oper} {a : Act} {Q : Exit → Act → World → Prop} {W : World} (hgd : o.guard = none) (s x : Operand)
    (ho : o.op = .call { callee := .builtin .append, args := #[s, x], argTypes := #[27, 27] })
    (B : Nat) (v : Value) (xs : List Int) (hs : a.eval s = v) (hown : OwnR W B v xs) (n : Int) (hx : a.eval x = .slice (some ⟨W.heap.size, 0, none⟩) 1 1)
    (hlen : xs.length + 1 ≤ 17592186044416) (hbase : B ≤ W.heap.size)
    (h : ∀ v' w', OwnR w' B v' (xs ++ [n]) → Below B W w' → wpList Try.prog ops Q rest (a.put o.dst v') w') : wpList Try.prog ops Q (o :: rest) a (W.alloc (.cells #[.int .i64 n] 3)) := by
  obtain ⟨i0, hi, hz0, hz1, hz2⟩ := info_parts info_int
  have hown2 : (W.alloc (.cells #[.int .i64 n] 3)).ownsRow B 3 1 v xs.length (xs.map (Value.int .i64)) := World.ownsRow.alloc hown _
  refine wpList_append_own _ hgd s x 27 ho B 3 i0 (.int .i64 0) 1 8 Try.underlying27 hi hz0 hz1 hz2 rfl (by decide) v xs.length (xs.map (Value.int .i64)) hs hown2 ⟨W.heap.size, 0, none⟩ 1 1 [.int .i64 n] hx rfl (one_cell_int _ _ _) (int_one _) (by unfold maxLen; omega) (by omega) (by simp; omega) ?_
  intro v' w' hown' hgrow _
  refine h v' w' ?_ ?_
  · unfold OwnR; rw [List.length_append, List.map_append]; exact hown'
  · exact ((Below.refl B W).alloc hbase _).grown hgrow (by simp; omega) fun k hk => (hown2.lt k hk).1


theorem run_append_none {P : Program} {w : World} (base : Nat) (t ty e : TypeId) (i : TypeInfo) (size : Nat) (ht : P.underlying t = some (.slice e)) (hi : P.info? e = some i)
    (v : Value) (n : Nat) (xs : List Value) (hown : w.ownsRow base e size v n xs) (c : Nat) :
    (Builtin.append_ #[t, t] ty #[v, .slice none 0 c]).run P w = .ok v w := by
  rcases hown.2 with ⟨rfl, rfl⟩ | ⟨g, cap, cur, rfl, _, _, hnc, _⟩
  · simp [Builtin.append_, run_underlying ht, sizeOf, typeInfo, hi, Builtin.lenOf, Builtin.firstCells]
  · simp [Builtin.append_, run_underlying ht, sizeOf, typeInfo, hi, Builtin.lenOf, Builtin.firstCells, hnc, storeCells]
theorem wp_append_none {P : Program} {w : World} {ops : Array Oper} {rest : List Oper} {o : Oper} {a : Act} {Q : Exit → Act → World → Prop} (hgd : o.guard = none) (s x : Operand) (t : TypeId)
    (ho : o.op = .call { callee := .builtin .append, args := #[s, x], argTypes := #[t, t] })
    (base : Nat) (e : TypeId) (i : TypeInfo) (size : Nat) (ht : P.underlying t = some (.slice e)) (hi : P.info? e = some i)
    (v : Value) (n : Nat) (xs : List Value) (hs : a.eval s = v) (hown : w.ownsRow base e size v n xs) (c : Nat) (hx : a.eval x = .slice none 0 c)
    (h : wpList P ops Q rest (a.put o.dst v) w) : wpList P ops Q (o :: rest) a w := by
  refine wpList_plain hgd fun K hK => ?_
  have hrun := run_append_none (P := P) (w := w) base t o.type e i size ht hi v n xs hown c
  unfold Oper.wp
  simp [execOp, ho, resolve, invoke, builtin, hs, hx, hrun, Result.andThen]
  exact hK _ _ h
/-- 'append(v, u...)' of a slice that reads as ys, as the walk meets it. -/
theorem app_ints {ops : Array Oper} {rest : List Oper} {o : Oper} {a : Act} {Q : Exit → Act → World → Prop} {W : World} (hgd : o.guard = none) (s x : Operand)
    (ho : o.op = .call { callee := .builtin .append, args := #[s, x], argTypes := #[27, 27] })
    (B : Nat) (v : Value) (xs : List Int) (hs : a.eval s = v) (hown : OwnR W B v xs) (u : Value) (ys : List Int) (hx : a.eval x = u) (hr : RdI W u ys)
    (hlen : xs.length + ys.length ≤ 17592186044416) (hbase : B ≤ W.heap.size)
    (h : ∀ v' w', OwnR w' B v' (xs ++ ys) → Below B W w' → wpList Try.prog ops Q rest (a.put o.dst v') w') : wpList Try.prog ops Q (o :: rest) a W := by
  obtain ⟨i0, hi, hz0, hz1, hz2⟩ := info_parts info_int
  obtain ⟨ad, cap, rfl, hr⟩ := hr
  have key : ∀ (ad : Addr), (∀ j u, (ys.map (Value.int .i64))[j]? = some u → W.cell? (ad.add j) = some u) → a.eval x = .slice (some ad) ys.length cap → wpList Try.prog ops Q (o :: rest) a W := by
    intro ad hc hx
    refine wpList_append_own _ hgd s x 27 ho B 3 i0 (.int .i64 0) 1 8 Try.underlying27 hi hz0 hz1 hz2 rfl (by decide) v xs.length (xs.map (Value.int .i64)) hs hown ad ys.length cap (ys.map (Value.int .i64)) hx (by simp) hc (by intro u hu; obtain ⟨n, -, rfl⟩ := List.mem_map.1 hu; rfl) (by unfold maxLen; omega) (by omega) hbase ?_
    intro v' w' hown' hgrow _
    refine h v' w' ?_ ((Below.refl B W).grown hgrow hbase fun k hk => (hown.lt k hk).1)
    unfold OwnR; rw [List.length_append, List.map_append]; exact hown'
  rcases hr with rfl | ⟨b, off, rfl, hc⟩
  · cases ad with
    | none =>
      exact wp_append_none hgd s x 27 ho B 3 i0 1 Try.underlying27 hi v xs.length (xs.map (Value.int .i64)) hs hown cap hx (h v W (by simpa using hown) (Below.refl _ _))
    | some ad => exact key ad (by simp) hx
  · refine key _ (fun j u hj => ?_) hx
    rw [List.getElem?_map, Option.map_eq_some_iff] at hj
    obtain ⟨n, hn, rfl⟩ := hj
    obtain ⟨hj, rfl⟩ := List.getElem?_eq_some_iff.1 hn
    rw [Addr.add_lit]; exact hc j hj
theorem run_make_cap (W : World) (n : Nat) (hn : n ≤ 1099511627776) : (Instr.makeSlice 27 (.int .i64 0) (.int .i64 (n : Int))).run Try.prog W = .ok (.slice (some ⟨W.heap.size, 0, none⟩) 0 n) (W.alloc (.cells (madeCells #[.int .i64 0] n) 3)) := by
  obtain ⟨i0, hi, hz0, hz1, hz2⟩ := info_parts info_int
  have := run_make (P := Try.prog) W 27 3 i0 (.int .i64 0) Try.underlying27 hi hz0 .i64 .i64 0 n (by omega) (by omega) (by rw [hz2]; omega) (by omega)
  rw [this, hz1, Nat.mul_one, Int.toNat_natCast]; rfl
theorem OwnR.capped (w : World) (n : Nat) (hn : n ≤ 1099511627776) : OwnR (w.alloc (.cells (madeCells #[.int .i64 0] n) 3)) w.heap.size (.slice (some ⟨w.heap.size, 0, none⟩) 0 n) [] := by
  have hsz : (madeCells #[Value.int .i64 0] n).size = n := by simp [madeCells]
  have := OwnR.made w (madeCells #[.int .i64 0] n) w.heap.size (Nat.le_refl _) (by rw [hsz]; unfold maxLen; omega)
  rwa [hsz] at this
end Go.Proofs.Ytgbdpmaajihfdaa
