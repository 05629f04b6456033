/-
  Rows of packets as they lie (the two slices of each as values): read, owned, grown.
-/
import Derived.Test.YtbjbamcpfjlllabFls
import Derived.Test.YtbjbamcpfjlllabPk
import Derived.Test.YtbjbamcpfjlllabAppI
import Derived.Lib.SliceRun
import Derived.Laws.AppendOwn
namespace Go.Proofs.Ytbjbamcpfjlllab
open Go.RowKit
set_option linter.all false
structure Pv where
  fr : Int
  tick : Int
  first : Int
  ins : Option Addr
  insN : Nat
  insC : Nat
  acks : Option Addr
  acksN : Nat
  acksC : Nat
  sumTick : Int
  sum : Int
  time : Int
  echo : Int
instance : Inhabited Pv := ⟨⟨0, 0, 0, none, 0, 0, none, 0, 0, 0, 0, 0, 0⟩⟩
/-- The cells, as a list. -/
def pvL (q : Pv) : List Value := [.int .i64 q.fr, .int .i64 q.tick, .int .i64 q.first, .slice q.ins q.insN q.insC, .slice q.acks q.acksN q.acksC, .int .i64 q.sumTick, .int .i64 q.sum, .int .i64 q.time, .int .i64 q.echo]
theorem pvL_len (q : Pv) : (pvL q).length = 9 := rfl
theorem pvL_one (q : Pv) : ∀ v ∈ pvL q, v.oneCell' = true := by intro v hv; simp [pvL] at hv; rcases hv with rfl | rfl | rfl | rfl | rfl | rfl | rfl | rfl | rfl <;> rfl
theorem rangePv {w : World} {b o : Nat} {q : Pv} (h : w.rangeAt b o (pvL q)) : b < w.heap.size := World.block_lt_of_cell? w _ (h 0 _ rfl)
/-- The slice v reads as the list X. -/
def RdPv (w : World) (v : Value) (X : List Pv) : Prop :=
  ∃ a cap, v = .slice a X.length cap ∧ (X = [] ∨ ∃ b off, a = some ⟨b, off, none⟩ ∧ ∀ j (h : j < X.length), w.rangeAt b (off + j * 9) (pvL X[j]))
/-- Block g holds the list X, and it may be written. -/
def RowPv (w : World) (g : Nat) (X : List Pv) : Prop := ∀ j (h : j < X.length), w.rangeAt g (j * 9) (pvL X[j]) ∧ w.there g (j * 9) 9
/-- The slice v is the call's own, among blocks from B on, and holds the list X. -/
def OwnPv (w : World) (B : Nat) (v : Value) (X : List Pv) : Prop :=
  ∃ a cap, v = .slice a X.length cap ∧ (X = [] ∨ ∃ g, B ≤ g ∧ a = some ⟨g, 0, none⟩ ∧ RowPv w g X)
theorem OwnPv.rd {w : World} {B : Nat} {v : Value} {X : List Pv} (h : OwnPv w B v X) : RdPv w v X := by
  obtain ⟨a, cap, hv, h⟩ := h
  refine ⟨a, cap, hv, ?_⟩
  rcases h with h | ⟨g, hB, ha, hr⟩
  · exact .inl h
  · exact .inr ⟨g, 0, ha, fun j hj => by rw [Nat.zero_add]; exact (hr j hj).1⟩
theorem RdPv.keep {w w' : World} {v : Value} {X : List Pv} (h : RdPv w v X) (hb : Below w.heap.size w w') : RdPv w' v X := by
  obtain ⟨a, cap, hv, h⟩ := h
  refine ⟨a, cap, hv, ?_⟩
  rcases h with h | ⟨b, off, ha, hr⟩
  · exact .inl h
  · exact .inr ⟨b, off, ha, fun j hj => rangeKeep (hr j hj) hb (rangePv (hr j hj))⟩
theorem RowPv.lt {w : World} {g : Nat} {X : List Pv} (h : RowPv w g X) (hx : X ≠ []) : g < w.heap.size := rangePv (h 0 (List.length_pos_iff.2 hx)).1
theorem RowPv.keep {w w' : World} {g : Nat} {X : List Pv} (h : RowPv w g X) {C : Nat} (hb : Below C w w') (hC : g < C) : RowPv w' g X :=
  fun j hj => ⟨rangeKeep (h j hj).1 hb hC, thereKeep (h j hj).2 hb hC⟩
theorem OwnPv.keep {w w' : World} {B : Nat} {v : Value} {X : List Pv} (h : OwnPv w B v X) (hb : Below w.heap.size w w') : OwnPv w' B v X := by
  obtain ⟨a, cap, hv, h⟩ := h
  refine ⟨a, cap, hv, ?_⟩
  by_cases hx : X = []
  · exact .inl hx
  · obtain ⟨g, hB, ha, hr⟩ := h.resolve_left hx
    exact .inr ⟨g, hB, ha, hr.keep hb (hr.lt hx)⟩
theorem OwnPv.up {w : World} {B C : Nat} {v : Value} {X : List Pv} (h : OwnPv w B v X) (hC : C ≤ B) : OwnPv w C v X := by
  obtain ⟨a, cap, hv, h⟩ := h
  refine ⟨a, cap, hv, ?_⟩
  rcases h with h | ⟨g, hB, ha, hr⟩
  · exact .inl h
  · exact .inr ⟨g, by omega, ha, hr⟩
theorem RowPv.far {w : World} {g : Nat} {X : List Pv} (h : RowPv w g X) {p : Addr} (hp : p.block ≠ g) (u : Value) : RowPv (w.setCell p u) g X :=
  fun j hj => ⟨rangeFar (h j hj).1 hp u, thereFar (h j hj).2 hp u⟩
theorem OwnPv.far {w : World} {B : Nat} {v : Value} {X : List Pv} (h : OwnPv w B v X) {p : Addr} (hp : p.block < B) (u : Value) : OwnPv (w.setCell p u) B v X := by
  obtain ⟨a, cap, hv, h⟩ := h
  refine ⟨a, cap, hv, ?_⟩
  rcases h with h | ⟨b, hB, ha, hr⟩
  · exact .inl h
  · exact .inr ⟨b, hB, ha, hr.far (by omega) u⟩
/-- A whole element is stored. -/
theorem RowPv.put {w : World} {g : Nat} {X : List Pv} (h : RowPv w g X) (k : Nat) (hk : k < X.length) (b : Pv) : RowPv (w.setCells g (k * 9) (pvL b)) g (X.set k b) := by
  intro j hj0
  have hj : j < X.length := by rw [List.length_set] at hj0; exact hj0
  refine ⟨?_, World.there_setCells (h j hj).2 _ _ _⟩
  by_cases e : k = j
  · subst e
    rw [List.getElem_set_self]
    exact World.rangeAt_setCells_same _ _ _ _ (h k hk).2
  · rw [List.getElem_set_ne e]
    exact World.rangeAt_setCells_apart (h j hj).1 _ _ _ (by rw [pvL_len, pvL_len]; omega)
def zPv : Array Value := #[.int .i64 0, .int .i64 0, .int .i64 0, .slice none 0 0, .slice none 0 0, .int .i64 0, .int .i64 0, .int .i64 0, .int .i64 0]
def nilPv : Pv := ⟨0, 0, 0, none, 0, 0, none, 0, 0, 0, 0, 0, 0⟩
theorem madePv (m : Nat) {j i : Nat} (h : j < m) {v : Value} (hv : (pvL nilPv)[i]? = some v) : (madeCells zPv (m * 9))[j * 9 + i]? = some v := by
  obtain ⟨hi, e⟩ := List.getElem?_eq_some_iff.1 hv
  rw [pvL_len] at hi
  rw [← e]
  unfold madeCells
  rw [Array.getElem?_map, Array.getElem?_range]
  rw [if_pos (by omega), Option.map_some]
  have hm : (j * 9 + i) % zPv.size = i := by
    show (j * 9 + i) % 9 = i
    omega
  rw [hm]
  match i, hi with
  | 0, _ => rfl
  | 1, _ => rfl
  | 2, _ => rfl
  | 3, _ => rfl
  | 4, _ => rfl
  | 5, _ => rfl
  | 6, _ => rfl
  | 7, _ => rfl
  | 8, _ => rfl
theorem RowPv.zeros (w : World) (n : Nat) (t : TypeId) : RowPv (w.alloc (.cells (madeCells zPv (n * 9)) t)) w.heap.size (List.replicate n nilPv) := by
  intro j hj
  rw [List.length_replicate] at hj
  refine ⟨fun i v hv => ?_, fun i hi => ?_⟩
  · rw [List.getElem_replicate] at hv
    rw [World.cell?_alloc_mark, madePv _ hj hv]
  · have hv : (pvL nilPv)[i]? = some ((pvL nilPv)[i]'(by rw [pvL_len]; exact hi)) := List.getElem?_eq_getElem _
    rw [World.cell?_alloc_mark, madePv _ hj hv, World.frozen?_alloc_mark]
    exact ⟨rfl, by simp⟩
theorem cellsPv {w : World} {b o : Nat} {x : Pv} (h : w.rangeAt b o (pvL x)) : w.cell? ⟨b, o, none⟩ = some (.int .i64 x.fr) ∧ w.cell? ⟨b, o + 1, none⟩ = some (.int .i64 x.tick) ∧ w.cell? ⟨b, o + 2, none⟩ = some (.int .i64 x.first) ∧ w.cell? ⟨b, o + 3, none⟩ = some (.slice x.ins x.insN x.insC) ∧ w.cell? ⟨b, o + 4, none⟩ = some (.slice x.acks x.acksN x.acksC) ∧ w.cell? ⟨b, o + 5, none⟩ = some (.int .i64 x.sumTick) ∧ w.cell? ⟨b, o + 6, none⟩ = some (.int .i64 x.sum) ∧ w.cell? ⟨b, o + 7, none⟩ = some (.int .i64 x.time) ∧ w.cell? ⟨b, o + 8, none⟩ = some (.int .i64 x.echo) :=
  ⟨h 0 _ rfl, h 1 _ rfl, h 2 _ rfl, h 3 _ rfl, h 4 _ rfl, h 5 _ rfl, h 6 _ rfl, h 7 _ rfl, h 8 _ rfl⟩
theorem freePv {w : World} {b o : Nat} (h : w.there b o 9) : w.frozen? ⟨b, o, none⟩ = false ∧ w.frozen? ⟨b, o + 1, none⟩ = false ∧ w.frozen? ⟨b, o + 2, none⟩ = false ∧ w.frozen? ⟨b, o + 3, none⟩ = false ∧ w.frozen? ⟨b, o + 4, none⟩ = false ∧ w.frozen? ⟨b, o + 5, none⟩ = false ∧ w.frozen? ⟨b, o + 6, none⟩ = false ∧ w.frozen? ⟨b, o + 7, none⟩ = false ∧ w.frozen? ⟨b, o + 8, none⟩ = false :=
  ⟨(h 0 (by omega)).2, (h 1 (by omega)).2, (h 2 (by omega)).2, (h 3 (by omega)).2, (h 4 (by omega)).2, (h 5 (by omega)).2, (h 6 (by omega)).2, (h 7 (by omega)).2, (h 8 (by omega)).2⟩
theorem putPv (w : World) (g o : Nat) (x : Pv) : ((((((((w.setCell ⟨g, o, none⟩ (.int .i64 x.fr)).setCell ⟨g, o + 1, none⟩ (.int .i64 x.tick)).setCell ⟨g, o + 2, none⟩ (.int .i64 x.first)).setCell ⟨g, o + 3, none⟩ (.slice x.ins x.insN x.insC)).setCell ⟨g, o + 4, none⟩ (.slice x.acks x.acksN x.acksC)).setCell ⟨g, o + 5, none⟩ (.int .i64 x.sumTick)).setCell ⟨g, o + 6, none⟩ (.int .i64 x.sum)).setCell ⟨g, o + 7, none⟩ (.int .i64 x.time)).setCell ⟨g, o + 8, none⟩ (.int .i64 x.echo) = w.setCells g o (pvL x) := rfl
def RetPvs (w : World) (X : List Pv) (e : Ending) (w' : World) : Prop := ∃ v, e = .returned v ∧ OwnPv w' w.heap.size v X ∧ CapI v ∧ Below w.heap.size w w'
theorem info_PacketS : (Try.prog.info? 31).map (fun i => (i.zero, i.size, i.bytes)) = some (some (.agg zPv), 9, 104) := by kernel_rfl
/-- A row of the call's own, that may grow. -/
def GrowPv (w : World) (B : Nat) (v : Value) (X : List Pv) : Prop := w.ownsRow B 31 9 v X.length (X.map pvL).flatten
theorem flatPv : ∀ l : List Pv, (l.map pvL).flatten.length = l.length * 9
  | [] => rfl
  | b :: r => by rw [List.map_cons, List.flatten_cons, List.length_append, flatPv r, pvL_len, List.length_cons]; omega
theorem flatPv_at : ∀ (l : List Pv) (j i : Nat) (hj : j < l.length) (hi : i < 9), (l.map pvL).flatten[j * 9 + i]? = some ((pvL l[j])[i]'(by rw [pvL_len]; exact hi))
  | [], _, _, hj, _ => by simp at hj
  | b :: r, 0, i, _, hi => by
    rw [List.map_cons, List.flatten_cons, List.getElem?_append_left (by rw [pvL_len]; omega)]
    rw [show 0 * 9 + i = i by omega, List.getElem?_eq_getElem (by rw [pvL_len]; exact hi)]
    rfl
  | b :: r, j + 1, i, hj, hi => by
    rw [List.map_cons, List.flatten_cons, List.getElem?_append_right (by rw [pvL_len]; omega), pvL_len]
    rw [show (j + 1) * 9 + i - 9 = j * 9 + i by omega]
    have := flatPv_at r j i (by simpa using hj) hi
    rw [this]
    rfl
theorem flatPv_one (l : List Pv) : ∀ u ∈ (l.map pvL).flatten, u.oneCell' = true := by
  intro u hu
  rw [List.mem_flatten] at hu
  obtain ⟨c, hc, hu⟩ := hu
  obtain ⟨q, -, rfl⟩ := List.mem_map.1 hc
  exact pvL_one q u hu
theorem GrowPv.nil (w : World) (B : Nat) : GrowPv w B (.slice none 0 0) [] := World.ownsRow_nil w B _ 9
theorem GrowPv.made0 (w : World) (B : Nat) (hB : B ≤ w.heap.size) : GrowPv (w.alloc (.cells #[] 31)) B (.slice (some ⟨w.heap.size, 0, none⟩) 0 0) [] :=
  World.ownsRow_made w #[] 0 hB (by unfold maxLen; decide) (by simp)
theorem GrowPv.keep {w w' : World} {B C : Nat} {v : Value} {X : List Pv} (h : GrowPv w B v X) (hb : Below C w w') (hC : w.heap.size ≤ C) : GrowPv w' B v X :=
  World.ownsRow.kept h (row := none) ⟨hb.os, hb.tape, hb.output, hb.size, fun k hk _ => hb.block k (by omega)⟩ (by cases v.ownBlock <;> simp)
theorem GrowPv.capd {w : World} {B : Nat} {v : Value} {X : List Pv} (h : GrowPv w B v X) : CapI v := by
  rcases h.2 with ⟨rfl, h0⟩ | ⟨g, cap, cur, rfl, hB, hg, hn, hc, -⟩
  · exact ⟨_, _, _, rfl, Nat.le_refl _⟩
  · exact ⟨_, _, _, rfl, hn⟩
theorem GrowPv.own {w : World} {B : Nat} {v : Value} {X : List Pv} (h : GrowPv w B v X) : OwnPv w B v X := by
  obtain ⟨h1, h2⟩ := h
  rcases h2 with ⟨rfl, h0⟩ | ⟨g, cap, cur, rfl, hB, hg, hn, hc, hsz, htk⟩
  · have : X = [] := List.eq_nil_of_length_eq_zero h0
    subst this
    exact ⟨none, 0, rfl, .inl rfl⟩
  · have hcell : ∀ j (hj : j < X.length) i (hi : i < 9), w.cell? ⟨g, j * 9 + i, none⟩ = some ((pvL X[j])[i]'(by rw [pvL_len]; exact hi)) := by
      intro j hj i hi
      rw [cell_of_row w g (j * 9 + i) cur _ (0, 0) hg]
      have h3 := flatPv_at X j i hj hi
      rw [← htk, List.getElem?_take, if_pos (by omega)] at h3
      simpa using h3
    refine ⟨_, cap, rfl, .inr ⟨g, hB, rfl, fun j hj => ⟨fun i v hv => ?_, fun i hi => ?_⟩⟩⟩
    · obtain ⟨hi, hv'⟩ := List.getElem?_eq_some_iff.1 hv
      rw [pvL_len] at hi
      rw [hcell j hj i hi, hv']
    · exact ⟨by rw [hcell j hj i hi]; rfl, by simp [World.frozen?, hg]⟩
theorem cells_of_rdPv {W : World} {b off : Nat} {Y : List Pv} (hc : ∀ j (h : j < Y.length), W.rangeAt b (off + j * 9) (pvL Y[j])) : ∀ j u, (Y.map pvL).flatten[j]? = some u → W.cell? ((⟨b, off, none⟩ : Addr).add j) = some u := by
  intro j u hj
  have hjl := (List.getElem?_eq_some_iff.1 hj).1
  rw [flatPv] at hjl
  have h3 := flatPv_at Y (j / 9) (j % 9) (by omega) (by omega)
  rw [show j / 9 * 9 + j % 9 = j by omega, hj] at h3
  rw [Addr.add_lit, show off + j = off + j / 9 * 9 + j % 9 by omega, h3]
  exact hc (j / 9) (by omega) (j % 9) _ (List.getElem?_eq_getElem _)
/-- 'append(v, u...)' of a slice that reads as Y, as the walk meets it. -/
theorem app_Pvs {ops : Array Oper} {rest : List Oper} {o : Oper} {a : Act} {Q : Exit → Act → World → Prop} {W : World} (hgd : o.guard = none) (s x : Operand)
    (ho : o.op = .call { callee := .builtin .append, args := #[s, x], argTypes := #[27, 27] })
    (B : Nat) (v : Value) (X : List Pv) (hs : a.eval s = v) (hown : GrowPv W B v X) (u : Value) (Y : List Pv) (hx : a.eval x = u) (hr : RdPv W u Y)
    (hlen : X.length + Y.length ≤ 4194304) (hbase : B ≤ W.heap.size)
    (h : ∀ v' w', GrowPv w' B v' (X ++ Y) → Below B W w' → wpList Try.prog ops Q rest (a.put o.dst v') w') : wpList Try.prog ops Q (o :: rest) a W := by
  obtain ⟨i0, hi, hz0, hz1, hz2⟩ := info_parts info_PacketS
  obtain ⟨ad, cap, rfl, hr⟩ := hr
  have key : ∀ (ad : Addr), (∀ j u, (Y.map pvL).flatten[j]? = some u → W.cell? (ad.add j) = some u) → a.eval x = .slice (some ad) Y.length cap → wpList Try.prog ops Q (o :: rest) a W := by
    intro ad hc hx
    refine wpList_append_own _ hgd s x 27 ho B 31 i0 (.agg zPv) 9 104 Try.underlying27 hi hz0 hz1 hz2 (by rfl) (by decide) v X.length (X.map pvL).flatten hs hown ad Y.length cap (Y.map pvL).flatten hx (flatPv Y) hc (flatPv_one Y) (by unfold maxLen; omega) (by omega) hbase ?_
    intro v' w' hown' hgrow _
    refine h v' w' ?_ ((Below.refl B W).grown hgrow hbase fun k hk => (World.ownsRow.lt hown k hk).1)
    unfold GrowPv; rw [List.length_append, List.map_append, List.flatten_append]; exact hown'
  rcases hr with rfl | ⟨b, off, rfl, hc⟩
  · cases ad with
    | none =>
      exact wp_append_none hgd s x 27 ho B 31 i0 9 Try.underlying27 hi v X.length (X.map pvL).flatten hs hown cap hx (h v W (by simpa using hown) (Below.refl _ _))
    | some ad => exact key ad (by simp) hx
  · exact key _ (cells_of_rdPv hc) hx
/-- 'append(v, q)' of one, as the walk meets it. -/
theorem app_Pv {ops : Array Oper} {rest : List Oper} {o : Oper} {a : Act} {Q : Exit → Act → World → Prop} {W : World} (hgd : o.guard = none) (s x : Operand)
    (ho : o.op = .call { callee := .builtin .append, args := #[s, x], argTypes := #[27, 27] })
    (B : Nat) (v : Value) (X : List Pv) (hs : a.eval s = v) (hown : GrowPv W B v X) (q : Pv) (hx : a.eval x = .slice (some ⟨W.heap.size, 0, none⟩) 1 1)
    (hlen : X.length + 1 ≤ 4194304) (hbase : B ≤ W.heap.size)
    (h : ∀ v' w', GrowPv w' B v' (X ++ [q]) → Below B W w' → wpList Try.prog ops Q rest (a.put o.dst v') w') : wpList Try.prog ops Q (o :: rest) a (W.alloc (.cells #[.int .i64 q.fr, .int .i64 q.tick, .int .i64 q.first, .slice q.ins q.insN q.insC, .slice q.acks q.acksN q.acksC, .int .i64 q.sumTick, .int .i64 q.sum, .int .i64 q.time, .int .i64 q.echo] 31)) := by
  have hr : RdPv (W.alloc (.cells #[.int .i64 q.fr, .int .i64 q.tick, .int .i64 q.first, .slice q.ins q.insN q.insC, .slice q.acks q.acksN q.acksC, .int .i64 q.sumTick, .int .i64 q.sum, .int .i64 q.time, .int .i64 q.echo] 31)) (.slice (some ⟨W.heap.size, 0, none⟩) 1 1) [q] := by
    refine ⟨some ⟨W.heap.size, 0, none⟩, 1, rfl, .inr ⟨W.heap.size, 0, rfl, fun j hj i v hv => ?_⟩⟩
    have hj0 : j = 0 := by simpa using hj
    subst hj0
    rw [World.cell?_alloc_mark]
    have : (pvL q)[i]? = some v := hv
    simpa [pvL] using this
  refine app_Pvs hgd s x ho B v X hs (hown.keep ((Below.refl _ _).alloc (Nat.le_refl _) _) (Nat.le_refl _)) _ [q] hx hr (by simpa using hlen) (by simp; omega) fun v' w' h1 h2 => h v' w' h1 (((Below.refl B W).alloc hbase _).trans h2)
/-- 'append(v, q)' of one inside a region that draws. -/
theorem step_Pv {ops : Array Oper} {o : Oper} {a : Act} {W : World} {K : Act → World → Prop} {Q : Exit → Act → World → Prop} {E : Prop} (hgd : o.guard = none) (s x : Operand)
    (ho : o.op = .call { callee := .builtin .append, args := #[s, x], argTypes := #[27, 27] })
    (B : Nat) (v : Value) (X : List Pv) (hs : a.eval s = v) (hown : GrowPv W B v X) (ad : Nat) (b : Pv) (hx : a.eval x = .slice (some ⟨ad, 0, none⟩) 1 1)
    (hc0 : W.rangeAt ad 0 (pvL b)) (hlen : X.length + 1 ≤ 1048576) (hbase : B ≤ W.heap.size)
    (h : ∀ v' w', GrowPv w' B v' (X ++ [b]) → Below B W w' → W.grownBy w' v.ownBlock → K (a.put o.dst v') w') : if Region.wanted o (yielded ops a.tmps) = true then Oper.wp Try.prog o a W K Q else E := by
  obtain ⟨i0, hi, hz0, hz1, hz2⟩ := info_parts info_PacketS
  have hcell : ∀ j u, (pvL b)[j]? = some u → W.cell? ((⟨ad, 0, none⟩ : Addr).add j) = some u := by
    intro j u hj
    rw [Addr.add_lit]
    exact hc0 j u hj
  rw [if_pos (by simp [Region.wanted, hgd])]
  refine wp_append_own W s x 27 ho B 31 i0 (.agg zPv) 9 104 Try.underlying27 hi hz0 hz1 hz2 (by rfl) (by decide) v X.length (X.map pvL).flatten hs hown ⟨ad, 0, none⟩ 1 1 (pvL b) hx (by rfl) hcell (pvL_one b) (by unfold maxLen; omega) (by omega) hbase ?_
  intro v' w' hown' hgrow _
  refine h v' w' ?_ ?_ hgrow
  · unfold GrowPv; rw [List.length_append, List.map_append, List.flatten_append]; simpa using hown'
  · exact (Below.refl B W).grown hgrow hbase fun k hk => (World.ownsRow.lt hown k hk).1
end Go.Proofs.Ytbjbamcpfjlllab
