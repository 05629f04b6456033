/-
  Texts of this proof: WdC.
-/
import Derived.Test.YtnlonkkbjkfkmaaGreatDoorM19
namespace Go.Proofs.YtnlonkkbjkfkmaaGreatDoor
open Go.RowKit
set_option linter.all false
theorem cells_of_rdBd {W : World} {b off : Nat} {Y : List Bd} (hc : ∀ j (h : j < Y.length), W.rangeAt b (off + j * 9) (bdL Y[j])) : ∀ j u, (Y.map bdL).flatten[j]? = some u → W.cell? ((⟨b, off, none⟩ : Addr).add j) = some u := by
 intro j u hj
 have hjl := (List.getElem?_eq_some_iff.1 hj).1
 rw [flatL] at hjl
 have h3 := flatL_at Y (j / 9) (j % 9) (by omega) (by omega)
 rw [show j / 9 * 9 + j % 9 = j by omega, hj] at h3
 rw [Addr.add_lit, show off + j = off + j / 9 * 9 + j % 9 by omega, h3]
 exact hc (j / 9) (by omega) (j % 9) _ (List.getElem?_eq_getElem _)
theorem flatL_one (l : List Bd) : ∀ u ∈ (l.map bdL).flatten, u.oneCell' = true := by
 intro u hu
 rw [List.mem_flatten] at hu
 obtain ⟨c, hc, hu⟩ := hu
 obtain ⟨q, -, rfl⟩ := List.mem_map.1 hc
 exact bdL_one q u hu
theorem OwnRB.made0 (w : World) (B : Nat) (hB : B ≤ w.heap.size) : OwnRB (w.alloc (.cells #[] 100)) B (.slice (some ⟨w.heap.size, 0, none⟩) 0 0) [] :=
 World.ownsRow_made w #[] 0 hB (by unfold maxLen; decide) (by simp)
theorem OwnRB.low {w : World} {B C : Nat} {v : Value} {X : List Bd} (h : OwnRB w B v X) (hC : C ≤ B) : OwnRB w C v X := by
 refine ⟨h.1, ?_⟩
 rcases h.2 with h | ⟨g, cap, cur, hv, hB, rest⟩
 ·exact .inl h
 ·exact .inr ⟨g, cap, cur, hv, Nat.le_trans hC hB, rest⟩
theorem OwnRB.far {w : World} {B : Nat} {v : Value} {X : List Bd} (h : OwnRB w B v X) {p : Addr} (hp : p.block < B) (u : Value) : OwnRB (w.setCell p u) B v X := ownsRow_setCell_below h hp u
theorem OwnR.putW {w : World} {B : Nat} {v : Value} {xs : List Int} (h : OwnR w B v xs) {c : Nat} (hc : c < B) (y : Wd) (ul us ub : Value) : OwnR (putW w c y ul us ub) B v xs := by
 unfold Go.Proofs.YtnlonkkbjkfkmaaGreatDoor.putW
 repeat (refine OwnR.far ?_ (by simpa using hc) _)
 exact h
theorem OwnRB.putW {w : World} {B : Nat} {v : Value} {X : List Bd} (h : OwnRB w B v X) {c : Nat} (hc : c < B) (y : Wd) (ul us ub : Value) : OwnRB (putW w c y ul us ub) B v X := by
 unfold Go.Proofs.YtnlonkkbjkfkmaaGreatDoor.putW
 repeat (refine OwnRB.far ?_ (by simpa using hc) _)
 exact h
theorem WrS.putW {w : World} {B : Nat} {v : Value} {xs : List (List UInt8)} (h : WrS w B v xs) {c : Nat} (hc : c < B) (y : Wd) (ul us ub : Value) : WrS (putW w c y ul us ub) B v xs := by
 unfold Go.Proofs.YtnlonkkbjkfkmaaGreatDoor.putW
 repeat (refine WrS.far ?_ (by simpa using hc) _)
 exact h
theorem app_bods {ops : Array Oper} {rest : List Oper} {o : Oper} {a : Act} {Q : Exit → Act → World → Prop} {W : World} (hgd : o.guard = none) (s x : Operand)
  (ho : o.op = .call { callee := .builtin .append, args := #[s, x], argTypes := #[28, 28] })
  (B : Nat) (v : Value) (X : List Bd) (hs : a.eval s = v) (hown : OwnRB W B v X) (u : Value) (Y : List Bd) (hx : a.eval x = u) (hr : RdBd W u Y)
  (hlen : X.length + Y.length ≤ 4194304) (hbase : B ≤ W.heap.size)
  (h : ∀ v' w', OwnRB w' B v' (X ++ Y) → Below B W w' → wpList Tryz.prog ops Q rest (a.put o.dst v') w') : wpList Tryz.prog ops Q (o :: rest) a W := by
 obtain ⟨i0, hi, hz0, hz1, hz2⟩ := info_parts info_BodyS
 obtain ⟨ad, cap, rfl, hr⟩ := hr
 have key : ∀ (ad : Addr), (∀ j u, (Y.map bdL).flatten[j]? = some u → W.cell? (ad.add j) = some u) → a.eval x = .slice (some ad) Y.length cap → wpList Tryz.prog ops Q (o :: rest) a W := by
  intro ad hc hx
  refine wpList_append_own _ hgd s x 28 ho B 100 i0 (.agg z9) 9 72 Tryz.underlying28 hi hz0 hz1 hz2 (by rfl) (by decide) v X.length (X.map bdL).flatten hs hown ad Y.length cap (Y.map bdL).flatten hx (flatL Y) hc (flatL_one Y) (by unfold maxLen; omega) (by omega) hbase ?_
  intro v' w' hown' hgrow _
  refine h v' w' ?_ ((Below.refl B W).grown hgrow hbase fun k hk => (World.ownsRow.lt hown k hk).1)
  unfold OwnRB; rw [List.length_append, List.map_append, List.flatten_append]; exact hown'
 rcases hr with rfl | ⟨b, off, rfl, hc⟩
 ·cases ad with
  | none =>
   exact wp_append_none hgd s x 28 ho B 100 i0 9 Tryz.underlying28 hi v X.length (X.map bdL).flatten hs hown cap hx (h v W (by simpa using hown) (Below.refl _ _))
  | some ad => exact key ad (by simp) hx
 ·exact key _ (cells_of_rdBd hc) hx
set_option maxHeartbeats 1000000 in
theorem cloneBd_any {w : World} {v : Value} {X : List Bd} (h : RdBd w v X) (hn : X.length ≤ 1048576) :
  Calls Tryz.prog 139 #[v] w fun e w' => ∃ u, e = .returned u ∧ OwnRB w' w.heap.size u X ∧ Below w.heap.size w w' := by
 obtain ⟨a, cap, rfl, h0⟩ := id h
 have q : ∀ (w : World) (a : Option Addr) (n c n' c' : Nat), (binOp .eql 28 (.slice a n c) (.slice none n' c')).run Tryz.prog w = .ok (.bool a.isNone) w := fun w a n c n' c' => Lib.run_eql_slice_nil w _ _ a n c n' c' Tryz.underlying28
 cases a with
 | none =>
  have hx : X = [] := by
   rcases h0 with h0 | ⟨b, off, h0, -⟩
   ·exact h0
   ·cases h0
  subst hx
  go_enter Tryz.func139, Tryz.ntmps139
  go_wp2_with (fail)
  go_ret
  exact ⟨_, rfl, OwnRB.nil _ _, Below.refl _ _⟩
 | some ad =>
  have hk := h.keep (below1 w (.cells #[] 100))
  have ho := OwnRB.made0 w w.heap.size (Nat.le_refl _)
  clear h h0
  go_enter Tryz.func139, Tryz.ntmps139
  go_wp2_with (at_builtin; refine app_bods rfl _ _ rfl w.heap.size _ [] rfl ho _ X rfl hk (by simp; omega) (by simp) ?_; intro v' w1 hown' hb1)
  go_ret
  exact ⟨_, rfl, by simpa using hown', (below1 w _).trans (hb1.mono (by simp))⟩
set_option maxHeartbeats 1000000 in
theorem cloneI_own {w : World} {v : Value} {xs : List Int} (h : RdI w v xs) (hn : xs.length ≤ 1099511627776) :
  Calls Tryz.prog 138 #[v] w fun e w' => ∃ u, e = .returned u ∧ OwnR w' w.heap.size u xs ∧ Below w.heap.size w w' := by
 obtain ⟨a, cap, rfl, h0⟩ := id h
 have q : ∀ (w : World) (a : Option Addr) (n c n' c' : Nat), (binOp .eql 27 (.slice a n c) (.slice none n' c')).run Tryz.prog w = .ok (.bool a.isNone) w := fun w a n c n' c' => Lib.run_eql_slice_nil w _ _ a n c n' c' Tryz.underlying27
 cases a with
 | none =>
  have hx : xs = [] := by
   rcases h0 with h0 | ⟨b, off, h0, -⟩
   ·exact h0
   ·cases h0
  subst hx
  go_enter Tryz.func138, Tryz.ntmps138
  go_wp2_with (fail)
  go_ret
  exact ⟨_, rfl, World.ownsRow_nil _ _ _ _, Below.refl _ _⟩
 | some ad =>
  have hk := h.keep (below1 w (.cells #[] 3))
  have ho := OwnR.made w #[] w.heap.size (Nat.le_refl _) (by unfold maxLen; simp)
  clear h h0
  go_enter Tryz.func138, Tryz.ntmps138
  go_wp2_with (at_builtin; refine app_ints rfl _ _ rfl w.heap.size _ [] rfl ho _ xs rfl hk (by simp; omega) (by simp) ?_; intro v' w1 hown' hb1)
  go_ret
  exact ⟨_, rfl, by simpa using hown', (below1 w _).trans (hb1.mono (by simp))⟩
def RetCw (w : World) (x : Wd) (e : Ending) (w' : World) : Prop := ∃ vl vs vb T, e = .returned (.agg (wdC x vl vs vb)) ∧ (w.heap.size ≤ T ∧ T ≤ w'.heap.size) ∧ WrS w' w.heap.size vl x.rows ∧ LowS T vl x.rows ∧ CapI vl ∧ OwnR w' T vs x.scores ∧ OwnRB w' T vb x.bods ∧ Below w.heap.size w w'
set_option maxRecDepth 100000 in
set_option maxHeartbeats 4000000 in
theorem copyWorld_impl {w : World} {x : Wd} {vl vs vb : Value} (h : RdW w x vl vs vb) (hn : x.few) :
  Calls Tryz.prog 61 #[.agg (wdC x vl vs vb)] w (RetCw w x) := by
 obtain ⟨hn1, hn2, hn3⟩ := hn
 have h0 := h
 obtain ⟨al, cl, rfl, -⟩ := id h.1
 obtain ⟨aq, cq, rfl, -⟩ := id h.2.1
 obtain ⟨ab, cb, rfl, -⟩ := id h.2.2
 obtain ⟨W0, hW, hA, hR, hB0, hS0⟩ := rows2 w #[.slice al x.rows.length cl, .int .i64 x.tick, .int .i64 x.seed, .slice aq x.scores.length cq, .slice ab x.bods.length cb] #[.slice none 0 0, .int .i64 0, .int .i64 0, .slice none 0 0, .slice none 0 0] 30 30
 have cA := rowCells hA
 unfold wdC
 go_enter Tryz.func61, Tryz.ntmps61
 go_wp2_with (fail)
 try rw [hW]
 clear hW
 refine (copyLevel_impl (h0.keep hB0).1 (by omega)).mono ?_
 rintro e w1 ⟨v1, rfl, ho1, hc1, hb1⟩
 have hA1 := keepHeap hb1 hA
 have hR1 := keepHeap hb1 hR
 have hb01 := hB0.trans (hb1.mono (by omega))
 have hlo := WrS.low ho1
 have cA1 := rowCells hA1
 have fA1 := fun j => frozenHeap hA1 j
 obtain ⟨a1, c1, rfl, -⟩ := id ho1
 have hs1 := hb1.size
 have hA2 := setH (k := 0) (v := .slice a1 x.rows.length c1) hA1
 have hR2 := farHeap (p := ⟨w.heap.size, 0, none⟩) hR1 (by simp) (.slice a1 x.rows.length c1)
 have ho2 := ho1.far (p := ⟨w.heap.size, 0, none⟩) (by simp; omega) (.slice a1 x.rows.length c1)
 have hb02 := hb01.setCell (p := ⟨w.heap.size, 0, none⟩) (by simp) (.slice a1 x.rows.length c1)
 have hsw : (w1.setCell ⟨w.heap.size, 0, none⟩ (.slice a1 x.rows.length c1)).heap.size = w1.heap.size := by simp
 clear cA hA hR hb1 hA1 hR1 ho1 hb01
 go_upto_region 2 with (fail)
 generalize w1.setCell ⟨w.heap.size, 0, none⟩ (.slice a1 x.rows.length c1) = W2 at *
 have hA2 : W2.heap[w.heap.size]? = some (.cells #[.slice a1 x.rows.length c1, .int .i64 x.tick, .int .i64 x.seed, .slice aq x.scores.length cq, .slice ab x.bods.length cb] 30 (0, 0)) := hA2
 have cA2 := rowCells hA2
 clear cA1 fA1
 go_wp2_with (fail)
 refine (cloneI_own (h0.keep hb02).2.1 (by omega)).mono ?_
 rintro e w3 ⟨v3, rfl, ho3, hb3⟩
 have hA3 := keepHeap hb3 hA2
 have hR3 := keepHeap hb3 hR2
 have hb03 := hb02.trans (hb3.mono hb02.size)
 have hol3 := ho2.keep hb3
 have cA3 := rowCells hA3
 have fA3 := fun j => frozenHeap hA3 j
 obtain ⟨a3, c3, rfl, -⟩ := id ho3.own
 have hs3 := hb3.size
 have hA4 := setH (k := 3) (v := .slice a3 x.scores.length c3) hA3
 have hR4 := farHeap (p := ⟨w.heap.size, 3, none⟩) hR3 (by simp) (.slice a3 x.scores.length c3)
 have hol4 := hol3.far (p := ⟨w.heap.size, 3, none⟩) (by simp; omega) (.slice a3 x.scores.length c3)
 have hoi4 := ho3.far (p := ⟨w.heap.size, 3, none⟩) (by simp; omega) (.slice a3 x.scores.length c3)
 have hb04 := hb03.setCell (p := ⟨w.heap.size, 3, none⟩) (by simp) (.slice a3 x.scores.length c3)
 have hsw4 : (w3.setCell ⟨w.heap.size, 3, none⟩ (.slice a3 x.scores.length c3)).heap.size = w3.heap.size := by simp
 clear cA2 hA2 hR2 hb3 ho2 hA3 hR3 ho3 hol3 hb03
 go_upto_region 3 with (fail)
 generalize w3.setCell ⟨w.heap.size, 3, none⟩ (.slice a3 x.scores.length c3) = W4 at *
 have hA4 : W4.heap[w.heap.size]? = some (.cells #[.slice a1 x.rows.length c1, .int .i64 x.tick, .int .i64 x.seed, .slice a3 x.scores.length c3, .slice ab x.bods.length cb] 30 (0, 0)) := hA4
 have cA4 := rowCells hA4
 clear cA3 fA3
 go_wp2_with (fail)
 refine (cloneBd_any (h0.keep hb04).2.2 (by omega)).mono ?_
 rintro e w5 ⟨v5, rfl, ho5, hb5⟩
 have hA5 := keepHeap hb5 hA4
 have hR5 := keepHeap hb5 hR4
 have hb05 := hb04.trans (hb5.mono hb04.size)
 have hol5 := hol4.keep hb5
 have hoi5 := hoi4.keep hb5 (Nat.le_refl _)
 have cA5 := rowCells hA5
 have fA5 := fun j => frozenHeap hA5 j
 obtain ⟨a5, c5, rfl, -⟩ := id ho5.own
 have hs5 := hb5.size
 have hA6 := setH (k := 4) (v := .slice a5 x.bods.length c5) hA5
 have hR6 := farHeap (p := ⟨w.heap.size, 4, none⟩) hR5 (by simp) (.slice a5 x.bods.length c5)
 have hol6 := hol5.far (p := ⟨w.heap.size, 4, none⟩) (by simp; omega) (.slice a5 x.bods.length c5)
 have hoi6 := hoi5.far (p := ⟨w.heap.size, 4, none⟩) (by simp; omega) (.slice a5 x.bods.length c5)
 have hob6 := (ho5.low (C := W2.heap.size) (by omega)).far (p := ⟨w.heap.size, 4, none⟩) (by simp; omega) (.slice a5 x.bods.length c5)
 have hb06 := hb05.setCell (p := ⟨w.heap.size, 4, none⟩) (by simp) (.slice a5 x.bods.length c5)
 have hsw6 : (w5.setCell ⟨w.heap.size, 4, none⟩ (.slice a5 x.bods.length c5)).heap.size = w5.heap.size := by simp
 clear cA4 hA4 hR4 hb5 hol4 hoi4 hA5 hR5 ho5 hol5 hoi5 hb05
 go_upto_region 4 with (fail)
 generalize w5.setCell ⟨w.heap.size, 4, none⟩ (.slice a5 x.bods.length c5) = W6 at *
 have hA6 : W6.heap[w.heap.size]? = some (.cells #[.slice a1 x.rows.length c1, .int .i64 x.tick, .int .i64 x.seed, .slice a3 x.scores.length c3, .slice a5 x.bods.length c5] 30 (0, 0)) := hA6
 have cA6 := rowCells hA6
 have cR6 := rowCells hR6
 have fR6 := fun j => frozenHeap hR6 j
 clear cA5 fA5
 go_wp2_with (fail)
 have hP := putW_heap hR6 rfl x (.slice a1 x.rows.length c1) (.slice a3 x.scores.length c3) (.slice a5 x.bods.length c5)
 have hbP := putW_below hb06 (c := w.heap.size + 1) (by omega) x (.slice a1 x.rows.length c1) (.slice a3 x.scores.length c3) (.slice a5 x.bods.length c5)
 have hLP := hol6.putW (c := w.heap.size + 1) (by omega) x (.slice a1 x.rows.length c1) (.slice a3 x.scores.length c3) (.slice a5 x.bods.length c5)
 have hIP := hoi6.putW (c := w.heap.size + 1) (by omega) x (.slice a1 x.rows.length c1) (.slice a3 x.scores.length c3) (.slice a5 x.bods.length c5)
 have hBP := hob6.putW (c := w.heap.size + 1) (by omega) x (.slice a1 x.rows.length c1) (.slice a3 x.scores.length c3) (.slice a5 x.bods.length c5)
 unfold putW at hP hbP hLP hIP hBP
 refine bodyPost_ret (results_cell_row rfl _ _ (w.heap.size + 1) 30 (wdC x (.slice a1 x.rows.length c1) (.slice a3 x.scores.length c3) (.slice a5 x.bods.length c5)) (0, 0) ?d ?hp ?hg ?hu ?hd ?hi) rfl ?_
 case hp => rfl
 case hg => exact hP
 case hu => exact Tryz.underlying30
 case hd => rfl
 case hi => kernel_rfl
 exact ⟨_, _, _, W2.heap.size, rfl, ⟨by omega, by simp; omega⟩, hLP.up (by omega), by rw [hsw]; exact hlo, hc1, hIP, hBP, hbP⟩
set_option maxRecDepth 100000 in
set_option maxHeartbeats 4000000 in
theorem copyWorld_spec {w : World} {x : Wd} {vl vs vb : Value} (h : RdW w x vl vs vb) (hn : x.few) :
  Calls Tryz.prog 87 #[.agg (wdC x vl vs vb)] w (RetCw w x) := by
 obtain ⟨hn1, hn2, hn3⟩ := hn
 have h0 := h
 obtain ⟨al, cl, rfl, -⟩ := id h.1
 obtain ⟨aq, cq, rfl, -⟩ := id h.2.1
 obtain ⟨ab, cb, rfl, -⟩ := id h.2.2
 obtain ⟨W0, hW, hA, hR, hB0, hS0⟩ := rows2 w #[.slice al x.rows.length cl, .int .i64 x.tick, .int .i64 x.seed, .slice aq x.scores.length cq, .slice ab x.bods.length cb] #[.slice none 0 0, .int .i64 0, .int .i64 0, .slice none 0 0, .slice none 0 0] 30 30
 have cA := rowCells hA
 unfold wdC
 go_enter Tryz.func87, Tryz.ntmps87
 go_wp2_with (fail)
 try rw [hW]
 clear hW
 refine (copyLevel_spec (h0.keep hB0).1 (by omega)).mono ?_
 rintro e w1 ⟨v1, rfl, ho1, hc1, hb1⟩
 have hA1 := keepHeap hb1 hA
 have hR1 := keepHeap hb1 hR
 have hb01 := hB0.trans (hb1.mono (by omega))
 have hlo := WrS.low ho1
 have cA1 := rowCells hA1
 have fA1 := fun j => frozenHeap hA1 j
 obtain ⟨a1, c1, rfl, -⟩ := id ho1
 have hs1 := hb1.size
 have hA2 := setH (k := 0) (v := .slice a1 x.rows.length c1) hA1
 have hR2 := farHeap (p := ⟨w.heap.size, 0, none⟩) hR1 (by simp) (.slice a1 x.rows.length c1)
 have ho2 := ho1.far (p := ⟨w.heap.size, 0, none⟩) (by simp; omega) (.slice a1 x.rows.length c1)
 have hb02 := hb01.setCell (p := ⟨w.heap.size, 0, none⟩) (by simp) (.slice a1 x.rows.length c1)
 have hsw : (w1.setCell ⟨w.heap.size, 0, none⟩ (.slice a1 x.rows.length c1)).heap.size = w1.heap.size := by simp
 clear cA hA hR hb1 hA1 hR1 ho1 hb01
 go_upto_region 2 with (fail)
 generalize w1.setCell ⟨w.heap.size, 0, none⟩ (.slice a1 x.rows.length c1) = W2 at *
 have hswa := Nat.le_of_eq hsw
 have hswb := Nat.le_of_eq hsw.symm
 rw [← hsw] at hlo
 clear hsw
 have hA2 : W2.heap[w.heap.size]? = some (.cells #[.slice a1 x.rows.length c1, .int .i64 x.tick, .int .i64 x.seed, .slice aq x.scores.length cq, .slice ab x.bods.length cb] 30 (0, 0)) := hA2
 have cA2 := rowCells hA2
 clear cA1 fA1
 have hz2 := below1 W2 (.cells #[] 3)
 have hO2 := OwnR.made W2 #[] W2.heap.size (Nat.le_refl _) (by unfold maxLen; simp)
 have hk2 := ((h0.keep hb02).keep hz2).2.1
 have cA2' := rowCells (keepHeap hz2 hA2)
 go_upto_region 3 with (at_builtin; refine app_ints rfl _ _ rfl W2.heap.size _ [] rfl hO2 _ x.scores rfl hk2 (by simp; omega) hz2.size ?_; intro v3 w3 ho3 hb3'; rw [List.nil_append] at ho3; have hb3 := hz2.trans hb3'; have hA3 := keepHeap hb3 hA2; have cA3 := rowCells hA3; have fA3 := fun j => frozenHeap hA3 j; obtain ⟨a3, c3, rfl, -⟩ := id ho3.own)
 have hR3 := keepHeap hb3 hR2
 have hb03 := hb02.trans (hb3.mono hb02.size)
 have hol3 := ho2.keep hb3
 have hs3 := hb3.size
 have hA4 := setH (k := 3) (v := .slice a3 x.scores.length c3) hA3
 have hR4 := farHeap (p := ⟨w.heap.size, 3, none⟩) hR3 (by simp) (.slice a3 x.scores.length c3)
 have hol4 := hol3.far (p := ⟨w.heap.size, 3, none⟩) (by simp; omega) (.slice a3 x.scores.length c3)
 have hoi4 := ho3.far (p := ⟨w.heap.size, 3, none⟩) (by simp; omega) (.slice a3 x.scores.length c3)
 have hb04 := hb03.setCell (p := ⟨w.heap.size, 3, none⟩) (by simp) (.slice a3 x.scores.length c3)
 have hsw4 : (w3.setCell ⟨w.heap.size, 3, none⟩ (.slice a3 x.scores.length c3)).heap.size = w3.heap.size := by simp
 clear cA2 hA2 hR2 hb3 hb3' ho2 hA3 hR3 ho3 hol3 hb03 hz2 hO2 hk2 cA2'
 generalize w3.setCell ⟨w.heap.size, 3, none⟩ (.slice a3 x.scores.length c3) = W4 at *
 have hsw4a := Nat.le_of_eq hsw4
 have hsw4b := Nat.le_of_eq hsw4.symm
 clear hsw4
 have hA4 : W4.heap[w.heap.size]? = some (.cells #[.slice a1 x.rows.length c1, .int .i64 x.tick, .int .i64 x.seed, .slice a3 x.scores.length c3, .slice ab x.bods.length cb] 30 (0, 0)) := hA4
 have cA4 := rowCells hA4
 clear cA3 fA3
 have hz4 := below1 W4 (.cells #[] 100)
 have hO4 := OwnRB.made0 W4 W4.heap.size (Nat.le_refl _)
 have hk4 := ((h0.keep hb04).keep hz4).2.2
 have cA4' := rowCells (keepHeap hz4 hA4)
 go_upto_region 4 with (at_builtin; refine app_bods rfl _ _ rfl W4.heap.size _ [] rfl hO4 _ x.bods rfl hk4 (by simp; omega) hz4.size ?_; intro v5 w5 ho5 hb5'; rw [List.nil_append] at ho5; have hb5 := hz4.trans hb5'; have hA5 := keepHeap hb5 hA4; have cA5 := rowCells hA5; have fA5 := fun j => frozenHeap hA5 j; obtain ⟨a5, c5, rfl, -⟩ := id ho5.own)
 have hR5 := keepHeap hb5 hR4
 have hb05 := hb04.trans (hb5.mono hb04.size)
 have hol5 := hol4.keep hb5
 have hoi5 := hoi4.keep hb5 (Nat.le_refl _)
 have hs5 := hb5.size
 have hA6 := setH (k := 4) (v := .slice a5 x.bods.length c5) hA5
 have hR6 := farHeap (p := ⟨w.heap.size, 4, none⟩) hR5 (by simp) (.slice a5 x.bods.length c5)
 have hol6 := hol5.far (p := ⟨w.heap.size, 4, none⟩) (by simp; omega) (.slice a5 x.bods.length c5)
 have hoi6 := hoi5.far (p := ⟨w.heap.size, 4, none⟩) (by simp; omega) (.slice a5 x.bods.length c5)
 have hob6 := (ho5.low (C := W2.heap.size) (by omega)).far (p := ⟨w.heap.size, 4, none⟩) (by simp; omega) (.slice a5 x.bods.length c5)
 have hb06 := hb05.setCell (p := ⟨w.heap.size, 4, none⟩) (by simp) (.slice a5 x.bods.length c5)
 have hsw6 : (w5.setCell ⟨w.heap.size, 4, none⟩ (.slice a5 x.bods.length c5)).heap.size = w5.heap.size := by simp
 clear cA4 hA4 hR4 hb5 hb5' hol4 hoi4 hA5 hR5 ho5 hol5 hoi5 hb05 hz4 hO4 hk4 cA4'
 generalize w5.setCell ⟨w.heap.size, 4, none⟩ (.slice a5 x.bods.length c5) = W6 at *
 have hsw6a := Nat.le_of_eq hsw6
 have hsw6b := Nat.le_of_eq hsw6.symm
 clear hsw6
 have hA6 : W6.heap[w.heap.size]? = some (.cells #[.slice a1 x.rows.length c1, .int .i64 x.tick, .int .i64 x.seed, .slice a3 x.scores.length c3, .slice a5 x.bods.length c5] 30 (0, 0)) := hA6
 have cA6 := rowCells hA6
 have cR6 := rowCells hR6
 have fR6 := fun j => frozenHeap hR6 j
 clear cA5 fA5
 go_wp2_with (fail)
 have hP := putW_heap hR6 rfl x (.slice a1 x.rows.length c1) (.slice a3 x.scores.length c3) (.slice a5 x.bods.length c5)
 have hbP := putW_below hb06 (c := w.heap.size + 1) (by omega) x (.slice a1 x.rows.length c1) (.slice a3 x.scores.length c3) (.slice a5 x.bods.length c5)
 have hLP := hol6.putW (c := w.heap.size + 1) (by omega) x (.slice a1 x.rows.length c1) (.slice a3 x.scores.length c3) (.slice a5 x.bods.length c5)
 have hIP := hoi6.putW (c := w.heap.size + 1) (by omega) x (.slice a1 x.rows.length c1) (.slice a3 x.scores.length c3) (.slice a5 x.bods.length c5)
 have hBP := hob6.putW (c := w.heap.size + 1) (by omega) x (.slice a1 x.rows.length c1) (.slice a3 x.scores.length c3) (.slice a5 x.bods.length c5)
 unfold putW at hP hbP hLP hIP hBP
 refine bodyPost_ret (results_cell_row rfl _ _ (w.heap.size + 1) 30 (wdC x (.slice a1 x.rows.length c1) (.slice a3 x.scores.length c3) (.slice a5 x.bods.length c5)) (0, 0) ?d ?hp ?hg ?hu ?hd ?hi) rfl ?_
 case hp => rfl
 case hg => exact hP
 case hu => exact Tryz.underlying30
 case hd => rfl
 case hi => kernel_rfl
 exact ⟨_, _, _, W2.heap.size, rfl, ⟨by omega, by simp; omega⟩, hLP.up (by omega), hlo, hc1, hIP, hBP, hbP⟩
end Go.Proofs.YtnlonkkbjkfkmaaGreatDoor
