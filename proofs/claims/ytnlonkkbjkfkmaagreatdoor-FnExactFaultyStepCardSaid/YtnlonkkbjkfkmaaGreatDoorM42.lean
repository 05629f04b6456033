/-
  Texts of this proof: TkS2, TkS3.
-/
import Derived.Test.YtnlonkkbjkfkmaaGreatDoorM40
import Derived.Test.YtnlonkkbjkfkmaaGreatDoorM41
import Derived.Laws.CopyOwn
namespace Go.Proofs.YtnlonkkbjkfkmaaGreatDoor
open Go.RowKit
set_option linter.all false
section
variable {w3 : World} {T p : Nat} {x : Wd} {vl vs : Value} {g N cap n z j : Nat} {wr w2 : World}
def H1B (w3 : World) (T p : Nat) (x : Wd) (vl vs : Value) (g N cap n z j : Nat) (wr : World) (S : List Int) (F : List Bool) (L : List Bd) : Prop :=
 (gon 1 (x.bods.drop j) (L.take n, S)).1 = (hitsQ x).1 ∧ F ++ (gon 1 (x.bods.drop j) (L.take n, S)).2 = (hitsQ x).2 ∧ n + F.length = j ∧ L.length = N ∧ L.drop n = x.bods.drop n ∧ Fine x.rows n L ∧ ScB n S ∧
 BxW wr T p ⟨x.rows, x.tick, x.seed, S, L⟩ vl vs (.slice (some ⟨g, 0, none⟩) N cap) ∧ FrZ T p vs (.slice (some ⟨g, 0, none⟩) N cap) z w3 wr ∧
 wr.heap[z]? = some (.cells (boolC (List.replicate n false ++ F ++ List.replicate (N - j) false)) 4 (0, 0))
def H1R (w3 : World) (T p : Nat) (x : Wd) (vl vs : Value) (g N cap n z j : Nat) (wr : World) : Prop := ∃ S F L, H1B w3 T p x vl vs g N cap n z j wr S F L
theorem flags_next {F : List Bool} {f : Bool} (hj : n + F.length = j) (hN : j < N) : List.replicate n false ++ F ++ false :: List.replicate (N - (j + 1)) false = List.replicate n false ++ F ++ List.replicate (N - j) false := by
 rw [show N - j = (N - (j + 1)) + 1 by omega, List.replicate_succ]
theorem h1_none {S : List Int} {F : List Bool} {L : List Bd} (h : H1B w3 T p x vl vs g N cap n z j wr S F L) (hN : N = x.bods.length) (hj : j < x.bods.length) (hb : act1 1 x.bods[j] (L.take n, S) = none) (hB : Below wr.heap.size wr w2) : H1R w3 T p x vl vs g N cap n z (j + 1) w2 := by
 obtain ⟨h1, h2, h3, h4, h5, h6, h7, h8, h9, h10⟩ := h
 have hT := Nat.le_of_lt h8.low
 rw [List.drop_eq_getElem_cons hj, gon_none hb] at h1 h2
 dsimp only at h1 h2
 refine ⟨S, F ++ [false], L, h1, by rw [← h2]; simp, by simp; omega, h4, h5, h6, h7, h8.keep hB hT, h9.fr (FrW.below hB hT), ?_⟩
 rw [keepHeap hB h10, ← flags_next (f := false) h3 (by omega)]
 simp
theorem h1_some {S : List Int} {F : List Bool} {L : List Bd} {q : PtS} (h : H1B w3 T p x vl vs g N cap n z j wr S F L) (hN : N = x.bods.length) (hj : j < x.bods.length) (hb : act1 1 x.bods[j] (L.take n, S) = some q)
  (hB : BxW w2 T p ⟨x.rows, x.tick, x.seed, q.2, q.1 ++ L.drop n⟩ vl vs (.slice (some ⟨g, 0, none⟩) N cap)) (hF : FrZ T p vs (.slice (some ⟨g, 0, none⟩) N cap) z w3 w2)
  (hz : w2.heap[z]? = some (.cells ((boolC (List.replicate n false ++ F ++ List.replicate (N - j) false)).setIfInBounds j (.bool true)) 4 (0, 0))) : H1R w3 T p x vl vs g N cap n z (j + 1) w2 := by
 obtain ⟨h1, h2, h3, h4, h5, h6, h7, h8, h9, h10⟩ := h
 obtain ⟨hP, hO⟩ := fine_part h6
 obtain ⟨⟨g1, g2⟩, g3⟩ := act_ok ⟨hP, h7⟩ hb
 rw [List.drop_eq_getElem_cons hj, gon_some hb] at h1 h2
 dsimp only at h1 h2
 have hd : (q.1 ++ L.drop n).drop n = L.drop n := by rw [List.drop_append, g1, Nat.sub_self, List.drop_of_length_le (by omega)]; simp
 have ht : (q.1 ++ L.drop n).take n = q.1 := by rw [List.take_append, g1, Nat.sub_self, List.take_of_length_le (by omega)]; simp
 have hl : (q.1 ++ L.drop n).length = N := by rw [List.length_append, g1, List.length_drop]; have := h6.1; omega
 refine ⟨q.2, F ++ [true], q.1 ++ L.drop n, by rw [ht]; exact h1, by rw [ht, ← h2]; simp, by simp; omega, hl, by rw [hd]; exact h5, ?_, g3, hB, hF, ?_⟩
 ·exact fine_join ⟨g1, g2⟩ hO (by rw [g1, List.length_drop]; have := h6.1; have := h6.2.1; omega)
 ·rw [hz, ← flags_next (f := false) h3 (by omega), boolC_set _ _ _ _ _ (by simp; omega)]
  simp
def H2B (w3 : World) (T p : Nat) (x : Wd) (vl vs : Value) (g N cap n z j : Nat) (wr : World) (S : List Int) (G : List Bool) (L : List Bd) : Prop :=
 (gon 2 (x.bods.drop j) (L.take n, S)).1 = (takesQ x).1 ∧ G ++ (gon 2 (x.bods.drop j) (L.take n, S)).2 = (takesQ x).2 ∧ n + G.length = j ∧ L.length = N ∧ L.drop n = x.bods.drop n ∧ Fine x.rows n L ∧ ScB n S ∧
 BxW wr T p ⟨x.rows, x.tick, x.seed, S, L⟩ vl vs (.slice (some ⟨g, 0, none⟩) N cap) ∧ FrZ T p vs (.slice (some ⟨g, 0, none⟩) N cap) z w3 wr ∧
 wr.heap[z]? = some (.cells (boolC (List.replicate n false ++ orL ((hitsQ x).2.take (j - n)) G ++ (hitsQ x).2.drop (j - n))) 4 (0, 0))
def H2R (w3 : World) (T p : Nat) (x : Wd) (vl vs : Value) (g N cap n z j : Nat) (wr : World) : Prop := ∃ S G L, H2B w3 T p x vl vs g N cap n z j wr S G L
theorem orL_snoc {F G : List Bool} {i : Nat} (hi : i < F.length) (hG : G.length = i) (b : Bool) : orL (F.take (i + 1)) (G ++ [b]) = orL (F.take i) G ++ [F[i] || b] := by
 unfold orL
 rw [List.take_succ_eq_append_getElem hi, List.zipWith_append (by simp; omega)]
 rfl
theorem h2_start (h : H1R w3 T p x vl vs g N cap n z j wr) (hx : FineX x) (hn : n = x.scores.length) (hN : N = x.bods.length) (hj : j = x.bods.length) : H2R w3 T p x vl vs g N cap n z n wr := by
 obtain ⟨S, F, L, h1, h2, h3, h4, h5, h6, h7, h8, h9, h10⟩ := h
 rw [List.drop_of_length_le (by omega)] at h1 h2
 simp only [gon, List.append_nil] at h1 h2
 refine ⟨S, [], L, ?_, ?_, by simp, h4, h5, h6, h7, h8, h9, ?_⟩
 ·rw [h1]; unfold takesQ; rw [hn]
 ·rw [h1]; unfold takesQ; rw [hn]; rfl
 ·rw [h10, h2, Nat.sub_self, show N - j = 0 by omega]
  simp [orL]
theorem h2_lens (hn : n = x.scores.length) : (hitsQ x).2.length = x.bods.length - n := by
 unfold hitsQ; rw [gon_len, List.length_drop, hn]
theorem h2_none {S : List Int} {G : List Bool} {L : List Bd} (h : H2B w3 T p x vl vs g N cap n z j wr S G L) (hn : n = x.scores.length) (hN : N = x.bods.length) (hj : j < x.bods.length) (hb : act1 2 x.bods[j] (L.take n, S) = none) (hB : Below wr.heap.size wr w2) : H2R w3 T p x vl vs g N cap n z (j + 1) w2 := by
 obtain ⟨h1, h2, h3, h4, h5, h6, h7, h8, h9, h10⟩ := h
 have hT := Nat.le_of_lt h8.low
 have hl := h2_lens hn
 rw [List.drop_eq_getElem_cons hj, gon_none hb] at h1 h2
 dsimp only at h1 h2
 refine ⟨S, G ++ [false], L, h1, by rw [← h2]; simp, by simp; omega, h4, h5, h6, h7, h8.keep hB hT, h9.fr (FrW.below hB hT), ?_⟩
 rw [keepHeap hB h10, show j + 1 - n = (j - n) + 1 by omega, orL_snoc (by omega) (by omega), Bool.or_false, List.drop_eq_getElem_cons (i := j - n) (by omega)]
 simp
theorem h2_some {S : List Int} {G : List Bool} {L : List Bd} {q : PtS} (h : H2B w3 T p x vl vs g N cap n z j wr S G L) (hn : n = x.scores.length) (hN : N = x.bods.length) (hj : j < x.bods.length) (hb : act1 2 x.bods[j] (L.take n, S) = some q)
  (hB : BxW w2 T p ⟨x.rows, x.tick, x.seed, q.2, q.1 ++ L.drop n⟩ vl vs (.slice (some ⟨g, 0, none⟩) N cap)) (hF : FrZ T p vs (.slice (some ⟨g, 0, none⟩) N cap) z w3 w2)
  (hz : w2.heap[z]? = some (.cells ((boolC (List.replicate n false ++ orL ((hitsQ x).2.take (j - n)) G ++ (hitsQ x).2.drop (j - n))).setIfInBounds j (.bool true)) 4 (0, 0))) : H2R w3 T p x vl vs g N cap n z (j + 1) w2 := by
 obtain ⟨h1, h2, h3, h4, h5, h6, h7, h8, h9, h10⟩ := h
 obtain ⟨hP, hO⟩ := fine_part h6
 have hl2 := h2_lens hn
 obtain ⟨⟨g1, g2⟩, g3⟩ := act_ok ⟨hP, h7⟩ hb
 rw [List.drop_eq_getElem_cons hj, gon_some hb] at h1 h2
 dsimp only at h1 h2
 have hd : (q.1 ++ L.drop n).drop n = L.drop n := by rw [List.drop_append, g1, Nat.sub_self, List.drop_of_length_le (by omega)]; simp
 have ht : (q.1 ++ L.drop n).take n = q.1 := by rw [List.take_append, g1, Nat.sub_self, List.take_of_length_le (by omega)]; simp
 have hl : (q.1 ++ L.drop n).length = N := by rw [List.length_append, g1, List.length_drop]; have := h6.1; omega
 refine ⟨q.2, G ++ [true], q.1 ++ L.drop n, by rw [ht]; exact h1, by rw [ht, ← h2]; simp, by simp; omega, hl, by rw [hd]; exact h5, ?_, g3, hB, hF, ?_⟩
 ·exact fine_join ⟨g1, g2⟩ hO (by rw [g1, List.length_drop]; have := h6.1; have := h6.2.1; omega)
 ·rw [hz, List.drop_eq_getElem_cons (i := j - n) (by omega), boolC_set _ _ _ _ _ (by simp [orL]; omega), show j + 1 - n = (j - n) + 1 by omega, orL_snoc (by omega) (by omega), Bool.or_true]
  simp
end
theorem info_bool : (Tryz.prog.info? 4).map (fun i => (i.zero, i.size, i.bytes)) = some (some (.bool false), 1, 1) := by kernel_rfl
theorem run_make_bools (W : World) (n : Nat) (hn : n ≤ 1048576) : (Instr.makeSlice 236 (.int .i64 (n : Int)) (.int .i64 (n : Int))).run Tryz.prog W = .ok (.slice (some ⟨W.heap.size, 0, none⟩) n n) (W.alloc (.cells (boolC (List.replicate n false)) 4)) := by
 obtain ⟨i0, hi, hz0, hz1, hz2⟩ := info_parts info_bool
 have := run_make (P := Tryz.prog) W 236 4 i0 (.bool false) Tryz.underlying236 hi hz0 .i64 .i64 n n (by omega) (Int.le_refl _) (by rw [hz2]; omega) (by omega)
 rw [this, hz1, Int.toNat_natCast, Nat.mul_one]
 rw [← boolC_zero]; rfl
end Go.Proofs.YtnlonkkbjkfkmaaGreatDoor
namespace Go.Proofs.YtnlonkkbjkfkmaaGreatDoor
open Go.RowKit
set_option linter.all false
theorem OwnRB.held {w w' : World} {T : Nat} {v : Value} {X : List Bd} (h : OwnRB w T v X) (hk : ∀ g, v.ownBlock = some g → w'.heap[g]? = w.heap[g]?) : OwnRB w' T v X := by
 refine ⟨h.1, ?_⟩
 rcases h.2 with e | ⟨g, cap, cur, rfl, hB, hg, rest⟩
 ·exact .inl e
 ·exact .inr ⟨g, cap, cur, rfl, hB, by rw [hk g rfl]; exact hg, rest⟩
theorem OwnR.held {w w' : World} {T : Nat} {v : Value} {X : List Int} (h : OwnR w T v X) (hk : ∀ g, v.ownBlock = some g → w'.heap[g]? = w.heap[g]?) : OwnR w' T v X := by
 refine ⟨h.1, ?_⟩
 rcases h.2 with e | ⟨g, cap, cur, rfl, hB, hg, rest⟩
 ·exact .inl e
 ·exact .inr ⟨g, cap, cur, rfl, hB, by rw [hk g rfl]; exact hg, rest⟩
theorem BxW.keepAt {w w' : World} {T p M : Nat} {x : Wd} {vl vs vb : Value} (h : BxW w T p x vl vs vb) (hb : Below M w w') (hT : T ≤ M) (hp : p < M) (hs : ∀ g, vs.ownBlock = some g → g < M) (hv : ∀ g, vb.ownBlock = some g → g < M) : BxW w' T p x vl vs vb := by
 obtain ⟨a1, a2, a3, a4, a5⟩ := h
 exact ⟨by rw [hb.block p hp]; exact a1, a2, lvKeep a3 (hb.mono hT), a4.held (fun g hg => hb.block g (hs g hg)), a5.held (fun g hg => hb.block g (hv g hg))⟩
theorem FrW.up {T p : Nat} {vs vb : Value} {w w1 w2 : World} (h : FrW T p vs vb w w1) (hT : T ≤ w.heap.size) (hb : Below w.heap.size w1 w2) : FrW T p vs vb w w2 :=
 ⟨h.1.trans (hb.mono hT), fun j hj a b c => by rw [hb.block j hj]; exact h.2 j hj a b c⟩
theorem run_copy_nine (w : World) (ty : TypeId) (g dCap : Nat) (a : Addr) (n sCap : Nat) (cur : Array Value) (t : TypeId) (cs : List Value)
  (hg : w.heap[g]? = some (.cells cur t (0, 0))) (hn : cs.length = n * 9) (hsrc : ∀ j v, cs[j]? = some v → w.cell? (a.add j) = some v) (hfit : cs.length ≤ cur.size) (h1 : ∀ v ∈ cs, v.oneCell' = true) :
  (Builtin.copy_ #[28, 28] ty #[.slice (some ⟨g, 0, none⟩) n dCap, .slice (some a) n sCap]).run Tryz.prog w = .ok (goInt n) (w.setRow g (cs ++ cur.toList.drop cs.length).toArray) := by
 have hl := run_loadCells_list (P := Tryz.prog) w a cs hsrc
 have hst := run_storeCells_at Tryz.prog g 0 t cs 0 cur w hg (by simpa using hfit) h1
 obtain ⟨i0, hi, -, hz1, -⟩ := info_parts info_BodyS
 rw [hn] at hl
 simp [Builtin.copy_, run_underlying Tryz.underlying28, Builtin.lenOf, Builtin.firstCells, sizeOf, typeInfo, hi, hz1, hl, hst, goInt]
theorem run_copy_bods {W : World} {B g n cap : Nat} {X Y : List Bd} (hown : OwnRB W B (.slice (some ⟨g, 0, none⟩) n cap) X) (hX : X.length = n) {g2 c2 : Nat}
  (hr : ∀ j u, (Y.map bdL).flatten[j]? = some u → W.cell? ⟨g2, j, none⟩ = some u) (hY : Y.length = n) :
  ∃ w', (∀ ty, (Builtin.copy_ #[28, 28] ty #[.slice (some ⟨g, 0, none⟩) n cap, .slice (some ⟨g2, 0, none⟩) n c2]).run Tryz.prog W = .ok (.int .i64 (n : Int)) w') ∧
   OwnRB w' B (.slice (some ⟨g, 0, none⟩) n cap) Y ∧ Below B W w' ∧ (∀ j, j ≠ g → w'.heap[j]? = W.heap[j]?) := by
 have h0 := hown
 rcases hown.2 with ⟨e, -⟩ | ⟨g', cap', cur, e, hB, hg, hnc, hcm, hcs, htk⟩
 ·cases e
 ·have e2 := e
  simp only [Value.slice.injEq, Option.some.injEq, Addr.mk.injEq, and_true] at e2
  obtain ⟨rfl, e3, rfl⟩ := e2
  have hf : (Y.map bdL).flatten.length = n * 9 := by rw [flatL, hY]
  have hfit : (Y.map bdL).flatten.length ≤ cur.size := by rw [hf, hcs]; omega
  have hrun := fun ty => run_copy_nine W ty g cap ⟨g2, 0, none⟩ n c2 cur 100 (Y.map bdL).flatten hg hf (fun j v hj => by rw [Addr.add_lit, Nat.zero_add]; exact hr j v hj) hfit (flatL_one Y)
  refine ⟨_, hrun, ?_, below_setRow (Below.refl _ _) hB _, fun j hj => setRow_other _ _ _ _ hj⟩
  refine ⟨by rw [flatL], .inr ⟨g, cap, _, by rw [hY], hB, setRow_heap _ _ _ _ _ _ hg, by omega, hcm, ?_, ?_⟩⟩
  ·simp only [List.size_toArray, List.length_append, List.length_drop, Array.length_toList]; omega
  ·rw [List.toList_toArray, List.take_append_of_le_length (by rw [hf, hY]; exact Nat.le_refl _), List.take_of_length_le (by rw [hf, hY]; exact Nat.le_refl _)]
section
variable {w3 : World} {T p : Nat} {x : Wd} {vl vs : Value} {g N cap n z j : Nat} {wr w2 : World}
theorem h1_start (hx : FineX x) (hn : n = x.scores.length) (hN : N = x.bods.length) (h : BxW w3 T p x vl vs (.slice (some ⟨g, 0, none⟩) N cap)) (hz : w3.heap[z]? = some (.cells (boolC (List.replicate N false)) 4 (0, 0))) : H1R w3 T p x vl vs g N cap n z n w3 := by
 obtain ⟨-, h1, h2, h3⟩ := hx
 refine ⟨x.scores, [], x.bods, ?_, ?_, by simp, hN.symm, rfl, by rw [hn]; exact h3, by rw [hn]; exact h2, h, FrZ.refl _ _ _ _ _ _, ?_⟩
 ·unfold hitsQ; rw [← hn]
 ·unfold hitsQ; rw [← hn]; rfl
 ·rw [hz]
  have := h3.1
  rw [List.append_nil, List.replicate_append_replicate, show n + (N - n) = N by omega]
theorem h2_end (h : H2R w3 T p x vl vs g N cap n z j wr) (hn : n = x.scores.length) (hN : N = x.bods.length) (hj : j = N) (hle : n ≤ N) : ∃ L, L.take n = (takesQ x).1.1 ∧ L.drop n = x.bods.drop n ∧ L.length = N ∧
  BxW wr T p ⟨x.rows, x.tick, x.seed, (takesQ x).1.2, L⟩ vl vs (.slice (some ⟨g, 0, none⟩) N cap) ∧ FrZ T p vs (.slice (some ⟨g, 0, none⟩) N cap) z w3 wr ∧
  wr.heap[z]? = some (.cells (boolC (List.replicate n false ++ orL (hitsQ x).2 (takesQ x).2)) 4 (0, 0)) := by
 obtain ⟨S, G, L, h1, h2, h3, h4, h5, h6, h7, h8, h9, h10⟩ := h
 have hl := h2_lens hn
 rw [List.drop_of_length_le (by omega)] at h1 h2
 simp only [gon, List.append_nil] at h1 h2
 refine ⟨L, by rw [← h1], h5, h4, by rw [← h1]; exact h8, h9, ?_⟩
 rw [h10, h2, List.take_of_length_le (by omega), List.drop_of_length_le (by omega), List.append_nil]
theorem flag_at {F : List Bool} (hj : n + F.length = j) (hN : j < N) : (boolC (List.replicate n false ++ F ++ List.replicate (N - j) false))[j]? = some (.bool false) := by
 rw [← flags_next (f := false) hj hN]
 exact boolC_at _ _ _ _ (by simp; omega)
theorem flag2_at {A : List Bool} {k : Nat} (hk : k < A.length) (hj : n + k = j) : (boolC (List.replicate n false ++ A))[j]? = some (.bool A[k]) := by
 unfold boolC
 subst hj
 simp [List.getElem?_append_right, hk]
theorem flag3_at {A B : List Bool} {k : Nat} (hk : A.length = k) (hB : 0 < B.length) (hj : n + k = j) : (boolC (List.replicate n false ++ A ++ B))[j]? = some (.bool B[0]) := by
 obtain ⟨b, l, rfl⟩ : ∃ b l, B = b :: l := by
  cases B with
  | nil => simp at hB
  | cons b l => exact ⟨b, l, rfl⟩
 exact boolC_at _ _ _ _ (by simp; omega)
theorem set_take {L : List Bd} {v : Nat} {b : Bd} (hv : v < n) (hn : n ≤ L.length) : L.set v b = (L.take n).set v b ++ L.drop n := by
 conv => lhs; rw [← List.take_append_drop n L]
 rw [List.set_append_left _ _ (by rw [List.length_take]; omega)]
theorem act1_hit {c : Bd} {q : PtS} (h : c.kind = 1) : act1 1 c q = (metF c c.owner q.1 0).map fun v => hit1 c v q := by unfold act1; rw [if_pos h, if_pos rfl]
theorem act1_take {c : Bd} {q : PtS} (h : c.kind = 2) : act1 2 c q = (metF c (-1) q.1 0).map fun v => (q.1, awd q.2 v) := by unfold act1; rw [if_pos h, if_neg (by decide)]
theorem hit_eq {c q : Bd} {L : List Bd} {S : List Int} {v o : Nat} (hv : v < n) (hn : n ≤ L.length) (hq : L[v]'(by omega) = q) (ho : c.owner = (o : Int)) : (hit1 c v (L.take n, S)).1 ++ L.drop n = L.set v (hurtB q) ∧ (hit1 c v (L.take n, S)).2 = if q.life - 1 = 0 then awd S o else S := by
 have e : (L.take n).getD v b00 = q := by
  rw [List.getD_eq_getElem?_getD, List.getElem?_take, if_pos hv, List.getElem?_eq_getElem (by omega), hq]; rfl
 unfold hit1
 dsimp only
 rw [e, ho, Int.toNat_natCast, ← set_take hv hn]
 exact ⟨rfl, rfl⟩
def H3R (w5 : World) (B n z j : Nat) (P O : List Bd) (F : List Bool) (v : Value) (wr : World) : Prop := OwnRB wr B v (P ++ filt (O.take (j - n)) (F.take (j - n))) ∧ Below B w5 wr ∧ wr.heap[z]? = some (.cells (boolC (List.replicate n false ++ F)) 4 (0, 0))
theorem h3_start {B : Nat} {P O : List Bd} {F : List Bool} {v : Value} (h : OwnRB wr B v P) (hb : Below B w3 wr) (hz : wr.heap[z]? = some (.cells (boolC (List.replicate n false ++ F)) 4 (0, 0))) : H3R w3 B n z n P O F v wr := by
 refine ⟨?_, hb, hz⟩
 rw [Nat.sub_self]
 simpa [filt] using h
theorem h3_gone {B : Nat} {P O : List Bd} {F : List Bool} {v : Value} (h : H3R w3 B n z j P O F v wr) (hj : n ≤ j) {k : Nat} (hk : k = j - n) (hO : k < O.length) (hF : k < F.length) (hf : F[k] = true) : H3R w3 B n z (j + 1) P O F v wr := by
 obtain ⟨h1, h2, h3⟩ := h
 refine ⟨?_, h2, h3⟩
 rw [show j + 1 - n = k + 1 by omega, filt_snoc O F k hO hF, hf, if_pos rfl, List.append_nil, hk]
 exact h1
theorem h3_kept {B : Nat} {P O : List Bd} {F : List Bool} {v v' : Value} (h : H3R w3 B n z j P O F v wr) (hj : n ≤ j) {k : Nat} (hk : k = j - n) (hO : k < O.length) (hF : k < F.length) (hf : F[k] = false)
  {w6 : World} (h6 : Below wr.heap.size wr w6) (hB : B ≤ wr.heap.size) (ho : OwnRB w2 B v' ((P ++ filt (O.take (j - n)) (F.take (j - n))) ++ [O[k]])) (hb : Below B w6 w2) (hg : w6.grownBy w2 v.ownBlock) : H3R w3 B n z (j + 1) P O F v' w2 := by
 obtain ⟨h1, h2, h3⟩ := h
 refine ⟨?_, (h2.trans (h6.mono hB)).trans hb, ?_⟩
 ·rw [show j + 1 - n = k + 1 by omega, filt_snoc O F k hO hF, hf, ← List.append_assoc]
  rw [← hk] at ho
  simpa using ho
 ·have hzl := (Array.getElem?_eq_some_iff.1 h3).1
  rw [hg.block z (by have := h6.size; omega) (fun e => h1.notBox h3 (by decide) e.symm)]
  exact keepHeap h6 h3
theorem filt_len : ∀ (O : List Bd) (F : List Bool), (filt O F).length ≤ O.length
 | [], _ => by simp [filt]
 | _ :: _, [] => by simp [filt]
 | b :: l, f :: fs => by
  have := filt_len l fs
  cases f <;> simp [filt] <;> omega
end
end Go.Proofs.YtnlonkkbjkfkmaaGreatDoor
