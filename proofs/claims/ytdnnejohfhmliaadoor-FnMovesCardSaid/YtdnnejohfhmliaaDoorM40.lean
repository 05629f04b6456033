/-
  Texts of this proof: TkS2.
-/
import Derived.Test.YtdnnejohfhmliaaDoorM38
import Derived.Test.YtdnnejohfhmliaaDoorM39
namespace Go.Proofs.YtdnnejohfhmliaaDoor
open Go.RowKit
set_option linter.all false
section
variable {w3 : World} {T p : Nat} {x : Wd} {vl vs : Value} {g N cap n z j : Nat} {wr w2 : World}
def H1B (w3 : World) (T p : Nat) (x : Wd) (vl vs : Value) (g N cap n z j : Nat) (wr : World) (S : List Int) (F : List Bool) (L : List Bd) : Prop :=
  (gon 1 (x.bods.drop j) (L.take n, S)).1 = (hitsQ x).1 ∧ F ++ (gon 1 (x.bods.drop j) (L.take n, S)).2 = (hitsQ x).2 ∧ n + F.length = j ∧ L.length = N ∧ L.drop n = x.bods.drop n ∧ Fine x.rows n L ∧ ScB n S ∧
  BxW wr T p ⟨x.rows, x.tick, x.seed, S, L⟩ vl vs (.slice (some ⟨g, 0, none⟩) N cap) ∧ FrZ T p vs (.slice (some ⟨g, 0, none⟩) N cap) z w3 wr ∧
  wr.heap[z]? = some (.cells (boolC (List.replicate n false ++ F ++ List.replicate (N - j) false)) 4 (0, 0))
def H1R (w3 : World) (T p : Nat) (x : Wd) (vl vs : Value) (g N cap n z j : Nat) (wr : World) : Prop := ∃ S F L, H1B w3 T p x vl vs g N cap n z j wr S F L
theorem flags_next {F : List Bool} {f : Bool} (hj : n + F.length = j) (hN : j < N) : List.replicate n false ++ F ++ false :: List.replicate (N - (j + 1)) false = List.replicate n false ++ F ++ List.replicate (N - j) false := by
  rw [show N - j = (N - (j + 1)) + 1 by omega, List.replicate_succ]
theorem h1_none {S : List Int} {F : List Bool} {L : List Bd} (h : H1B w3 T p x vl vs g N cap n z j wr S F L) (hN : N = x.bods.length) (hj : j < x.bods.length) (hb : act1 1 x.bods[j] (L.take n, S) = none) (hB : Below wr.heap.size wr w2) : H1R w3 T p x vl vs g N cap n z (j + 1) w2 := by
  obtain ⟨h1, h2, h3, h4, h5, h6, h7, h8, h9, h10⟩ := h
  have hT := Nat.le_of_lt h8.low
  rw [List.drop_eq_getElem_cons hj, gon_none hb] at h1 h2
  dsimp only at h1 h2
  refine ⟨S, F ++ [false], L, h1, by rw [← h2]; simp, by simp; omega, h4, h5, h6, h7, h8.keep hB hT, h9.fr (FrW.below hB hT), ?_⟩
  rw [keepHeap hB h10, ← flags_next (f := false) h3 (by omega)]
  simp
theorem h1_some {S : List Int} {F : List Bool} {L : List Bd} {q : PtS} (h : H1B w3 T p x vl vs g N cap n z j wr S F L) (hN : N = x.bods.length) (hj : j < x.bods.length) (hb : act1 1 x.bods[j] (L.take n, S) = some q)
    (hB : BxW w2 T p ⟨x.rows, x.tick, x.seed, q.2, q.1 ++ L.drop n⟩ vl vs (.slice (some ⟨g, 0, none⟩) N cap)) (hF : FrZ T p vs (.slice (some ⟨g, 0, none⟩) N cap) z w3 w2)
    (hz : w2.heap[z]? = some (.cells ((boolC (List.replicate n false ++ F ++ List.replicate (N - j) false)).setIfInBounds j (.bool true)) 4 (0, 0))) : H1R w3 T p x vl vs g N cap n z (j + 1) w2 := by
  obtain ⟨h1, h2, h3, h4, h5, h6, h7, h8, h9, h10⟩ := h
  obtain ⟨hP, hO⟩ := fine_part h6
  obtain ⟨⟨g1, g2⟩, g3⟩ := act_ok ⟨hP, h7⟩ hb
  rw [List.drop_eq_getElem_cons hj, gon_some hb] at h1 h2
  dsimp only at h1 h2
  have hd : (q.1 ++ L.drop n).drop n = L.drop n := by rw [List.drop_append, g1, Nat.sub_self, List.drop_of_length_le (by omega)]; simp
  have ht : (q.1 ++ L.drop n).take n = q.1 := by rw [List.take_append, g1, Nat.sub_self, List.take_of_length_le (by omega)]; simp
  have hl : (q.1 ++ L.drop n).length = N := by rw [List.length_append, g1, List.length_drop]; have := h6.1; omega
  refine ⟨q.2, F ++ [true], q.1 ++ L.drop n, by rw [ht]; exact h1, by rw [ht, ← h2]; simp, by simp; omega, hl, by rw [hd]; exact h5, ?_, g3, hB, hF, ?_⟩
  · exact fine_join ⟨g1, g2⟩ hO (by rw [g1, List.length_drop]; have := h6.1; have := h6.2.1; omega)
  · rw [hz, ← flags_next (f := false) h3 (by omega), boolC_set _ _ _ _ _ (by simp; omega)]
    simp
def H2B (w3 : World) (T p : Nat) (x : Wd) (vl vs : Value) (g N cap n z j : Nat) (wr : World) (S : List Int) (G : List Bool) (L : List Bd) : Prop :=
  (gon 2 (x.bods.drop j) (L.take n, S)).1 = (takesQ x).1 ∧ G ++ (gon 2 (x.bods.drop j) (L.take n, S)).2 = (takesQ x).2 ∧ n + G.length = j ∧ L.length = N ∧ L.drop n = x.bods.drop n ∧ Fine x.rows n L ∧ ScB n S ∧
  BxW wr T p ⟨x.rows, x.tick, x.seed, S, L⟩ vl vs (.slice (some ⟨g, 0, none⟩) N cap) ∧ FrZ T p vs (.slice (some ⟨g, 0, none⟩) N cap) z w3 wr ∧
  wr.heap[z]? = some (.cells (boolC (List.replicate n false ++ orL ((hitsQ x).2.take (j - n)) G ++ (hitsQ x).2.drop (j - n))) 4 (0, 0))
def H2R (w3 : World) (T p : Nat) (x : Wd) (vl vs : Value) (g N cap n z j : Nat) (wr : World) : Prop := ∃ S G L, H2B w3 T p x vl vs g N cap n z j wr S G L
theorem orL_snoc {F G : List Bool} {i : Nat} (hi : i < F.length) (hG : G.length = i) (b : Bool) : orL (F.take (i + 1)) (G ++ [b]) = orL (F.take i) G ++ [F[i] || b] := by
  unfold orL
  rw [List.take_succ_eq_append_getElem hi, List.zipWith_append (by simp; omega)]
  rfl
theorem h2_start (h : H1R w3 T p x vl vs g N cap n z j wr) (hx : FineX x) (hn : n = x.scores.length) (hN : N = x.bods.length) (hj : j = x.bods.length) : H2R w3 T p x vl vs g N cap n z n wr := by
  obtain ⟨S, F, L, h1, h2, h3, h4, h5, h6, h7, h8, h9, h10⟩ := h
  rw [List.drop_of_length_le (by omega)] at h1 h2
  simp only [gon, List.append_nil] at h1 h2
  refine ⟨S, [], L, ?_, ?_, by simp, h4, h5, h6, h7, h8, h9, ?_⟩
  · rw [h1]; unfold takesQ; rw [hn]
  · rw [h1]; unfold takesQ; rw [hn]; rfl
  · rw [h10, h2, Nat.sub_self, show N - j = 0 by omega]
    simp [orL]
theorem h2_lens (hn : n = x.scores.length) : (hitsQ x).2.length = x.bods.length - n := by
  unfold hitsQ; rw [gon_len, List.length_drop, hn]
theorem h2_none {S : List Int} {G : List Bool} {L : List Bd} (h : H2B w3 T p x vl vs g N cap n z j wr S G L) (hn : n = x.scores.length) (hN : N = x.bods.length) (hj : j < x.bods.length) (hb : act1 2 x.bods[j] (L.take n, S) = none) (hB : Below wr.heap.size wr w2) : H2R w3 T p x vl vs g N cap n z (j + 1) w2 := by
  obtain ⟨h1, h2, h3, h4, h5, h6, h7, h8, h9, h10⟩ := h
  have hT := Nat.le_of_lt h8.low
  have hl := h2_lens hn
  rw [List.drop_eq_getElem_cons hj, gon_none hb] at h1 h2
  dsimp only at h1 h2
  refine ⟨S, G ++ [false], L, h1, by rw [← h2]; simp, by simp; omega, h4, h5, h6, h7, h8.keep hB hT, h9.fr (FrW.below hB hT), ?_⟩
  rw [keepHeap hB h10, show j + 1 - n = (j - n) + 1 by omega, orL_snoc (by omega) (by omega), Bool.or_false, List.drop_eq_getElem_cons (i := j - n) (by omega)]
  simp
theorem h2_some {S : List Int} {G : List Bool} {L : List Bd} {q : PtS} (h : H2B w3 T p x vl vs g N cap n z j wr S G L) (hn : n = x.scores.length) (hN : N = x.bods.length) (hj : j < x.bods.length) (hb : act1 2 x.bods[j] (L.take n, S) = some q)
    (hB : BxW w2 T p ⟨x.rows, x.tick, x.seed, q.2, q.1 ++ L.drop n⟩ vl vs (.slice (some ⟨g, 0, none⟩) N cap)) (hF : FrZ T p vs (.slice (some ⟨g, 0, none⟩) N cap) z w3 w2)
    (hz : w2.heap[z]? = some (.cells ((boolC (List.replicate n false ++ orL ((hitsQ x).2.take (j - n)) G ++ (hitsQ x).2.drop (j - n))).setIfInBounds j (.bool true)) 4 (0, 0))) : H2R w3 T p x vl vs g N cap n z (j + 1) w2 := by
  obtain ⟨h1, h2, h3, h4, h5, h6, h7, h8, h9, h10⟩ := h
  obtain ⟨hP, hO⟩ := fine_part h6
  have hl2 := h2_lens hn
  obtain ⟨⟨g1, g2⟩, g3⟩ := act_ok ⟨hP, h7⟩ hb
  rw [List.drop_eq_getElem_cons hj, gon_some hb] at h1 h2
  dsimp only at h1 h2
  have hd : (q.1 ++ L.drop n).drop n = L.drop n := by rw [List.drop_append, g1, Nat.sub_self, List.drop_of_length_le (by omega)]; simp
  have ht : (q.1 ++ L.drop n).take n = q.1 := by rw [List.take_append, g1, Nat.sub_self, List.take_of_length_le (by omega)]; simp
  have hl : (q.1 ++ L.drop n).length = N := by rw [List.length_append, g1, List.length_drop]; have := h6.1; omega
  refine ⟨q.2, G ++ [true], q.1 ++ L.drop n, by rw [ht]; exact h1, by rw [ht, ← h2]; simp, by simp; omega, hl, by rw [hd]; exact h5, ?_, g3, hB, hF, ?_⟩
  · exact fine_join ⟨g1, g2⟩ hO (by rw [g1, List.length_drop]; have := h6.1; have := h6.2.1; omega)
  · rw [hz, List.drop_eq_getElem_cons (i := j - n) (by omega), boolC_set _ _ _ _ _ (by simp [orL]; omega), show j + 1 - n = (j - n) + 1 by omega, orL_snoc (by omega) (by omega), Bool.or_true]
    simp
end
theorem info_bool : (Tryd.prog.info? 4).map (fun i => (i.zero, i.size, i.bytes)) = some (some (.bool false), 1, 1) := by kernel_rfl
theorem run_make_bools (W : World) (n : Nat) (hn : n ≤ 1048576) : (Instr.makeSlice 104 (.int .i64 (n : Int)) (.int .i64 (n : Int))).run Tryd.prog W = .ok (.slice (some ⟨W.heap.size, 0, none⟩) n n) (W.alloc (.cells (boolC (List.replicate n false)) 4)) := by
  obtain ⟨i0, hi, hz0, hz1, hz2⟩ := info_parts info_bool
  have := run_make (P := Tryd.prog) W 104 4 i0 (.bool false) Tryd.underlying104 hi hz0 .i64 .i64 n n (by omega) (Int.le_refl _) (by rw [hz2]; omega) (by omega)
  rw [this, hz1, Int.toNat_natCast, Nat.mul_one]
  rw [← boolC_zero]; rfl
end Go.Proofs.YtdnnejohfhmliaaDoor
