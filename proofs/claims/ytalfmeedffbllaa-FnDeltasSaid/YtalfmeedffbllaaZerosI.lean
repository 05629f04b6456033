/-
  The contract of writeRuns, which PackZeros calls for each pair of runs.
-/
import Derived.Test.YtalfmeedffbllaaZeros
import Derived.Test.YtalfmeedffbllaaBld
namespace Go.Proofs.Ytalfmeedffbllaa
open Go.RowKit
set_option linter.all false
theorem Bld.kept {w w' : World} {B b : Nat} {l : List UInt8} (h : Bld w B b l) (hb : Below w.heap.size w w') : Bld w' B b l := by
  have key : ∀ p, Lib.BuilderAtF 48 5 B b p (Lib.byteCells l) w → Lib.BuilderAtF 48 5 B b p (Lib.byteCells l) w' := by
    rintro p ⟨hB, v, hbk, hown, hne⟩
    have hlt : b < w.heap.size := by
      rcases Nat.lt_or_ge b w.heap.size with h' | h'
      · exact h'
      · simp [Array.getElem?_eq_none h'] at hbk
    exact ⟨hB, v, by rw [hb.block b hlt]; exact hbk, hown.kept (row := none) ⟨hb.os, hb.tape, hb.output, hb.size, fun k hk _ => hb.block k hk⟩ (by cases v.ownBlock <;> simp), hne⟩
  rcases h with h | h
  · exact .inl (key _ h)
  · exact .inr (key _ h)
theorem encI_six (x : Int) : (encI x).length ≤ 6 := by
  unfold encI; split
  · simp
  · exact encV_len6 (by omega)
/-- Every iterator but the one block's stands where it stood. -/
def Iters (b : Nat) (w w' : World) : Prop := ∀ k s pos, k ≠ b → w.heap[k]? = some (.stringIter s pos) → w'.heap[k]? = some (.stringIter s pos)
theorem Iters.trans {b : Nat} {w1 w2 w3 : World} (h : Iters b w1 w2) (h' : Iters b w2 w3) : Iters b w1 w3 := fun k s pos hk e => h' k s pos hk (h k s pos hk e)
theorem Iters.kept {b : Nat} {w w' : World} (h : Kept b w w') : Iters b w w' := fun k s pos hk e => h.iter e hk
theorem Iters.below {b : Nat} {w w' : World} (h : Below w.heap.size w w') : Iters b w w' := fun k s pos _ e => by
  have hlt : k < w.heap.size := (Array.getElem?_eq_some_iff.1 e).1
  rw [h.block k hlt]; exact e
/-- One pair of runs, by the places where they end. -/
theorem packZ_span {l : List UInt8} {k a b : Nat} (hka : k ≤ a) (hab : a ≤ b) (hkb : k < b) (hb : b ≤ l.length)
    (hz : ∀ j (h : j < l.length), k ≤ j → j < a → l[j] = 0) (ho : ∀ j (h : j < l.length), a ≤ j → j < b → l[j] ≠ 0)
    (h1 : a = b → b = l.length) (h2 : ∀ h : b < l.length, l[b] = 0) :
    packZ (l.drop k) = encI ((a : Int) - (k : Int)) ++ packT ((l.drop a).take (b - a)) ++ packZ (l.drop b) := by
  have e1 : l.drop k = (l.drop k).take (a - k) ++ ((l.drop a).take (b - a) ++ l.drop b) := by
    have x1 : (l.drop k).drop (a - k) = l.drop a := by rw [List.drop_drop]; congr 1; omega
    have x2 : (l.drop a).drop (b - a) = l.drop b := by rw [List.drop_drop]; congr 1; omega
    rw [← x2, List.take_append_drop, ← x1, List.take_append_drop]
  have n1 : ((l.drop k).take (a - k)).length = a - k := by rw [List.length_take, List.length_drop]; omega
  have n2 : ((l.drop a).take (b - a)).length = b - a := by rw [List.length_take, List.length_drop]; omega
  have r := packZ_runs e1 ?_ ?_ ?_ ?_ ?_
  · rw [n1, show (((a - k : Nat)) : Int) = (a : Int) - (k : Int) by omega] at r
    exact r
  · intro x hx
    obtain ⟨j, hj, rfl⟩ := List.mem_iff_getElem.1 hx
    rw [n1] at hj
    rw [List.getElem_take, List.getElem_drop]
    exact hz (k + j) (by omega) (by omega) (by omega)
  · intro x hx
    obtain ⟨j, hj, rfl⟩ := List.mem_iff_getElem.1 hx
    rw [n2] at hj
    rw [List.getElem_take, List.getElem_drop]
    exact ho (a + j) (by omega) (by omega) (by omega)
  · intro e
    have := congrArg List.length e
    rw [List.length_append, n1, n2] at this
    simp at this; omega
  · intro e
    have := congrArg List.length e
    rw [n2] at this
    have hbl := h1 (by simp at this; omega)
    rw [hbl]; simp
  · intro x hx
    by_cases hbl : b < l.length
    · rw [List.head?_drop, List.getElem?_eq_getElem hbl] at hx
      have := h2 hbl
      simp at hx; rw [← hx]; exact this
    · rw [List.drop_of_length_le (by omega)] at hx; simp at hx
set_option maxHeartbeats 1000000 in
theorem writeRuns_impl {w : World} {B b : Nat} {l : List UInt8} (h : Bld w B b l) (hB : B + 1 ≤ w.heap.size) (z : Int) (os : List UInt8) (hl : l.length ≤ 35184372088832) (ho : os.length ≤ 35184372088832) :
    Calls Try.prog 34 #[.pointer (some ⟨b, 0, none⟩), .int .i64 z, .string ⟨os.toArray⟩] w fun e w' => e = .returned (.tuple #[]) ∧ Bld w' B b (l ++ encI z ++ packT os) ∧ Below B w w' ∧ Iters b w w' := by
  have he := encI_six z
  have hp := packT_len os
  go_enter Try.func34, Try.ntmps34
  go_wp2_with (first
    | (go_at_call 17; refine (encodeVarint_impl _ _).mono ?_; rintro e w1 ⟨rfl, hb1⟩; have hbl1 := h.kept hb1; have hs1 := hb1.size)
    | (go_at_call 50; refine (packText_impl _ _ (by omega)).mono ?_; rintro e w3 ⟨rfl, hb3⟩; have hbl3 := hbl2.kept hb3; have hs3 := hb3.size)
    | (go_at_call 49; refine (bld_write hbl1 _ (by omega) (by omega)).mono ?_; rintro e w2 ⟨rfl, hbl2, hb2, hk2⟩; have hs2 := hb2.size)
    | (go_at_call 49; refine (bld_write hbl3 _ (by simp; omega) (by omega)).mono ?_; rintro e w4 ⟨rfl, hbl4, hb4, hk4⟩; have hs4 := hb4.size))
  refine bodyPost_end (results_none rfl _ _ _) rfl ?_
  exact ⟨rfl, hbl4, ((hb1.mono (by omega)).trans hb2).trans ((hb3.mono (by omega)).trans hb4), ((Iters.below hb1).trans (Iters.kept hk2)).trans ((Iters.below hb3).trans (Iters.kept hk4))⟩
end Go.Proofs.Ytalfmeedffbllaa
