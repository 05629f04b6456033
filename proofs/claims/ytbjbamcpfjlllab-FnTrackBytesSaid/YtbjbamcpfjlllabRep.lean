/-
  slices.Repeat of a slice of one int. Condition: at most 400 times.
-/
import Derived.Test.YtbjbamcpfjlllabLst
import Derived.Test.YtbjbamcpfjlllabAppI
import Derived.Test.YtbjbamcpfjlllabHeap
import Derived.Test.YtbjbamcpfjlllabRep0
import Derived.Test.YtbjbamcpfjlllabShelf
import Derived.Laws.CopyOwn
import Derived.Deep.RegionLaw
namespace Go.Proofs.Ytbjbamcpfjlllab
open Go.RowKit
set_option linter.all false
theorem copy_rep {W0 W : World} {B g c n k : Nat} {e : Int} (hb : Below B W0 W) (hB : B ≤ g) (hg : W.heap[g]? = some (.cells (repL e c n).toArray 3 (0, 0))) (hn : n + k ≤ c) (a : Addr) (sLen sCap dLen dCap : Nat) (hmin : k = Nat.min sLen dLen)
    (hsrc : ∀ j, j < k → W.cell? (a.add j) = some (.int .i64 e)) :
    ∃ W', (Builtin.copy_ #[29, 29] 3 #[.slice (some ⟨g, n, none⟩) dLen dCap, .slice (some a) sLen sCap]).run Try.prog W = .ok (.int .i64 (k : Int)) W' ∧ W'.heap[g]? = some (.cells (repL e c (n + k)).toArray 3 (0, 0)) ∧ Below B W0 W' := by
  have hlen := repL_len e (c := c) (n := n) (by omega)
  have := run_copy_row (P := Try.prog) W 29 29 3 3 g n dLen dCap a sLen sCap (repL e c n).toArray 3 (List.replicate k (.int .i64 e)) Try.underlying29 size_int1 hg (by simpa using hmin)
    (fun j v hj => by
      have hj' := (List.getElem?_eq_some_iff.1 hj).1
      simp at hj'
      rw [hsrc j hj']
      simp [hj'] at hj
      rw [hj])
    (by simp [hlen]; exact hn) (by intro u hu; rw [List.mem_replicate] at hu; rw [hu.2]; rfl)
  have h2 := repL_splice e (c := c) (n := n) (k := k) hn
  unfold splice at h2
  have h3 : (repL e c n).toArray.toList.take n ++ List.replicate k (Value.int .i64 e) ++ (repL e c n).toArray.toList.drop (n + (List.replicate k (Value.int .i64 e)).length) = repL e c (n + k) := by
    rw [List.append_assoc]; exact h2
  rw [h3, List.length_replicate] at this
  exact ⟨W.setRow g (repL e c (n + k)).toArray, this, setRow_heap W g (repL e c n).toArray (repL e c (n + k)).toArray 3 (0, 0) hg, below_setRow hb hB _⟩
set_option maxRecDepth 100000 in
set_option maxHeartbeats 2000000 in
theorem repeat_one {w : World} {v : Value} (e : Int) (h : RdI w v [e]) (c : Nat) (hc : c ≤ 400) (hc1 : 1 ≤ c) :
    Calls Try.prog 28 #[v, .int .i64 (c : Int)] w fun r w' => ∃ u, r = .returned u ∧ RdI w' u (List.replicate c e) ∧ Below w.heap.size w w' := by
  obtain ⟨a, cap, rfl, h0⟩ := h
  obtain ⟨b, off, rfl, hc0⟩ := h0.resolve_left (by simp)
  have c0 : w.cell? ⟨b, off, none⟩ = some (.int .i64 e) := hc0 0 (by simp)
  have hlt := World.block_lt_of_cell? w _ c0
  have hl1 : [e].length = 1 := rfl
  rw [hl1]
  have hmk := fun W => run_make_ints W c (by omega)
  have hz : decide ((c : Int) < 0) = false := by simp
  have hM := fun (W : World) => (Try.bits_Mul 1 c (by omega) (by omega) W).mono (fun e w' h => (⟨h.1, h.2.symm⟩ : e = _ ∧ W = w'))
  have e1 : 1 * c / 18446744073709551616 = 0 := by omega
  have e2 : 1 * c % 18446744073709551616 = c := by omega
  rw [e1, e2] at hM
  clear h0 hc0 hl1 e1 e2
  go_enter Try.func28, Try.ntmps28
  have hg0 : (w.alloc (.cells (madeCells #[.int .i64 0] c) 3)).heap[w.heap.size]? = some (.cells (repL e c 0).toArray 3 (0, 0)) := by rw [← zerosL]; exact heap_new_int _ _
  obtain ⟨W2, hcp, hg2, hb2⟩ := copy_rep (k := 1) ((Below.refl w.heap.size w).alloc (Nat.le_refl _) (.cells (madeCells #[.int .i64 0] c) 3)) (Nat.le_refl _) hg0 (by omega) ⟨b, off, none⟩ 1 cap c c (by show 1 = min 1 c; omega) (fun j hj => by
    obtain rfl : j = 0 := by omega
    rw [show (⟨b, off, none⟩ : Addr).add 0 = ⟨b, off, none⟩ by simp [Addr.add]]
    exact ((below1 w _).cell hlt).trans c0)
  have HG2 := Lib.hid hg2
  clear hg0 hg2
  go_wp2_with (go_at_call 41; refine (hM _).mono ?_; rintro r w1 ⟨rfl, rfl⟩)
  have HCP := Lib.hid hcp
  clear hcp hmk hM
  go_loopw [8] (fun i wr => ∃ n : Nat, 1 ≤ n ∧ n ≤ c ∧ i = .int .i64 (n : Int) ∧ wr.heap[w.heap.size]? = some (.cells (repL e c n).toArray 3 (0, 0)) ∧ Below w.heap.size w wr) (fun i _ => c - (intOf i).toNat)
  case atStart => exact ⟨1, by omega, by omega, rfl, HG2.out, hb2⟩
  case round =>
    obtain ⟨n, hn1, hnc, rfl, hg, hbel⟩ := hrel
    by_cases hlt2 : n < c
    · have hl1 : (n : Int) < (c : Int) := by omega
      obtain ⟨k, hk⟩ : ∃ k, k = Nat.min n (c - n) := ⟨_, rfl⟩
      have hk1 : 1 ≤ k ∧ n + k ≤ c ∧ k ≤ n := by
        have h1 : k ≤ n := by rw [hk]; exact Nat.min_le_left _ _
        have h2 : k ≤ c - n := by rw [hk]; exact Nat.min_le_right _ _
        have h3 : 1 ≤ k := by rw [hk]; exact Nat.le_min.2 ⟨hn1, by omega⟩
        omega
      have hs1 : ∀ W, (Instr.slice 29 (.slice (some ⟨w.heap.size, 0, none⟩) c c) (some (.int .i64 (n : Int))) none none).run Try.prog W = .ok (.slice (some ⟨w.heap.size, n, none⟩) (c - n) (c - n)) W := fun W => by
        have := slice_up W w.heap.size 0 c c n hlt2 (Nat.le_refl _)
        rwa [Nat.zero_add] at this
      have hs2 := fun W => slice_low W w.heap.size 0 c c n hnc (Nat.le_refl _)
      obtain ⟨W3, hcp, hg3, hb3⟩ := copy_rep (W := wr.drew) (k := k) (hbel.trans ((belowDrew wr 1).mono hbel.size)) (Nat.le_refl _) hg hk1.2.1 ⟨w.heap.size, 0, none⟩ n c (c - n) (c - n) hk (fun j hj => by
        have hjn : j < n := by have := hk1.2.2; omega
        rw [Addr.add_lit, Nat.zero_add]
        show wr.cell? _ = _
        rw [Lib.cell_of_heap hg]
        simp [repL_at e hjn])
      have HG3 := Lib.hid hg3
      have HG := Lib.hid hg
      have HK := Lib.hid hk
      clear hg hg3 hk
      go_wp2_with (fail)
      go_region
      go_wp2_with (fail)
      go_roundw
      case rel => exact ⟨n + k, by omega, by omega, by go_num, HG3.out, hb3⟩
      case measure => simp [intOf]; omega
    · obtain rfl : n = c := by omega
      have HG := Lib.hid hg
      clear hg
      go_wp2_with (fail)
      go_ret
      exact ⟨_, rfl, rdI_rep e HG.out, hbel⟩
set_option maxRecDepth 100000 in
set_option maxHeartbeats 2000000 in
theorem repeat_zero {w : World} {v : Value} (e : Int) (h : RdI w v [e]) :
    Calls Try.prog 28 #[v, .int .i64 0] w fun r w' => ∃ u, r = .returned u ∧ RdI w' u [] ∧ Below w.heap.size w w' := by
  obtain ⟨a, cap, rfl, -⟩ := h
  have hl1 : [e].length = 1 := rfl
  rw [hl1]
  have hmk : ∀ W, (Instr.makeSlice 29 (.int .i64 0) (.int .i64 0)).run Try.prog W = .ok (.slice (some ⟨W.heap.size, 0, none⟩) 0 0) (W.alloc (.cells (madeCells #[.int .i64 0] 0) 3)) := fun W => run_make_ints W 0 (by omega)
  have hM := fun (W : World) => (Try.bits_Mul 1 0 (by omega) (by omega) W).mono (fun e w' h => (⟨h.1, h.2.symm⟩ : e = _ ∧ W = w'))
  have hcp := fun W (d : Option Addr) => run_copy_none (P := Try.prog) W 29 29 3 3 d a 0 0 1 cap Try.underlying29 size_int1 rfl
  clear hl1
  go_enter Try.func28, Try.ntmps28
  go_wp2_with (go_at_call 41; refine (hM _).mono ?_; rintro r w1 ⟨rfl, rfl⟩)
  refine wp_loop_once ?_
  go_wp2_with (fail)
  go_ret
  exact ⟨_, rfl, ⟨_, _, rfl, .inl rfl⟩, (Below.refl _ _).alloc (Nat.le_refl _) _⟩
theorem repeat_any {w : World} {v : Value} (e : Int) (h : RdI w v [e]) (c : Nat) (hc : c ≤ 400) :
    Calls Try.prog 28 #[v, .int .i64 (c : Int)] w fun r w' => ∃ u, r = .returned u ∧ RdI w' u (List.replicate c e) ∧ Below w.heap.size w w' := by
  rcases Nat.eq_zero_or_pos c with rfl | h1
  · exact repeat_zero e h
  · exact repeat_one e h c hc h1
end Go.Proofs.Ytbjbamcpfjlllab
