/-
  SolidAt whole: the contracts of the model and of the program. No condition but that the numbers are ints.
-/
import Derived.Test.YtnjjpeblbfomoaaDoorSolid
namespace Go.Proofs.YtnjjpeblbfomoaaDoor
open Go.RowKit
set_option linter.all false
theorem solidB_level {L : Rowz} {x y s : Int} (h : levelB L = false) : solidB L x y s = true := by unfold solidB; rw [h]; rfl
theorem solidB_size {L : Rowz} {x y s : Int} (h : inR s 1 16 = false) : solidB L x y s = true := by unfold solidB; rw [h]; simp
theorem solidB_in {L : Rowz} {x y s : Int} (h : levelB L = true) (h2 : inR s 1 16 = true) : solidB L x y s = blockB L x y s := by unfold solidB; rw [h, h2]; rfl
def I64 (x : Int) : Prop := -9223372036854775808 ≤ x ∧ x ≤ 9223372036854775807
theorem I64.of {x : Int} (h : (Lit.int .i64 x).wf = true) : I64 x := by
  simp only [Lit.wf, Bool.and_eq_true, decide_eq_true_eq] at h
  exact ⟨h.1, h.2⟩
set_option maxHeartbeats 2000000 in
theorem solidAt_impl {w : World} {v : Value} {L : Rowz} (h : RdS w v L) (hs : Sane L) (x y s : Int) (hx : I64 x) (hy : I64 y) :
    Calls Tryd.prog 38 #[.agg #[v], .int .i64 x, .int .i64 y, .int .i64 s] w fun e w' => e = .returned (.bool (solidB L x y s)) ∧ Below w.heap.size w w' := by
  obtain ⟨a, cap, rfl, -⟩ := id h
  obtain ⟨W1, hW, hA1, hb1⟩ : ∃ W1, w.alloc (.cells #[.slice a L.length cap] 38) = W1 ∧ W1.heap[w.heap.size]? = some (.cells #[.slice a L.length cap] 38 (0, 0)) ∧ Below w.heap.size w W1 := ⟨_, rfl, heap_alloc_new w _, below1 _ _⟩
  have cA1 := rowCells hA1
  have r1 := h.keep hb1
  have hs1 := hb1.size
  go_enter Tryd.func38, Tryd.ntmps38
  go_wp2_with (fail)
  clear hW
  refine (levelOk_impl r1 hs).mono ?_
  rintro e w2 ⟨rfl, hb2⟩
  have hb12 := hb1.trans (hb2.mono hs1)
  have cA2 := rowCells (keepHeap hb2 hA1)
  have r2 := h.keep hb12
  have hs2 := hb12.size
  clear cA1
  cases hl : levelB L with
  | false =>
    have HF := Lib.hid (solidB_level (x := x) (y := y) (s := s) hl)
    clear hl
    go_wp2_with (fail)
    go_ret
    exact ⟨by rw [HF.out]; rfl, hb12⟩
  | true =>
    have hg : Good L := levelB_facts hl
    cases hq : inR s 1 16 with
    | false =>
      have HF := Lib.hid (solidB_size (L := L) (x := x) (y := y) hq)
      have Q := Lib.hid hq
      clear hl hq
      go_wp2_with (go_at_call 59; refine (within_impl _ _ _ _).mono ?_; rintro e w3 ⟨rfl, rfl⟩; rw [Q.out])
      go_ret
      exact ⟨by rw [HF.out]; rfl, hb12⟩
    | true =>
      have HF := Lib.hid (solidB_in (x := x) (y := y) hl hq)
      have hq2 := (inR_iff _ _ _).1 hq
      obtain ⟨S, rfl⟩ := Int.eq_ofNat_of_zero_le (a := s) (by omega)
      have Q := Lib.hid hq
      have hS1 : 1 ≤ S := by omega
      have hS2 : S ≤ 16 := by omega
      clear hl hq hq2
      go_wp2_with (go_at_call 59; refine (within_impl _ _ _ _).mono ?_; rintro e w3 ⟨rfl, rfl⟩; rw [Q.out])
      refine (blocked_impl r2 hg x y S hS1 hS2 hx.2 hy.2 hx.1 hy.1).mono ?_
      rintro e w3 ⟨rfl, hb3⟩
      go_wp2_with (fail)
      go_ret
      exact ⟨by rw [HF.out]; rfl, hb12.trans (hb3.mono hs2)⟩
end Go.Proofs.YtnjjpeblbfomoaaDoor
