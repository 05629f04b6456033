/-
  FormatLevel: the contracts and the law. No condition.
-/
import Derived.Test.YtecimgennncjkaaDoorSolid
import Derived.Test.YtecimgennncjkaaDoorLvLaw
import Derived.Test.YtecimgennncjkaaDoorCap
namespace Go.Proofs.YtecimgennncjkaaDoor
open Go.RowKit
set_option linter.all false
def jn : Rowz → List UInt8
  | [] => []
  | [a] => a
  | a :: b :: r => a ++ 47 :: jn (b :: r)
theorem jn_snoc (L : Rowz) (x : List UInt8) (h : L ≠ []) : jn (L ++ [x]) = jn L ++ [47] ++ x := by
  induction L with
  | nil => exact absurd rfl h
  | cons a L ih =>
    cases L with
    | nil => simp [jn]
    | cons b r =>
      have := ih (by simp)
      simp only [List.cons_append] at this ⊢
      rw [jn, this, jn]; simp
theorem jn_len (L : Rowz) (m : Nat) (h : ∀ row ∈ L, row.length ≤ m) : (jn L).length ≤ L.length * (m + 1) := by
  induction L with
  | nil => simp [jn]
  | cons a L ih =>
    have ha := h a (by simp)
    have hi := ih (fun row hr => h row (by simp [hr]))
    cases L with
    | nil => simp [jn]; omega
    | cons b r =>
      rw [jn]
      simp only [List.length_append, List.length_cons] at hi ⊢
      rw [Nat.add_mul (r.length + 1) 1 (m + 1)]
      omega
theorem jn_join (L : Rowz) : Lib.join L [47] = jn L := by
  induction L with
  | nil => rfl
  | cons a L ih =>
    cases L with
    | nil => simp [jn, Lib.join]
    | cons b r => rw [jn, ← ih]; simp [Lib.join]
def fmtL (L : Rowz) : List UInt8 := if levelB L then jn L else []
set_option maxHeartbeats 4000000 in
theorem formatLevel_spec {w : World} {v : Value} {L : Rowz} (h : RdS w v L) (hs : Sane L) :
    Calls Tryd.prog 64 #[.agg #[v]] w fun e w' => e = .returned (.string ⟨(fmtL L).toArray⟩) ∧ Below w.heap.size w w' := by
  obtain ⟨a, cap, rfl, h0⟩ := id h
  obtain ⟨W1, hW, hA1, hb1⟩ : ∃ W1, w.alloc (.cells #[.slice a L.length cap] 42) = W1 ∧ W1.heap[w.heap.size]? = some (.cells #[.slice a L.length cap] 42 (0, 0)) ∧ Below w.heap.size w W1 := ⟨_, rfl, heap_alloc_new w _, below1 _ _⟩
  have cA1 := rowCells hA1
  have r1 := h.keep hb1
  have hs1 := hb1.size
  have hlc : (L.length : Int) ≤ 9223372036854775807 := by have := hs.1; omega
  cases hl : levelB L with
  | false =>
    have HF := Lib.hid (show fmtL L = [] by unfold fmtL; rw [hl]; rfl)
    have hL := levelOk_spec r1 hs
    rw [hl] at hL
    by_cases hn : L.length = 0
    · have hnil := List.eq_nil_of_length_eq_zero hn
      subst hnil
      go_enter Tryd.func64, Tryd.ntmps64
      go_wp2_with (fail)
      refine wp_loop_once ?_
      go_wp2_with (fail)
      go_ret
      exact ⟨by rw [HF.out]; rfl, below1 _ _⟩
    · have hpos : 0 < L.length := by omega
      clear hn hl
      go_enter Tryd.func64, Tryd.ntmps64
      go_wp2_with (fail)
      clear hW
      refine wp_loop_once ?_
      go_wp2_with (fail)
      refine hL.mono ?_
      rintro e w2 ⟨rfl, hb2⟩
      go_wp2_with (fail)
      go_ret
      exact ⟨by rw [HF.out]; rfl, hb1.trans (hb2.mono hs1)⟩
  | true =>
    have hg : Good L := levelB_facts hl
    obtain ⟨hn3, hn12, hw4, hw20, hall⟩ := id hg
    have HF := Lib.hid (show fmtL L = jn L by unfold fmtL; rw [hl]; rfl)
    obtain ⟨b, off, rfl, hc⟩ := h0.resolve_left (by intro e; rw [e] at hn3; simp at hn3)
    have hlt := World.block_lt_of_cell? w _ (hc 0 (by omega))
    have hnc : (L.length : Int) ≤ 12 := by omega
    have hL := fun W (h : RdS W (.slice (some ⟨b, off, none⟩) L.length cap) L) => levelOk_spec (w := W) (L := L) h hs
    rw [hl] at hL
    have HALL := Lib.hid hall
    have HC := Lib.hid hc
    clear hl h0 hall hc r1
    go_enter Tryd.func64, Tryd.ntmps64
    go_wp2_with (fail)
    clear hW
    go_loopw [3, 4] (fun s i wr => ∃ k : Nat, k ≤ L.length ∧ i = .int .i64 (k : Int) ∧ s = .string ⟨(jn (L.take k)).toArray⟩ ∧ wr.heap[w.heap.size]? = some (.cells #[.slice (some ⟨b, off, none⟩) L.length cap] 42 (0, 0)) ∧ Below w.heap.size w wr) (fun _ i _ => L.length - (intOf i).toNat)
    case atStart => exact ⟨0, Nat.zero_le _, rfl, rfl, hA1, hb1⟩
    case round =>
      obtain ⟨k, hk, rfl, rfl, hA, hbel⟩ := hrel
      clear cA1 hA1 hb1 hs1
      have cA := rowCells hA
      by_cases hkl : k < L.length
      · have hkl' : (k : Int) < (L.length : Int) := by omega
        have hln : (jn (L.take k)).length ≤ 300 := by
          have h1 := jn_len (L.take k) 20 (fun row hr => by rw [HALL.out row (List.mem_of_mem_take hr)]; exact hw20)
          rw [List.length_take] at h1
          omega
        obtain ⟨row, hrow⟩ : ∃ x, x = L[k] := ⟨_, rfl⟩
        have hrl : row.length ≤ 20 := by rw [hrow, HALL.out _ (List.getElem_mem _)]; exact hw20
        have cr := (hbel.cell (p := ⟨b, off + k, none⟩) hlt).trans (HC.out k hkl)
        rw [← hrow] at cr
        have hjs : k ≠ 0 → jn (L.take (k + 1)) = jn (L.take k) ++ [47] ++ row := fun hk0 => by
          rw [List.take_succ_eq_append_getElem hkl, ← hrow, jn_snoc _ _ (by intro e; have h1 := congrArg List.length e; rw [List.length_take] at h1; simp only [List.length_nil] at h1; omega)]
        have hj0 : k = 0 → jn (L.take (k + 1)) = row := fun hk0 => by subst hk0; rw [List.take_succ_eq_append_getElem hkl, ← hrow]; rfl
        have HJS := Lib.hid hjs
        have HJ0 := Lib.hid hj0
        have hr := h.keep hbel
        have hs2 := hbel.size
        clear hrow hjs hj0
        by_cases hk0 : k = 0
        · have HJ := Lib.hid (show jn (L.take (k + 1)) = jn (L.take k) ++ row by rw [HJ0.out hk0, hk0]; rfl)
          have zk : decide (0 < (k : Int)) = false := by simp [hk0]
          have zk0 : ¬ 0 < k := by omega
          clear hk0
          generalize jn (L.take k) = s at hln HJ ⊢
          go_wp2_with (fail)
          refine (hL _ hr).mono ?_
          rintro e w2 ⟨rfl, hb2⟩
          have hA2 := keepHeap hb2 hA
          have cA2 := rowCells hA2
          have cr2 := (hb2.cell (p := ⟨b, off + k, none⟩) (by simp; omega)).trans cr
          go_wp2_with (fail)
          go_roundw
          case rel => exact ⟨k + 1, by omega, by go_num, by rw [HJ.out, ByteArray.mk_append_mk], hA2, hbel.trans (hb2.mono hs2)⟩
          case measure => simp [intOf]; omega
        · have HJ := Lib.hid (HJS.out hk0)
          have zk : decide (0 < (k : Int)) = true := by simp; omega
          have hkp : 0 < k := by omega
          clear hk0
          generalize jn (L.take k) = s at hln HJ ⊢
          go_wp2_with (fail)
          refine (hL _ hr).mono ?_
          rintro e w2 ⟨rfl, hb2⟩
          have hA2 := keepHeap hb2 hA
          have cA2 := rowCells hA2
          have cr2 := (hb2.cell (p := ⟨b, off + k, none⟩) (by simp; omega)).trans cr
          go_wp2_with (fail)
          go_roundw
          case rel => exact ⟨k + 1, by omega, by go_num, by rw [HJ.out, ByteArray.mk_append_mk, ByteArray.mk_append_mk], hA2, hbel.trans (hb2.mono hs2)⟩
          case measure => simp [intOf]; omega
      · have e : k = L.length := by omega
        subst e
        rw [List.take_of_length_le (Nat.le_refl _)]
        go_wp2_with (fail)
        go_ret
        exact ⟨by rw [HF.out]; rfl, hbel⟩
set_option maxHeartbeats 4000000 in
theorem formatLevel_impl {w : World} {v : Value} {L : Rowz} (h : RdS w v L) (hs : Sane L) (hcp : CapOk v) :
    Calls Tryd.prog 70 #[.agg #[v]] w fun e w' => e = .returned (.string ⟨(fmtL L).toArray⟩) ∧ Below w.heap.size w w' := by
  obtain ⟨a, cap, rfl, h0⟩ := id h
  obtain ⟨W1, hW, hA1, hb1⟩ : ∃ W1, w.alloc (.cells #[.slice a L.length cap] 42) = W1 ∧ W1.heap[w.heap.size]? = some (.cells #[.slice a L.length cap] 42 (0, 0)) ∧ Below w.heap.size w W1 := ⟨_, rfl, heap_alloc_new w _, below1 _ _⟩
  have cA1 := rowCells hA1
  have r1 := h.keep hb1
  have hs1 := hb1.size
  go_enter Tryd.func70, Tryd.ntmps70
  go_wp2_with (fail)
  clear hW
  refine (levelOk_impl r1 hs).mono ?_
  rintro e w2 ⟨rfl, hb2⟩
  have hb12 := hb1.trans (hb2.mono hs1)
  have cA2 := rowCells (keepHeap hb2 hA1)
  have r2 := h.keep hb12
  have hs2 := hb12.size
  clear cA1
  cases hl : levelB L with
  | false =>
    have HF := Lib.hid (show fmtL L = [] by unfold fmtL; rw [hl]; rfl)
    clear hl
    go_wp2_with (fail)
    go_ret
    exact ⟨by rw [HF.out]; rfl, hb12⟩
  | true =>
    have hg : Good L := levelB_facts hl
    obtain ⟨hn3, hn12, hw4, hw20, hall⟩ := id hg
    have HF := Lib.hid (show fmtL L = jn L by unfold fmtL; rw [hl]; rfl)
    obtain ⟨b, off, rfl, hc⟩ := h0.resolve_left (by intro e; rw [e] at hn3; simp at hn3)
    have hlt : b < w.heap.size := World.block_lt_of_cell? w _ (hc 0 (by omega))
    have e1 : (L.map fun l => (⟨l.toArray⟩ : ByteArray)).length = L.length := by simp
    have e2 : (L.map fun l => (⟨l.toArray⟩ : ByteArray)).map (·.data.toList) = L := by simp [List.map_map, Function.comp_def]
    have hln := jn_len L 20 (fun row hr => by rw [hall row hr]; exact hw20)
    have hcap : L.length ≤ cap := by
      obtain ⟨a1, n1, c1, e, h1⟩ := hcp
      simp only [Value.slice.injEq] at e
      omega
    have hJ := Tryd.strings_Join b off cap (L.map fun l => (⟨l.toArray⟩ : ByteArray)) ⟨#[47]⟩ w2 (fun j x hx => by
      rw [List.getElem?_map] at hx
      obtain ⟨l, hl1, rfl⟩ := Option.map_eq_some_iff.1 hx
      obtain ⟨hj, rfl⟩ := List.getElem?_eq_some_iff.1 hl1
      exact (hb12.cell (p := ⟨b, off + j, none⟩) hlt).trans (hc j hj)) (by omega) (by rw [e1]; omega) (by rw [e1]; exact hcap) (by rw [e2]; show (Lib.join L [47]).length ≤ _; rw [jn_join]; omega)
    rw [e1, e2] at hJ
    have hJ2 : Calls Tryd.prog 105 #[.slice (some ⟨b, off, none⟩) L.length cap, .string ⟨#[47]⟩] w2 fun e w' => e = .returned (.string ⟨(jn L).toArray⟩) ∧ Below w2.heap.size w2 w' := by
      rw [← jn_join]; exact hJ
    clear hl h0 hall hc hJ e1 e2
    go_wp2_with (fail)
    refine hJ2.mono ?_
    rintro e w3 ⟨rfl, hb3⟩
    go_wp2_with (fail)
    go_ret
    exact ⟨by rw [HF.out]; rfl, hb12.trans (hb3.mono hs2)⟩
end Go.Proofs.YtecimgennncjkaaDoor
