/-
  Texts of this proof: FormL, LvP.
-/
import Derived.Test.YtehjafaobaoleaaDoorM19
import Derived.Test.YtehjafaobaoleaaDoorM26
import Derived.Test.YtehjafaobaoleaaDoorM28
import Derived.Test.YtehjafaobaoleaaDoorM42
import Derived.Test.YtehjafaobaoleaaDoorM27
import Derived.Test.YtehjafaobaoleaaDoorM45
import Derived.Test.YtehjafaobaoleaaDoorM20
namespace Go.Proofs.YtehjafaobaoleaaDoor
open Go.RowKit
set_option linter.all false
def jn : Rowz → List UInt8
 | [] => []
 | [a] => a
 | a :: b :: r => a ++ 47 :: jn (b :: r)
theorem jn_len (L : Rowz) (m : Nat) (h : ∀ row ∈ L, row.length ≤ m) : (jn L).length ≤ L.length * (m + 1) := by
 induction L with
 | nil => simp [jn]
 | cons a L ih =>
  have ha := h a (by simp)
  have hi := ih (fun row hr => h row (by simp [hr]))
  cases L with
  | nil => simp [jn]; omega
  | cons b r =>
   rw [jn]
   simp only [List.length_append, List.length_cons] at hi ⊢
   rw [Nat.add_mul (r.length + 1) 1 (m + 1)]
   omega
theorem jn_join (L : Rowz) : Lib.join L [47] = jn L := by
 induction L with
 | nil => rfl
 | cons a L ih =>
  cases L with
  | nil => simp [jn, Lib.join]
  | cons b r => rw [jn, ← ih]; simp [Lib.join]
def fmtL (L : Rowz) : List UInt8 := if levelB L then jn L else []
set_option maxHeartbeats 4000000 in
theorem formatLevel_impl {w : World} {v : Value} {L : Rowz} (h : RdS w v L) (hs : Sane L) (hcp : CapOk v) :
  Calls Tryd.prog 6 #[.agg #[v]] w fun e w' => e = .returned (.string ⟨(fmtL L).toArray⟩) ∧ Below w.heap.size w w' := by
 obtain ⟨a, cap, rfl, h0⟩ := id h
 obtain ⟨W1, hW, hA1, hb1⟩ : ∃ W1, w.alloc (.cells #[.slice a L.length cap] 26) = W1 ∧ W1.heap[w.heap.size]? = some (.cells #[.slice a L.length cap] 26 (0, 0)) ∧ Below w.heap.size w W1 := ⟨_, rfl, heap_alloc_new w _, below1 _ _⟩
 have cA1 := rowCells hA1
 have r1 := h.keep hb1
 have hs1 := hb1.size
 go_enter Tryd.func6, Tryd.ntmps6
 go_wp2_with (fail)
 clear hW
 refine (levelOk_impl r1 hs).mono ?_
 rintro e w2 ⟨rfl, hb2⟩
 have hb12 := hb1.trans (hb2.mono hs1)
 have cA2 := rowCells (keepHeap hb2 hA1)
 have r2 := h.keep hb12
 have hs2 := hb12.size
 clear cA1
 cases hl : levelB L with
 | false =>
  have HF := Lib.hid (show fmtL L = [] by unfold fmtL; rw [hl]; rfl)
  clear hl
  go_wp2_with (fail)
  go_ret
  exact ⟨by rw [HF.out]; rfl, hb12⟩
 | true =>
  have hg : Good L := levelB_facts hl
  obtain ⟨hn3, hn12, hw4, hw20, hall⟩ := id hg
  have HF := Lib.hid (show fmtL L = jn L by unfold fmtL; rw [hl]; rfl)
  obtain ⟨b, off, rfl, hc⟩ := h0.resolve_left (by intro e; rw [e] at hn3; simp at hn3)
  have hlt : b < w.heap.size := World.block_lt_of_cell? w _ (hc 0 (by omega))
  have e1 : (L.map fun l => (⟨l.toArray⟩ : ByteArray)).length = L.length := by simp
  have e2 : (L.map fun l => (⟨l.toArray⟩ : ByteArray)).map (·.data.toList) = L := by simp [List.map_map, Function.comp_def]
  have hln := jn_len L 20 (fun row hr => by rw [hall row hr]; exact hw20)
  have hcap : L.length ≤ cap := by
   obtain ⟨a1, n1, c1, e, h1⟩ := hcp
   simp only [Value.slice.injEq] at e
   omega
  have hJ := Tryd.strings_Join b off cap (L.map fun l => (⟨l.toArray⟩ : ByteArray)) ⟨#[47]⟩ w2 (fun j x hx => by
   rw [List.getElem?_map] at hx
   obtain ⟨l, hl1, rfl⟩ := Option.map_eq_some_iff.1 hx
   obtain ⟨hj, rfl⟩ := List.getElem?_eq_some_iff.1 hl1
   exact (hb12.cell (p := ⟨b, off + j, none⟩) hlt).trans (hc j hj)) (by omega) (by rw [e1]; omega) (by rw [e1]; exact hcap) (by rw [e2]; show (Lib.join L [47]).length ≤ _; rw [jn_join]; omega)
  rw [e1, e2] at hJ
  have hJ2 : Calls Tryd.prog 20 #[.slice (some ⟨b, off, none⟩) L.length cap, .string ⟨#[47]⟩] w2 fun e w' => e = .returned (.string ⟨(jn L).toArray⟩) ∧ Below w2.heap.size w2 w' := by
   rw [← jn_join]; exact hJ
  clear hl h0 hall hc hJ e1 e2
  go_wp2_with (fail)
  refine hJ2.mono ?_
  rintro e w3 ⟨rfl, hb3⟩
  go_wp2_with (fail)
  go_ret
  exact ⟨by rw [HF.out]; rfl, hb12.trans (hb3.mono hs2)⟩
end Go.Proofs.YtehjafaobaoleaaDoor
namespace Go.Proofs.YtehjafaobaoleaaDoor
open Go.RowKit
set_option linter.all false
def lvGood (l : List UInt8) (L : Rowz) : Bool := decide (fmtL L = l) && (levelB L && ((List.range 4).all (fun k => !solidB L (startI L (k : Int)).1 (startI L (k : Int)).2 12 && (decide (-1 ≤ (startI L (k : Int)).1) && (decide ((startI L (k : Int)).1 ≤ 1000) && (decide (-1 ≤ (startI L (k : Int)).2) && decide ((startI L (k : Int)).2 ≤ 1000))))) &&
 ((spotsP L).all (fun p => !solidB L p.1 p.2 8 && (decide (0 ≤ p.1) && (decide (p.1 ≤ 1000) && (decide (0 ≤ p.2) && decide (p.2 ≤ 1000))))) && (decide ((spotsP L).length ≤ 100) && solidB L 0 0 1))))
set_option maxRecDepth 100000 in
theorem lv5_good : lv5.all (fun l => lvGood l (cutS l)) = true := by decide
theorem lv5_facts {L : Rowz} (h : Lv5 L) : ∃ l ∈ lv5, L = cutS l ∧ fmtL L = l ∧ levelB L = true ∧ (∀ k : Nat, k < 4 → solidB L (startI L (k : Int)).1 (startI L (k : Int)).2 12 = false ∧ (-1 ≤ (startI L (k : Int)).1 ∧ (startI L (k : Int)).1 ≤ 1000) ∧ -1 ≤ (startI L (k : Int)).2 ∧ (startI L (k : Int)).2 ≤ 1000) ∧
  (∀ p ∈ spotsP L, solidB L p.1 p.2 8 = false ∧ (0 ≤ p.1 ∧ p.1 ≤ 1000) ∧ 0 ≤ p.2 ∧ p.2 ≤ 1000) ∧ (spotsP L).length ≤ 100 ∧ solidB L 0 0 1 = true := by
 obtain ⟨l, hl, rfl⟩ := h
 have hg := List.all_eq_true.1 lv5_good l hl
 unfold lvGood at hg
 simp only [Bool.and_eq_true, decide_eq_true_eq, List.all_eq_true, Bool.not_eq_true'] at hg
 obtain ⟨h1, h2, h3, h4, h5, h6⟩ := hg
 exact ⟨l, hl, rfl, h1, h2, fun k hk => by obtain ⟨a, b, c, d, e⟩ := h3 k (List.mem_range.2 hk); exact ⟨a, ⟨b, c⟩, d, e⟩, fun p hp => by obtain ⟨a, b, c, d, e⟩ := h4 p hp; exact ⟨a, ⟨b, c⟩, d, e⟩, h5, h6⟩
theorem lv5_len {l : List UInt8} (h : l ∈ lv5) : l.length ≤ 100 := by
 obtain ⟨k, hk, rfl⟩ := List.getElem_of_mem h
 exact (lv5_ok k hk).2
end Go.Proofs.YtehjafaobaoleaaDoor
