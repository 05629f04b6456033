/-
  Texts of this proof: StartI.
-/
import Derived.Test.YtehjafaobaoleaaDoorM24
import Derived.Test.YtehjafaobaoleaaDoorM26
namespace Go.Proofs.YtehjafaobaoleaaDoor
open Go.RowKit
set_option linter.all false
def optI : Option Nat → Int
 | some c => (c : Int)
 | none => -1
theorem colOf_shift (p : UInt8 → Bool) (l : List UInt8) : ∀ k, colOf p l (k + 1) = (colOf p l k).map (· + 1) := by
 induction l with
 | nil => intro k; rfl
 | cons a l ih =>
  intro k
  simp only [colOf]
  split
  ·rfl
  ·exact ih (k + 1)
theorem indexByte_col (l : List UInt8) (c : UInt8) : Lib.indexByte l c = optI (colOf (· == c) l 0) := by
 induction l with
 | nil => rfl
 | cons a l ih =>
  rw [Lib.indexByte, colOf, ih]
  by_cases h : (a == c) = true
  ·rw [if_pos h, if_pos h]; rfl
  ·rw [if_neg h, if_neg h, colOf_shift]
   cases colOf (· == c) l 0 with
   | none => rfl
   | some k =>
    have e : (optI (some k) == -1) = false := by simp [optI]
    show (if (optI (some k) == -1) = true then (-1 : Int) else optI (some k) + 1) = optI (some (k + 1))
    rw [e]; simp [optI]
theorem colOf_congr {p q : UInt8 → Bool} (h : ∀ c, p c = q c) (l : List UInt8) : ∀ k, colOf p l k = colOf q l k := by
 induction l with
 | nil => intro k; rfl
 | cons a l ih => intro k; simp only [colOf, h a, ih]
theorem openC_col (row : List UInt8) : openC row = optI (colOf openP row 0) := by
 have key : ∀ (l : List UInt8) (k : Nat), colOf openP l k = if l.dropWhile (· == 35) = [] then none else some (k + (l.length - (l.dropWhile (· == 35)).length)) := by
  intro l
  induction l with
  | nil => intro k; rfl
  | cons a l ih =>
   intro k
   have hl := dropWhile_len l (· == 35)
   rw [colOf, List.dropWhile_cons, ih]
   by_cases h : a = 35
   ·subst h
    rw [if_neg (by unfold openP; decide), if_pos (show ((35 : UInt8) == 35) = true from rfl)]
    by_cases e : l.dropWhile (· == 35) = []
    ·rw [if_pos e, if_pos e]
    ·rw [if_neg e, if_neg e]; congr 1; simp; omega
   ·have h1 : openP a = true := by unfold openP; simp; intro e; exact h (by rw [← UInt8.toNat_inj]; exact e)
    have h2 : ¬ (a == 35) = true := by simpa using h
    rw [if_pos h1, if_neg h2, if_neg (by simp)]; simp
 unfold openC
 rw [key]
 have hl := dropWhile_len row (· == 35)
 split
 ·rfl
 ·simp only [optI]; omega
theorem index_digit (row : List UInt8) (P : Nat) (hP : P ≤ 3) (w : World) : Calls Tryd.prog 44 #[.string ⟨row.toArray⟩, .int .u8 (49 + (P : Int))] w fun e w' => e = .returned (.int .i64 (optI (colOf (digitP P) row 0))) ∧ w = w' := by
 refine (Tryd.strings_IndexByte _ _ w).mono ?_
 rintro e w' ⟨rfl, rfl⟩
 refine ⟨ret_int ?_, rfl⟩
 rw [indexByte_col]
 congr 1
 refine colOf_congr (fun c => ?_) _ 0
 unfold digitP
 rw [Bool.eq_iff_iff, beq_iff_eq, decide_eq_true_iff, ← UInt8.toNat_inj]
 have e : (49 + (P : Int)).toNat = 49 + P := by omega
 rw [e]
 show c.toNat = (UInt8.ofNat (49 + P)).toNat ↔ _
 simp; omega
set_option maxRecDepth 100000 in
set_option maxHeartbeats 4000000 in
theorem startIn_any {w : World} {v : Value} {L : Rowz} (h : RdS w v L) (hg : Good L) (P : Nat) (hP : P ≤ 3) :
  Calls Tryd.prog 26 #[.agg #[v], .int .i64 (P : Int)] w fun e w' => e = .returned (retXY (placeT (startT L P))) ∧ Below w.heap.size w w' := by
 obtain ⟨a, cap, rfl, h0⟩ := id h
 obtain ⟨hn3, hn12, hw4, hw20, -⟩ := id hg
 obtain ⟨b, off, rfl, hc⟩ := h0.resolve_left (by intro e; rw [e] at hn3; simp at hn3)
 have hlt := World.block_lt_of_cell? w _ (hc 0 (by omega))
 obtain ⟨W0, hW, hA, hB0⟩ : ∃ W0, w.alloc (.cells #[.slice (some ⟨b, off, none⟩) L.length cap] 26) = W0 ∧ W0.heap[w.heap.size]? = some (.cells #[.slice (some ⟨b, off, none⟩) L.length cap] 26 (0, 0)) ∧ Below w.heap.size w W0 := ⟨_, rfl, heap_alloc_new w _, below1 _ _⟩
 have cA := rowCells hA
 have HC := Lib.hid (fun r (hr : r < L.length) => (hB0.cell (p := ⟨b, off + r, none⟩) hlt).trans (hc r hr))
 have hnc : (L.length : Int) ≤ 12 := by omega
 have hPc : (P : Int) ≤ 3 := by omega
 have hw8 : IntKind.u8.wrap (49 + (P : Int)) = 49 + (P : Int) := by rw [IntKind.wrap_u8']; omega
 clear h h0 hc
 go_enter Tryd.func26, Tryd.ntmps26
 go_wp2_with (fail)
 clear hW
 go_loop [15] (fun i => ∃ k : Nat, k ≤ L.length ∧ i = .int .i64 (k : Int) ∧ tileOf (digitP P) L 0 = tileOf (digitP P) (L.drop k) k) (fun i => L.length - (intOf i).toNat)
 case atStart => exact ⟨0, Nat.zero_le _, rfl, by rw [List.drop_zero]⟩
 case round =>
  obtain ⟨k, hk, rfl, hat⟩ := hrel
  by_cases hkl : k < L.length
  ·have hkl' : (k : Int) < (L.length : Int) := by omega
   obtain ⟨row, hrow⟩ : ∃ x, x = L[k] := ⟨_, rfl⟩
   have cr := HC.out k hkl
   have hrl := hg.row hkl
   have hd := tileOf_drop (digitP P) L k hkl k
   rw [← hat] at hd
   rw [← hrow] at cr hrl hd
   have HI := fun W => index_digit row P hP W
   cases hcol : colOf (digitP P) row 0 with
   | some c =>
    rw [hcol] at hd HI
    have hcl := (colOf_lt _ _ _ _ hcol).2
    have HR := Lib.hid (show placeT (startT L P) = (16 * (c : Int) + 2, 16 * (k : Int) + 2) by unfold startT; rw [hd]; rfl)
    have hc20 : (c : Int) ≤ 20 := by omega
    clear hat hd hrow hrl hcol
    simp only [optI] at HI
    go_wp2_with (go_at_call 44; refine (HI _).mono ?_; rintro e w1 ⟨rfl, rfl⟩)
    go_ret2
    exact ⟨by rw [HR.out]; rfl, hB0⟩
   | none =>
    rw [hcol] at hd HI
    have HN := Lib.hid hd
    clear hat hd hrow hrl hcol
    simp only [optI] at HI
    go_wp2_with (go_at_call 44; refine (HI _).mono ?_; rintro e w1 ⟨rfl, rfl⟩)
    go_round
    case rel => exact ⟨k + 1, by omega, by go_num, HN.out⟩
    case measure => simp [intOf]; omega
  ·have e : k = L.length := by omega
   subst e
   rw [List.drop_of_length_le (Nat.le_refl _)] at hat
   have HD := Lib.hid (show startT L P = tileOf openP L 0 by unfold startT; rw [hat]; rfl)
   clear hat
   go_wp2_with (fail)
   go_loop [37] (fun i => ∃ k : Nat, k ≤ L.length ∧ i = .int .i64 (k : Int) ∧ tileOf openP L 0 = tileOf openP (L.drop k) k) (fun i => L.length - (intOf i).toNat)
   case atStart => exact ⟨0, Nat.zero_le _, rfl, by rw [List.drop_zero]⟩
   case round =>
    clear hk hkl
    obtain ⟨k, hk, rfl, hat⟩ := hrel
    by_cases hkl : k < L.length
    ·have hkl' : (k : Int) < (L.length : Int) := by omega
     obtain ⟨row, hrow⟩ : ∃ x, x = L[k] := ⟨_, rfl⟩
     have cr := HC.out k hkl
     have hrl := hg.row hkl
     have hd := tileOf_drop openP L k hkl k
     rw [← hat] at hd
     rw [← hrow] at cr hrl hd
     have HI := fun W => openColumn_any row (by omega) W
     rw [openC_col] at HI
     cases hcol : colOf openP row 0 with
     | some c =>
      rw [hcol] at hd HI
      have hcl := (colOf_lt _ _ _ _ hcol).2
      have HR := Lib.hid (show placeT (startT L P) = (16 * (c : Int) + 2, 16 * (k : Int) + 2) by rw [HD.out, hd]; rfl)
      have hc20 : (c : Int) ≤ 20 := by omega
      clear hat hd hrow hrl hcol
      simp only [optI] at HI
      go_wp2_with (go_at_call 43; refine (HI _).mono ?_; rintro e w1 ⟨rfl, rfl⟩)
      go_ret2
      exact ⟨by rw [HR.out]; rfl, hB0⟩
     | none =>
      rw [hcol] at hd HI
      have HN := Lib.hid hd
      clear hat hd hrow hrl hcol
      simp only [optI] at HI
      go_wp2_with (go_at_call 43; refine (HI _).mono ?_; rintro e w1 ⟨rfl, rfl⟩)
      go_round
      case rel => exact ⟨k + 1, by omega, by go_num, HN.out⟩
      case measure => simp [intOf]; omega
    ·have e : k = L.length := by omega
     subst e
     rw [List.drop_of_length_le (Nat.le_refl _)] at hat
     have HR := Lib.hid (show placeT (startT L P) = (-1, -1) by rw [HD.out, hat]; rfl)
     clear hat
     go_wp2_with (fail)
     go_ret2
     exact ⟨by rw [HR.out]; rfl, hB0⟩
set_option maxHeartbeats 2000000 in
theorem startOf_impl {w : World} {v : Value} {L : Rowz} (h : RdS w v L) (hs : Sane L) (p : Int) :
  Calls Tryd.prog 10 #[.agg #[v], .int .i64 p] w fun e w' => e = .returned (retXY (startI L p)) ∧ Below w.heap.size w w' := by
 obtain ⟨a, cap, rfl, -⟩ := id h
 obtain ⟨W1, hW, hA1, hb1⟩ : ∃ W1, w.alloc (.cells #[.slice a L.length cap] 26) = W1 ∧ W1.heap[w.heap.size]? = some (.cells #[.slice a L.length cap] 26 (0, 0)) ∧ Below w.heap.size w W1 := ⟨_, rfl, heap_alloc_new w _, below1 _ _⟩
 have cA1 := rowCells hA1
 have r1 := h.keep hb1
 have hs1 := hb1.size
 go_enter Tryd.func10, Tryd.ntmps10
 go_wp2_with (fail)
 clear hW
 refine (levelOk_impl r1 hs).mono ?_
 rintro e w2 ⟨rfl, hb2⟩
 have hb12 := hb1.trans (hb2.mono hs1)
 have cA2 := rowCells (keepHeap hb2 hA1)
 have r2 := h.keep hb12
 have hs2 := hb12.size
 clear cA1
 cases hl : levelB L with
 | false =>
  have HF := Lib.hid (startI_no (p := p) (.inl hl))
  clear hl
  go_wp2_with (fail)
  go_ret2
  exact ⟨by rw [HF.out]; rfl, hb12⟩
 | true =>
  cases hq : inR p 0 3 with
  | false =>
   have HF := Lib.hid (startI_no (L := L) (.inr hq))
   have Q := Lib.hid hq
   clear hl hq
   go_wp2_with (go_at_call 25; refine (within_impl _ _ _ _).mono ?_; rintro e w3 ⟨rfl, rfl⟩; rw [Q.out])
   go_ret2
   exact ⟨by rw [HF.out]; rfl, hb12⟩
  | true =>
   have hg : Good L := levelB_facts hl
   have hq2 := (inR_iff _ _ _).1 hq
   obtain ⟨P, rfl⟩ := Int.eq_ofNat_of_zero_le (a := p) (by omega)
   have HF := Lib.hid (startI_yes hl hq)
   have Q := Lib.hid hq
   have hP3 : P ≤ 3 := by omega
   clear hl hq hq2
   go_wp2_with (go_at_call 25; refine (within_impl _ _ _ _).mono ?_; rintro e w3 ⟨rfl, rfl⟩; rw [Q.out])
   refine (startIn_any r2 hg P hP3).mono ?_
   rintro e w3 ⟨rfl, hb3⟩
   unfold retXY
   go_wp2_with (fail)
   go_ret2
   exact ⟨by rw [HF.out]; rfl, hb12.trans (hb3.mono hs2)⟩
end Go.Proofs.YtehjafaobaoleaaDoor
