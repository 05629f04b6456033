/-
  Texts of this proof: NwP, LvLaw, StartI.
-/
import Derived.Test.YtnlonkkbjkfkmaaGreatDoorM13
import Derived.Test.YtnlonkkbjkfkmaaGreatDoorM09
namespace Go.Proofs.YtnlonkkbjkfkmaaGreatDoor
open Go.RowKit
set_option linter.all false
theorem colOf_hit (p : UInt8 → Bool) : ∀ (l : List UInt8) (k c : Nat), colOf p l k = some c → k ≤ c ∧ ∃ h : c - k < l.length, p l[c - k] = true
 | [], _, _, h => by cases h
 | a :: l, k, c, h => by
  rw [colOf] at h
  split at h
  ·rename_i hp
   simp only [Option.some.injEq] at h
   subst h
   refine ⟨Nat.le_refl _, by simp, ?_⟩
   simpa using hp
  ·obtain ⟨h1, h2, h3⟩ := colOf_hit p l (k + 1) c h
   refine ⟨by omega, by simp; omega, ?_⟩
   have e : c - k = (c - (k + 1)) + 1 := by omega
   simp only [e, List.getElem_cons_succ]
   exact h3
theorem colOf_none (p : UInt8 → Bool) : ∀ (l : List UInt8) (k : Nat), colOf p l k = none → ∀ c ∈ l, p c = false
 | [], _, _, c, hc => by cases hc
 | a :: l, k, h, c, hc => by
  rw [colOf] at h
  split at h
  ·cases h
  ·rename_i hp
   rcases List.mem_cons.1 hc with rfl | hc
   ·simpa using hp
   ·exact colOf_none p l (k + 1) h c hc
theorem tileOf_hit (p : UInt8 → Bool) : ∀ (L : Rowz) (n r c : Nat), tileOf p L n = some (r, c) → n ≤ r ∧ ∃ (h : r - n < L.length) (h2 : c < L[r - n].length), p L[r - n][c] = true
 | [], _, _, _, h => by cases h
 | row :: L, n, r, c, h => by
  rw [tileOf] at h
  split at h
  ·rename_i c' hc
   simp only [Option.some.injEq, Prod.mk.injEq] at h
   obtain ⟨rfl, rfl⟩ := h
   obtain ⟨-, h1, h2⟩ := colOf_hit p row 0 c' hc
   refine ⟨Nat.le_refl _, by simp, ?_, ?_⟩
   ·simpa using h1
   ·simpa using h2
  ·obtain ⟨h1, h2, h3, h4⟩ := tileOf_hit p L (n + 1) r c h
   have e : r - n = (r - (n + 1)) + 1 := by omega
   refine ⟨by omega, by simp; omega, ?_, ?_⟩
   ·simp only [e, List.getElem_cons_succ]; exact h3
   ·simp only [e, List.getElem_cons_succ]; exact h4
theorem tileOf_none (p : UInt8 → Bool) : ∀ (L : Rowz) (n : Nat), tileOf p L n = none → ∀ row ∈ L, ∀ c ∈ row, p c = false
 | [], _, _, row, hr => by cases hr
 | a :: L, n, h, row, hr => by
  rw [tileOf] at h
  split at h
  ·cases h
  ·rename_i hc
   rcases List.mem_cons.1 hr with rfl | hr
   ·exact colOf_none p _ 0 hc
   ·exact tileOf_none p L (n + 1) h row hr
theorem scan_walls : ∀ (l : List UInt8) (o : Bool) (sn : List Bool), (∀ c ∈ l, c.toNat = 35) → scanT l (o, sn) = some (o, sn)
 | [], _, _, _ => rfl
 | a :: l, o, sn, h => by
  have h1 := ts_wall (c := a) (o := o) (sn := sn) (h a (by simp))
  have h2 := scan_walls l o sn (fun c hc => h c (by simp [hc]))
  have := scanT_append [a] l (o, sn)
  simp only [List.singleton_append] at this
  rw [this]
  simp only [scanT, h1, Option.bind_some]
  exact h2
theorem start_hit {L : Rowz} (h : levelB L = true) (P : Nat) : ∃ r c, startT L P = some (r, c) ∧ r < L.length ∧ c < wd L ∧ cellN L r c = false := by
 have hg : Good L := levelB_facts h
 have key : ∀ (p : UInt8 → Bool) (hp : ∀ c, p c = true → c.toNat ≠ 35) (r c : Nat), tileOf p L 0 = some (r, c) → r < L.length ∧ c < wd L ∧ cellN L r c = false := by
  intro p hp r c ht
  obtain ⟨-, h1, h2, h3⟩ := tileOf_hit p L 0 r c ht
  simp only [Nat.sub_zero] at h1 h2 h3
  have hw : L[r].length = wd L := hg.row h1
  refine ⟨h1, by omega, ?_⟩
  rw [cellN_in hg h1 (by omega)]
  have := hp _ h3
  simp; omega
 cases hd : tileOf (digitP P) L 0 with
 | some t =>
  obtain ⟨r, c⟩ := t
  obtain ⟨h1, h2, h3⟩ := key (digitP P) (fun c hc => by unfold digitP at hc; simp at hc; omega) r c hd
  exact ⟨r, c, by unfold startT; rw [hd], h1, h2, h3⟩
 | none =>
  cases ho : tileOf openP L 0 with
  | some t =>
   obtain ⟨r, c⟩ := t
   obtain ⟨h1, h2, h3⟩ := key openP (fun c hc => by unfold openP at hc; simpa using hc) r c ho
   exact ⟨r, c, by unfold startT; rw [hd, ho], h1, h2, h3⟩
  | none =>
   exfalso
   have hw := tileOf_none openP L 0 ho
   have hall : ∀ c ∈ L.flatten, c.toNat = 35 := by
    intro c hc
    obtain ⟨row, hr, hc2⟩ := List.mem_flatten.1 hc
    have := hw row hr c hc2
    unfold openP at this
    simpa using this
   have hs := scan_walls L.flatten false [false, false, false, false] hall
   have ht : tilesB L = false := by unfold tilesB init4; rw [hs]
   rw [levelB_tiles ht] at h
   cases h
theorem start_place {L : Rowz} (h : levelB L = true) (P : Nat) : ∃ r c : Nat, r < 12 ∧ c < 20 ∧ placeT (startT L P) = (16 * (c : Int) + 2, 16 * (r : Int) + 2) ∧ blockB L (16 * (c : Int) + 2) (16 * (r : Int) + 2) 12 = false := by
 obtain ⟨r, c, h1, h2, h3, h4⟩ := start_hit h P
 obtain ⟨-, hl, -, hw, -⟩ := levelB_facts h
 refine ⟨r, c, by omega, by omega, by rw [h1]; rfl, ?_⟩
 have e := blockB_nat (L := L) (16 * c + 2) (16 * r + 2) 12
 have e2 : blockN L (16 * c + 2) (16 * r + 2) 12 = false := by
  refine blockN_no fun r' c' hr hc => ?_
  have : r' = r := by omega
  have : c' = c := by omega
  subst r'; subst c'; exact h4
 rw [e2] at e
 simpa using e
def freshB (L : Rowz) (k : Nat) : Bd := ⟨0, (k : Int), (placeT (startT L k)).1, (placeT (startT L k)).2, 0, 0, 1, 3, 0⟩
theorem fresh_fit {L : Rowz} (h : levelB L = true) {n k : Nat} (hk : k < n) : fitB L (n : Int) (freshB L k) = true := by
 obtain ⟨r, c, -, -, hp, hb⟩ := start_place h k
 have h1 : inR (0 : Int) 0 2 = true := by decide
 have h2 : inR (k : Int) 0 ((n : Int) - 1) = true := (inR_iff _ _ _).2 ⟨by omega, by omega⟩
 unfold freshB
 rw [hp]
 exact (fit_all (b := ⟨0, (k : Int), 16 * (c : Int) + 2, 16 * (r : Int) + 2, 0, 0, 1, 3, 0⟩) h1 h2 (by simpa [sizeI] using hb) (show inR (0 : Int) (-15) 15 = true by decide) (show inR (0 : Int) (-15) 15 = true by decide)).trans (by unfold kindB aimB; rfl)
end Go.Proofs.YtnlonkkbjkfkmaaGreatDoor
namespace Go.Proofs.YtnlonkkbjkfkmaaGreatDoor
open Go.RowKit
set_option linter.all false
theorem Sane.small {ls : List (List UInt8)} {r : Int} (h0 : 0 ≤ r) (h : r = 1048576 - (ls.length : Int) - (totalS ls : Int)) : ls.length ≤ 1048576 ∧ totalS ls ≤ 1048576 := by omega
end Go.Proofs.YtnlonkkbjkfkmaaGreatDoor
namespace Go.Proofs.YtnlonkkbjkfkmaaGreatDoor
open Go.RowKit
set_option linter.all false
def optI : Option Nat → Int
 | some c => (c : Int)
 | none => -1
theorem colOf_shift (p : UInt8 → Bool) (l : List UInt8) : ∀ k, colOf p l (k + 1) = (colOf p l k).map (· + 1) := by
 induction l with
 | nil => intro k; rfl
 | cons a l ih =>
  intro k
  simp only [colOf]
  split
  ·rfl
  ·exact ih (k + 1)
theorem indexByte_col (l : List UInt8) (c : UInt8) : Lib.indexByte l c = optI (colOf (· == c) l 0) := by
 induction l with
 | nil => rfl
 | cons a l ih =>
  rw [Lib.indexByte, colOf, ih]
  by_cases h : (a == c) = true
  ·rw [if_pos h, if_pos h]; rfl
  ·rw [if_neg h, if_neg h, colOf_shift]
   cases colOf (· == c) l 0 with
   | none => rfl
   | some k =>
    have e : (optI (some k) == -1) = false := by simp [optI]
    show (if (optI (some k) == -1) = true then (-1 : Int) else optI (some k) + 1) = optI (some (k + 1))
    rw [e]; simp [optI]
theorem colOf_congr {p q : UInt8 → Bool} (h : ∀ c, p c = q c) (l : List UInt8) : ∀ k, colOf p l k = colOf q l k := by
 induction l with
 | nil => intro k; rfl
 | cons a l ih => intro k; simp only [colOf, h a, ih]
theorem openC_col (row : List UInt8) : openC row = optI (colOf openP row 0) := by
 have key : ∀ (l : List UInt8) (k : Nat), colOf openP l k = if l.dropWhile (· == 35) = [] then none else some (k + (l.length - (l.dropWhile (· == 35)).length)) := by
  intro l
  induction l with
  | nil => intro k; rfl
  | cons a l ih =>
   intro k
   have hl := dropWhile_len l (· == 35)
   rw [colOf, List.dropWhile_cons, ih]
   by_cases h : a = 35
   ·subst h
    rw [if_neg (by unfold openP; decide), if_pos (show ((35 : UInt8) == 35) = true from rfl)]
    by_cases e : l.dropWhile (· == 35) = []
    ·rw [if_pos e, if_pos e]
    ·rw [if_neg e, if_neg e]; congr 1; simp; omega
   ·have h1 : openP a = true := by unfold openP; simp; intro e; exact h (by rw [← UInt8.toNat_inj]; exact e)
    have h2 : ¬ (a == 35) = true := by simpa using h
    rw [if_pos h1, if_neg h2, if_neg (by simp)]; simp
 unfold openC
 rw [key]
 have hl := dropWhile_len row (· == 35)
 split
 ·rfl
 ·simp only [optI]; omega
theorem index_digit (row : List UInt8) (P : Nat) (hP : P ≤ 3) (w : World) : Calls Tryz.prog 217 #[.string ⟨row.toArray⟩, .int .u8 (49 + (P : Int))] w fun e w' => e = .returned (.int .i64 (optI (colOf (digitP P) row 0))) ∧ w = w' := by
 refine (Tryz.strings_IndexByte _ _ w).mono ?_
 rintro e w' ⟨rfl, rfl⟩
 refine ⟨ret_int ?_, rfl⟩
 rw [indexByte_col]
 congr 1
 refine colOf_congr (fun c => ?_) _ 0
 unfold digitP
 rw [Bool.eq_iff_iff, beq_iff_eq, decide_eq_true_iff, ← UInt8.toNat_inj]
 have e : (49 + (P : Int)).toNat = 49 + P := by omega
 rw [e]
 show c.toNat = (UInt8.ofNat (49 + P)).toNat ↔ _
 simp; omega
set_option maxRecDepth 100000 in
set_option maxHeartbeats 4000000 in
theorem startIn_any {w : World} {v : Value} {L : Rowz} (h : RdS w v L) (hg : Good L) (P : Nat) (hP : P ≤ 3) :
  Calls Tryz.prog 159 #[.agg #[v], .int .i64 (P : Int)] w fun e w' => e = .returned (retXY (placeT (startT L P))) ∧ Below w.heap.size w w' := by
 obtain ⟨a, cap, rfl, h0⟩ := id h
 obtain ⟨hn3, hn12, hw4, hw20, -⟩ := id hg
 obtain ⟨b, off, rfl, hc⟩ := h0.resolve_left (by intro e; rw [e] at hn3; simp at hn3)
 have hlt := World.block_lt_of_cell? w _ (hc 0 (by omega))
 obtain ⟨W0, hW, hA, hB0⟩ : ∃ W0, w.alloc (.cells #[.slice (some ⟨b, off, none⟩) L.length cap] 26) = W0 ∧ W0.heap[w.heap.size]? = some (.cells #[.slice (some ⟨b, off, none⟩) L.length cap] 26 (0, 0)) ∧ Below w.heap.size w W0 := ⟨_, rfl, heap_alloc_new w _, below1 _ _⟩
 have cA := rowCells hA
 have HC := Lib.hid (fun r (hr : r < L.length) => (hB0.cell (p := ⟨b, off + r, none⟩) hlt).trans (hc r hr))
 have hnc : (L.length : Int) ≤ 12 := by omega
 have hPc : (P : Int) ≤ 3 := by omega
 have hw8 : IntKind.u8.wrap (49 + (P : Int)) = 49 + (P : Int) := by rw [IntKind.wrap_u8']; omega
 clear h h0 hc
 go_enter Tryz.func159, Tryz.ntmps159
 go_wp2_with (fail)
 clear hW
 go_loop [15] (fun i => ∃ k : Nat, k ≤ L.length ∧ i = .int .i64 (k : Int) ∧ tileOf (digitP P) L 0 = tileOf (digitP P) (L.drop k) k) (fun i => L.length - (intOf i).toNat)
 case atStart => exact ⟨0, Nat.zero_le _, rfl, by rw [List.drop_zero]⟩
 case round =>
  obtain ⟨k, hk, rfl, hat⟩ := hrel
  by_cases hkl : k < L.length
  ·have hkl' : (k : Int) < (L.length : Int) := by omega
   obtain ⟨row, hrow⟩ : ∃ x, x = L[k] := ⟨_, rfl⟩
   have cr := HC.out k hkl
   have hrl := hg.row hkl
   have hd := tileOf_drop (digitP P) L k hkl k
   rw [← hat] at hd
   rw [← hrow] at cr hrl hd
   have HI := fun W => index_digit row P hP W
   cases hcol : colOf (digitP P) row 0 with
   | some c =>
    rw [hcol] at hd HI
    have hcl := (colOf_lt _ _ _ _ hcol).2
    have HR := Lib.hid (show placeT (startT L P) = (16 * (c : Int) + 2, 16 * (k : Int) + 2) by unfold startT; rw [hd]; rfl)
    have hc20 : (c : Int) ≤ 20 := by omega
    clear hat hd hrow hrl hcol
    simp only [optI] at HI
    go_wp2_with (go_at_call 217; refine (HI _).mono ?_; rintro e w1 ⟨rfl, rfl⟩)
    go_ret2
    exact ⟨by rw [HR.out]; rfl, hB0⟩
   | none =>
    rw [hcol] at hd HI
    have HN := Lib.hid hd
    clear hat hd hrow hrl hcol
    simp only [optI] at HI
    go_wp2_with (go_at_call 217; refine (HI _).mono ?_; rintro e w1 ⟨rfl, rfl⟩)
    go_round
    case rel => exact ⟨k + 1, by omega, by go_num, HN.out⟩
    case measure => simp [intOf]; omega
  ·have e : k = L.length := by omega
   subst e
   rw [List.drop_of_length_le (Nat.le_refl _)] at hat
   have HD := Lib.hid (show startT L P = tileOf openP L 0 by unfold startT; rw [hat]; rfl)
   clear hat
   go_wp2_with (fail)
   go_loop [37] (fun i => ∃ k : Nat, k ≤ L.length ∧ i = .int .i64 (k : Int) ∧ tileOf openP L 0 = tileOf openP (L.drop k) k) (fun i => L.length - (intOf i).toNat)
   case atStart => exact ⟨0, Nat.zero_le _, rfl, by rw [List.drop_zero]⟩
   case round =>
    clear hk hkl
    obtain ⟨k, hk, rfl, hat⟩ := hrel
    by_cases hkl : k < L.length
    ·have hkl' : (k : Int) < (L.length : Int) := by omega
     obtain ⟨row, hrow⟩ : ∃ x, x = L[k] := ⟨_, rfl⟩
     have cr := HC.out k hkl
     have hrl := hg.row hkl
     have hd := tileOf_drop openP L k hkl k
     rw [← hat] at hd
     rw [← hrow] at cr hrl hd
     have HI := fun W => openColumn_any row (by omega) W
     rw [openC_col] at HI
     cases hcol : colOf openP row 0 with
     | some c =>
      rw [hcol] at hd HI
      have hcl := (colOf_lt _ _ _ _ hcol).2
      have HR := Lib.hid (show placeT (startT L P) = (16 * (c : Int) + 2, 16 * (k : Int) + 2) by rw [HD.out, hd]; rfl)
      have hc20 : (c : Int) ≤ 20 := by omega
      clear hat hd hrow hrl hcol
      simp only [optI] at HI
      go_wp2_with (go_at_call 216; refine (HI _).mono ?_; rintro e w1 ⟨rfl, rfl⟩)
      go_ret2
      exact ⟨by rw [HR.out]; rfl, hB0⟩
     | none =>
      rw [hcol] at hd HI
      have HN := Lib.hid hd
      clear hat hd hrow hrl hcol
      simp only [optI] at HI
      go_wp2_with (go_at_call 216; refine (HI _).mono ?_; rintro e w1 ⟨rfl, rfl⟩)
      go_round
      case rel => exact ⟨k + 1, by omega, by go_num, HN.out⟩
      case measure => simp [intOf]; omega
    ·have e : k = L.length := by omega
     subst e
     rw [List.drop_of_length_le (Nat.le_refl _)] at hat
     have HR := Lib.hid (show placeT (startT L P) = (-1, -1) by rw [HD.out, hat]; rfl)
     clear hat
     go_wp2_with (fail)
     go_ret2
     exact ⟨by rw [HR.out]; rfl, hB0⟩
end Go.Proofs.YtnlonkkbjkfkmaaGreatDoor
