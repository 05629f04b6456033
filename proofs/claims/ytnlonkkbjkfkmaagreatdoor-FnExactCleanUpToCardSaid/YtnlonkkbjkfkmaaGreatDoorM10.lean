/-
  Texts of this proof: LvM.
-/
import Derived.Test.YtnlonkkbjkfkmaaGreatDoorM00
namespace Go.Proofs.YtnlonkkbjkfkmaaGreatDoor
open Go.RowKit
set_option linter.all false

theorem bq {a b : Int} (h : a = b) : (a == b) = true := by simpa using h
theorem bqn {a b : Int} (h : a ≠ b) : (a == b) = false := by simpa using h
theorem nq {a b : Int} (h : a ≠ b) : (a != b) = true := by simpa using h
theorem nqn {a b : Int} (h : a = b) : (a != b) = false := by simpa using h
abbrev Rowz := List (List UInt8)
def tileStep (c : UInt8) (s : Bool × List Bool) : Option (Bool × List Bool) :=
 if c.toNat = 35 then some s
 else if c.toNat = 111 ∨ c.toNat = 46 then some (true, s.2)
 else if 49 ≤ c.toNat ∧ c.toNat ≤ 52 then (if s.2.getD (c.toNat - 49) false = true then none else some (true, s.2.set (c.toNat - 49) true))
 else none
def scanT : List UInt8 → Bool × List Bool → Option (Bool × List Bool)
 | [], s => some s
 | c :: l, s => (tileStep c s).bind (scanT l)
theorem scanT_append (l m : List UInt8) : ∀ s, scanT (l ++ m) s = (scanT l s).bind (scanT m) := by
 induction l with
 | nil => intro s; rfl
 | cons c l ih =>
  intro s
  simp only [List.cons_append, scanT]
  cases tileStep c s with
  | none => rfl
  | some t => simpa using ih t
theorem scanT_snoc (l : List UInt8) (c : UInt8) (s : Bool × List Bool) : scanT (l ++ [c]) s = (scanT l s).bind (tileStep c) := by
 rw [scanT_append]
 congr 1
 funext t
 simp [scanT]
def init4 : Bool × List Bool := (false, [false, false, false, false])
def wd (L : Rowz) : Nat := (L.headD []).length
def shapeB (L : Rowz) : Bool := decide (3 ≤ L.length) && (decide (L.length ≤ 12) && (decide (4 ≤ wd L) && (decide (wd L ≤ 20) && L.all fun row => row.length == wd L)))
def borderB (L : Rowz) : Bool := (L.all fun row => row.headD 0 == 35 && row.getD (wd L - 1) 0 == 35) && ((L.headD []).all (· == 35) && (L.getLastD []).all (· == 35))
def tilesB (L : Rowz) : Bool := match scanT L.flatten init4 with
 | none => false
 | some s => s.1
def levelB (L : Rowz) : Bool := shapeB L && (borderB L && tilesB L)
theorem shapeB_iff (L : Rowz) : shapeB L = true ↔ 3 ≤ L.length ∧ L.length ≤ 12 ∧ 4 ≤ wd L ∧ wd L ≤ 20 ∧ ∀ row ∈ L, row.length = wd L := by
 unfold shapeB; simp
def TilAt (L : Rowz) (r c : Nat) (o : Bool) (sn : List Bool) : Prop := sn.length = 4 ∧ scanT ((L.take r).flatten ++ (L.getD r []).take c) init4 = some (o, sn)
theorem tileStep_len {c : UInt8} {s t : Bool × List Bool} (h : tileStep c s = some t) : t.2.length = s.2.length := by
 unfold tileStep at h
 repeat' split at h
 all_goals first | (simp at h; done) | (simp only [Option.some.injEq] at h; subst h; simp)
theorem TilAt.zero (L : Rowz) : TilAt L 0 0 false [false, false, false, false] := ⟨rfl, by simp [scanT, init4]⟩
theorem TilAt.row {L : Rowz} {r : Nat} {o : Bool} {sn : List Bool} (hr : r < L.length) (h : TilAt L r (L[r].length) o sn) : TilAt L (r + 1) 0 o sn := by
 refine ⟨h.1, ?_⟩
 have h2 := h.2
 rw [List.getD_eq_getElem?_getD, List.getElem?_eq_getElem hr, Option.getD_some, List.take_of_length_le (Nat.le_refl _)] at h2
 rw [List.take_zero, List.append_nil, List.take_succ_eq_append_getElem hr, List.flatten_append]
 simpa using h2
theorem getD_row {L : Rowz} {r : Nat} (hr : r < L.length) : L.getD r [] = L[r] := by rw [List.getD_eq_getElem?_getD, List.getElem?_eq_getElem hr, Option.getD_some]
theorem TilAt.step {L : Rowz} {r c : Nat} {o o' : Bool} {sn sn' : List Bool} (h : TilAt L r c o sn) (hr : r < L.length) (hc : c < L[r].length) (hs : tileStep (L[r][c]) (o, sn) = some (o', sn')) : TilAt L r (c + 1) o' sn' := by
 refine ⟨by have := tileStep_len hs; simpa [h.1] using this, ?_⟩
 have h2 := h.2
 rw [getD_row hr] at h2 ⊢
 rw [List.take_succ_eq_append_getElem hc, ← List.append_assoc, scanT_snoc, h2]
 exact hs
theorem TilAt.bad {L : Rowz} {r c : Nat} {o : Bool} {sn : List Bool} (h : TilAt L r c o sn) (hr : r < L.length) (hc : c < L[r].length) (hs : tileStep (L[r][c]) (o, sn) = none) : tilesB L = false := by
 have h2 := h.2
 rw [getD_row hr] at h2
 have hfl : L.flatten = (L.take r).flatten ++ L[r].take c ++ [L[r][c]] ++ (L[r].drop (c + 1) ++ (L.drop (r + 1)).flatten) := by
  have e0 : L.flatten = (L.take r).flatten ++ (L[r] ++ (L.drop (r + 1)).flatten) := by
   conv => lhs; rw [← List.take_append_drop r L, List.flatten_append, List.drop_eq_getElem_cons hr, List.flatten_cons]
  have e1 : L[r] = L[r].take c ++ L[r][c] :: L[r].drop (c + 1) := by rw [← List.drop_eq_getElem_cons hc, List.take_append_drop]
  rw [e0]
  conv => lhs; rw [e1]
  simp only [List.append_assoc, List.cons_append, List.nil_append]
 unfold tilesB
 rw [hfl, scanT_append, scanT_snoc, h2]
 simp only [Option.bind_some]
 rw [hs]; rfl
theorem TilAt.done {L : Rowz} {o : Bool} {sn : List Bool} (h : TilAt L L.length 0 o sn) : tilesB L = o := by
 have h2 := h.2
 rw [List.take_zero, List.append_nil, List.take_of_length_le (Nat.le_refl _)] at h2
 unfold tilesB
 rw [h2]
def atL (L : Rowz) (r c : Nat) : UInt8 := (L.getD r []).getD c 0
def edgeP (L : Rowz) (r c : Nat) : Prop := r = 0 ∨ c = 0 ∨ r + 1 = L.length ∨ c + 1 = wd L
theorem atL_eq {L : Rowz} {r c : Nat} (hr : r < L.length) (hc : c < L[r].length) : atL L r c = L[r][c] := by
 unfold atL; rw [getD_row hr, List.getD_eq_getElem?_getD, List.getElem?_eq_getElem hc, Option.getD_some]
def SpecAt (L : Rowz) (r c : Nat) (o : Bool) (sn : List Bool) : Prop :=
 (∀ i, i < r → (L.getD i []).length = wd L) ∧ (∀ i j, i < L.length → j < wd L → (i < r ∨ (i = r ∧ j < c)) → edgeP L i j → atL L i j = 35) ∧ TilAt L r c o sn
theorem SpecAt.zero (L : Rowz) : SpecAt L 0 0 false [false, false, false, false] := ⟨fun i h => by omega, fun i j _ _ h => by omega, TilAt.zero L⟩
theorem SpecAt.row {L : Rowz} {r : Nat} {o : Bool} {sn : List Bool} (hr : r < L.length) (hl : L[r].length = wd L) (h : SpecAt L r (wd L) o sn) : SpecAt L (r + 1) 0 o sn := by
 refine ⟨fun i hi => ?_, fun i j h1 h2 h3 => ?_, ?_⟩
 ·by_cases e : i = r
  ·subst e; rw [getD_row hr]; exact hl
  ·exact h.1 i (by omega)
 ·exact h.2.1 i j h1 h2 (by omega)
 ·exact TilAt.row hr (by rw [hl]; exact h.2.2)
theorem SpecAt.step {L : Rowz} {r c : Nat} {o o' : Bool} {sn sn' : List Bool} (h : SpecAt L r c o sn) (hr : r < L.length) (hc : c < L[r].length) (he : edgeP L r c → L[r][c] = 35) (hs : tileStep (L[r][c]) (o, sn) = some (o', sn')) : SpecAt L r (c + 1) o' sn' := by
 refine ⟨h.1, fun i j h1 h2 h3 h4 => ?_, h.2.2.step hr hc hs⟩
 by_cases e : i = r ∧ j = c
 ·obtain ⟨rfl, rfl⟩ := e
  rw [atL_eq hr hc]; exact he h4
 ·exact h.2.1 i j h1 h2 (by omega) h4
theorem levelB_tiles {L : Rowz} (h : tilesB L = false) : levelB L = false := by unfold levelB; rw [h]; simp
theorem levelB_shape {L : Rowz} (h : shapeB L = false) : levelB L = false := by unfold levelB; rw [h]; simp
theorem levelB_border {L : Rowz} (h : borderB L = false) : levelB L = false := by unfold levelB; rw [h]; simp
theorem shapeB_no {L : Rowz} (h : ¬ (3 ≤ L.length ∧ L.length ≤ 12 ∧ 4 ≤ wd L ∧ wd L ≤ 20 ∧ ∀ row ∈ L, row.length = wd L)) : shapeB L = false := by
 rw [Bool.eq_false_iff]; intro e; exact h ((shapeB_iff L).1 e)
theorem getLastD_eq {L : Rowz} {r : Nat} (hr : r < L.length) (h : r + 1 = L.length) : L.getLastD [] = L[r] := by
 have hne : L ≠ [] := by intro e; subst e; simp at hr
 rw [List.getLastD_eq_getLast?, List.getLast?_eq_getElem?]
 rw [show L.length - 1 = r by omega, List.getElem?_eq_getElem hr]; rfl
theorem headD_eq {L : Rowz} (hr : 0 < L.length) : L.headD [] = L[0] := by
 cases L with
 | nil => simp at hr
 | cons a l => rfl
theorem head_at {row : List UInt8} (h : 0 < row.length) (e : row.headD 0 = 35) : row[0] = 35 := by
 cases row with
 | nil => simp at h
 | cons a l => simpa using e
theorem head_of {row : List UInt8} (h : 0 < row.length) (e : row[0] = 35) : row.headD 0 = 35 := by
 cases row with
 | nil => simp at h
 | cons a l => simpa using e
theorem borderB_no {L : Rowz} {r c : Nat} (hr : r < L.length) (hc : c < L[r].length) (hl : L[r].length = wd L) (he : edgeP L r c) (hne : L[r][c] ≠ 35) : borderB L = false := by
 rw [Bool.eq_false_iff]
 intro e
 unfold borderB at e
 simp only [Bool.and_eq_true, List.all_eq_true, beq_iff_eq] at e
 obtain ⟨e1, e2, e3⟩ := e
 have e1r := e1 L[r] (List.getElem_mem _)
 rcases he with rfl | rfl | he | he
 ·exact hne (e2 _ (by rw [headD_eq hr]; exact List.getElem_mem _))
 ·apply hne
  exact head_at hc e1r.1
 ·exact hne (e3 _ (by rw [getLastD_eq hr he]; exact List.getElem_mem _))
 ·apply hne
  have := e1r.2
  rw [show wd L - 1 = c by omega, List.getD_eq_getElem?_getD, List.getElem?_eq_getElem hc, Option.getD_some] at this
  exact this
theorem SpecAt.done {L : Rowz} {o : Bool} {sn : List Bool} (h : SpecAt L L.length 0 o sn) (h1 : 3 ≤ L.length) (h2 : L.length ≤ 12) (h3 : 4 ≤ wd L) (h4 : wd L ≤ 20) : levelB L = o := by
 have hlen : ∀ i (hi : i < L.length), L[i].length = wd L := fun i hi => by rw [← getD_row hi]; exact h.1 i hi
 have hsh : shapeB L = true := by
  rw [shapeB_iff]
  refine ⟨h1, h2, h3, h4, fun row hrow => ?_⟩
  obtain ⟨i, hi, rfl⟩ := List.mem_iff_getElem.1 hrow
  exact hlen i hi
 have hat : ∀ i j (hi : i < L.length) (hj : j < L[i].length), edgeP L i j → L[i][j] = 35 := fun i j hi hj he => by
  rw [← atL_eq hi hj]; exact h.2.1 i j hi (by rw [← hlen i hi]; exact hj) (.inl hi) he
 have hbd : borderB L = true := by
  unfold borderB
  simp only [Bool.and_eq_true, List.all_eq_true, beq_iff_eq]
  refine ⟨fun row hrow => ?_, fun x hx => ?_, fun x hx => ?_⟩
  ·obtain ⟨i, hi, rfl⟩ := List.mem_iff_getElem.1 hrow
   have hl := hlen i hi
   constructor
   ·have := hat i 0 hi (by omega) (.inr (.inl rfl))
    exact head_of (by omega) this
   ·rw [List.getD_eq_getElem?_getD, List.getElem?_eq_getElem (by omega), Option.getD_some]
    exact hat i (wd L - 1) hi (by omega) (.inr (.inr (.inr (by omega))))
  ·have h0 : 0 < L.length := by omega
   rw [headD_eq h0] at hx
   obtain ⟨j, hj, rfl⟩ := List.mem_iff_getElem.1 hx
   exact hat 0 j h0 hj (.inl rfl)
  ·have hr : L.length - 1 < L.length := by omega
   rw [getLastD_eq hr (by omega)] at hx
   obtain ⟨j, hj, rfl⟩ := List.mem_iff_getElem.1 hx
   exact hat _ j hr hj (.inr (.inr (.inl (by omega))))
 unfold levelB
 rw [hsh, hbd, h.2.2.done]; rfl
theorem ts_wall {c : UInt8} {o : Bool} {sn : List Bool} (h : c.toNat = 35) : tileStep c (o, sn) = some (o, sn) := by unfold tileStep; rw [if_pos h]
theorem ts_open {c : UInt8} {o : Bool} {sn : List Bool} (h : c.toNat = 111 ∨ c.toNat = 46) : tileStep c (o, sn) = some (true, sn) := by unfold tileStep; rw [if_neg (by omega), if_pos h]
theorem ts_digit {c : UInt8} {o : Bool} {sn : List Bool} {k : Nat} (hk : k < 4) (h : c.toNat = 49 + k) (hs : sn.getD k false = false) : tileStep c (o, sn) = some (true, sn.set k true) := by
 unfold tileStep; rw [if_neg (by omega), if_neg (by omega), if_pos (by omega), show c.toNat - 49 = k by omega]
 simp only
 rw [hs]; rfl
theorem ts_seen {c : UInt8} {o : Bool} {sn : List Bool} {k : Nat} (hk : k < 4) (h : c.toNat = 49 + k) (hs : sn.getD k false = true) : tileStep c (o, sn) = none := by
 unfold tileStep; rw [if_neg (by omega), if_neg (by omega), if_pos (by omega), show c.toNat - 49 = k by omega]
 simp only
 rw [hs]; rfl
theorem ts_bad {c : UInt8} {o : Bool} {sn : List Bool} (h1 : c.toNat ≠ 35) (h2 : c.toNat ≠ 111) (h3 : c.toNat ≠ 46) (h4 : ¬ (49 ≤ c.toNat ∧ c.toNat ≤ 52)) : tileStep c (o, sn) = none := by
 unfold tileStep; rw [if_neg h1, if_neg (by omega), if_neg h4]
theorem levelB_facts {L : Rowz} (h : levelB L = true) : 3 ≤ L.length ∧ L.length ≤ 12 ∧ 4 ≤ wd L ∧ wd L ≤ 20 ∧ ∀ row ∈ L, row.length = wd L := by
 unfold levelB at h
 rw [Bool.and_eq_true] at h
 exact (shapeB_iff L).1 h.1
end Go.Proofs.YtnlonkkbjkfkmaaGreatDoor
