/-
  Texts of this proof: NwP.
-/
import Derived.Test.YtehjafaobaoleaaDoorM23
import Derived.Test.YtehjafaobaoleaaDoorM24
namespace Go.Proofs.YtehjafaobaoleaaDoor
open Go.RowKit
set_option linter.all false
theorem colOf_hit (p : UInt8 → Bool) : ∀ (l : List UInt8) (k c : Nat), colOf p l k = some c → k ≤ c ∧ ∃ h : c - k < l.length, p l[c - k] = true
 | [], _, _, h => by cases h
 | a :: l, k, c, h => by
  rw [colOf] at h
  split at h
  ·rename_i hp
   simp only [Option.some.injEq] at h
   subst h
   refine ⟨Nat.le_refl _, by simp, ?_⟩
   simpa using hp
  ·obtain ⟨h1, h2, h3⟩ := colOf_hit p l (k + 1) c h
   refine ⟨by omega, by simp; omega, ?_⟩
   have e : c - k = (c - (k + 1)) + 1 := by omega
   simp only [e, List.getElem_cons_succ]
   exact h3
theorem colOf_none (p : UInt8 → Bool) : ∀ (l : List UInt8) (k : Nat), colOf p l k = none → ∀ c ∈ l, p c = false
 | [], _, _, c, hc => by cases hc
 | a :: l, k, h, c, hc => by
  rw [colOf] at h
  split at h
  ·cases h
  ·rename_i hp
   rcases List.mem_cons.1 hc with rfl | hc
   ·simpa using hp
   ·exact colOf_none p l (k + 1) h c hc
theorem tileOf_hit (p : UInt8 → Bool) : ∀ (L : Rowz) (n r c : Nat), tileOf p L n = some (r, c) → n ≤ r ∧ ∃ (h : r - n < L.length) (h2 : c < L[r - n].length), p L[r - n][c] = true
 | [], _, _, _, h => by cases h
 | row :: L, n, r, c, h => by
  rw [tileOf] at h
  split at h
  ·rename_i c' hc
   simp only [Option.some.injEq, Prod.mk.injEq] at h
   obtain ⟨rfl, rfl⟩ := h
   obtain ⟨-, h1, h2⟩ := colOf_hit p row 0 c' hc
   refine ⟨Nat.le_refl _, by simp, ?_, ?_⟩
   ·simpa using h1
   ·simpa using h2
  ·obtain ⟨h1, h2, h3, h4⟩ := tileOf_hit p L (n + 1) r c h
   have e : r - n = (r - (n + 1)) + 1 := by omega
   refine ⟨by omega, by simp; omega, ?_, ?_⟩
   ·simp only [e, List.getElem_cons_succ]; exact h3
   ·simp only [e, List.getElem_cons_succ]; exact h4
theorem tileOf_none (p : UInt8 → Bool) : ∀ (L : Rowz) (n : Nat), tileOf p L n = none → ∀ row ∈ L, ∀ c ∈ row, p c = false
 | [], _, _, row, hr => by cases hr
 | a :: L, n, h, row, hr => by
  rw [tileOf] at h
  split at h
  ·cases h
  ·rename_i hc
   rcases List.mem_cons.1 hr with rfl | hr
   ·exact colOf_none p _ 0 hc
   ·exact tileOf_none p L (n + 1) h row hr
theorem scan_walls : ∀ (l : List UInt8) (o : Bool) (sn : List Bool), (∀ c ∈ l, c.toNat = 35) → scanT l (o, sn) = some (o, sn)
 | [], _, _, _ => rfl
 | a :: l, o, sn, h => by
  have h1 := ts_wall (c := a) (o := o) (sn := sn) (h a (by simp))
  have h2 := scan_walls l o sn (fun c hc => h c (by simp [hc]))
  have := scanT_append [a] l (o, sn)
  simp only [List.singleton_append] at this
  rw [this]
  simp only [scanT, h1, Option.bind_some]
  exact h2
theorem start_hit {L : Rowz} (h : levelB L = true) (P : Nat) : ∃ r c, startT L P = some (r, c) ∧ r < L.length ∧ c < wd L ∧ cellN L r c = false := by
 have hg : Good L := levelB_facts h
 have key : ∀ (p : UInt8 → Bool) (hp : ∀ c, p c = true → c.toNat ≠ 35) (r c : Nat), tileOf p L 0 = some (r, c) → r < L.length ∧ c < wd L ∧ cellN L r c = false := by
  intro p hp r c ht
  obtain ⟨-, h1, h2, h3⟩ := tileOf_hit p L 0 r c ht
  simp only [Nat.sub_zero] at h1 h2 h3
  have hw : L[r].length = wd L := hg.row h1
  refine ⟨h1, by omega, ?_⟩
  rw [cellN_in hg h1 (by omega)]
  have := hp _ h3
  simp; omega
 cases hd : tileOf (digitP P) L 0 with
 | some t =>
  obtain ⟨r, c⟩ := t
  obtain ⟨h1, h2, h3⟩ := key (digitP P) (fun c hc => by unfold digitP at hc; simp at hc; omega) r c hd
  exact ⟨r, c, by unfold startT; rw [hd], h1, h2, h3⟩
 | none =>
  cases ho : tileOf openP L 0 with
  | some t =>
   obtain ⟨r, c⟩ := t
   obtain ⟨h1, h2, h3⟩ := key openP (fun c hc => by unfold openP at hc; simpa using hc) r c ho
   exact ⟨r, c, by unfold startT; rw [hd, ho], h1, h2, h3⟩
  | none =>
   exfalso
   have hw := tileOf_none openP L 0 ho
   have hall : ∀ c ∈ L.flatten, c.toNat = 35 := by
    intro c hc
    obtain ⟨row, hr, hc2⟩ := List.mem_flatten.1 hc
    have := hw row hr c hc2
    unfold openP at this
    simpa using this
   have hs := scan_walls L.flatten false [false, false, false, false] hall
   have ht : tilesB L = false := by unfold tilesB init4; rw [hs]
   rw [levelB_tiles ht] at h
   cases h
theorem start_place {L : Rowz} (h : levelB L = true) (P : Nat) : ∃ r c : Nat, r < 12 ∧ c < 20 ∧ placeT (startT L P) = (16 * (c : Int) + 2, 16 * (r : Int) + 2) ∧ blockB L (16 * (c : Int) + 2) (16 * (r : Int) + 2) 12 = false := by
 obtain ⟨r, c, h1, h2, h3, h4⟩ := start_hit h P
 obtain ⟨-, hl, -, hw, -⟩ := levelB_facts h
 refine ⟨r, c, by omega, by omega, by rw [h1]; rfl, ?_⟩
 have e := blockB_nat (L := L) (16 * c + 2) (16 * r + 2) 12
 have e2 : blockN L (16 * c + 2) (16 * r + 2) 12 = false := by
  refine blockN_no fun r' c' hr hc => ?_
  have : r' = r := by omega
  have : c' = c := by omega
  subst r'; subst c'; exact h4
 rw [e2] at e
 simpa using e
def freshB (L : Rowz) (k : Nat) : Bd := ⟨0, (k : Int), (placeT (startT L k)).1, (placeT (startT L k)).2, 0, 0, 1, 3, 0⟩
theorem fresh_fit {L : Rowz} (h : levelB L = true) {n k : Nat} (hk : k < n) : fitB L (n : Int) (freshB L k) = true := by
 obtain ⟨r, c, -, -, hp, hb⟩ := start_place h k
 have h1 : inR (0 : Int) 0 2 = true := by decide
 have h2 : inR (k : Int) 0 ((n : Int) - 1) = true := (inR_iff _ _ _).2 ⟨by omega, by omega⟩
 unfold freshB
 rw [hp]
 exact (fit_all (b := ⟨0, (k : Int), 16 * (c : Int) + 2, 16 * (r : Int) + 2, 0, 0, 1, 3, 0⟩) h1 h2 (by simpa [sizeI] using hb) (show inR (0 : Int) (-15) 15 = true by decide) (show inR (0 : Int) (-15) 15 = true by decide)).trans (by unfold kindB aimB; rfl)
def nwOk (L : Rowz) (n s : Int) : Bool := levelB L && (inR n 1 4 && inR s 0 65535)
def nwAny (L : Rowz) (m : Nat) (s : Int) : Wd := ⟨L, 0, s, List.replicate m 0, (List.range m).map fun (k : Nat) => freshB L k⟩
def wd0 : Wd := ⟨[], 0, 0, [], []⟩
def nwX (L : Rowz) (n s : Int) : Wd := if nwOk L n s then nwAny L n.toNat s else wd0
theorem nw_no {L : Rowz} {n s : Int} (h : nwOk L n s = false) : nwX L n s = wd0 := by unfold nwX; rw [h]; rfl
theorem nw_yes {L : Rowz} {n s : Int} (h : nwOk L n s = true) : nwX L n s = nwAny L n.toNat s := by unfold nwX; rw [h]; rfl
theorem nwOk_l {L : Rowz} {n s : Int} (h : levelB L = false) : nwOk L n s = false := by unfold nwOk; rw [h]; rfl
theorem nwOk_n {L : Rowz} {n s : Int} (h : inR n 1 4 = false) : nwOk L n s = false := by unfold nwOk; rw [h]; simp
theorem nwOk_s {L : Rowz} {n s : Int} (h : inR s 0 65535 = false) : nwOk L n s = false := by unfold nwOk; rw [h]; simp
theorem nwOk_ok {L : Rowz} {n s : Int} (h1 : levelB L = true) (h2 : inR n 1 4 = true) (h3 : inR s 0 65535 = true) : nwOk L n s = true := by unfold nwOk; rw [h1, h2, h3]; rfl
theorem nwAny_scores (L : Rowz) (m : Nat) (s : Int) : (nwAny L m s).scores.length = m := by simp [nwAny]
theorem nwAny_bods (L : Rowz) (m : Nat) (s : Int) : (nwAny L m s).bods.length = m := by simp [nwAny]
theorem nw_valid {L : Rowz} {n s : Int} {m : Nat} (hm : (m : Int) = max 0 (min n 5)) : worldB (nwAny L m s) = nwOk L n s := by
 cases h1 : levelB L with
 | false => rw [nwOk_l h1]; exact wd_l h1
 | true =>
 cases h2 : inR n 1 4 with
 | false =>
  rw [nwOk_n h2]
  refine wd_n ?_
  rw [nwAny_scores]
  cases e : inR (m : Int) 1 4 with
  | false => rfl
  | true =>
   have := (inR_iff _ _ _).1 e
   have : inR n 1 4 = true := (inR_iff _ _ _).2 (by omega)
   rw [this] at h2; cases h2
 | true =>
 cases h3 : inR s 0 65535 with
 | false => rw [nwOk_s h3]; exact wd_s h3
 | true =>
  rw [nwOk_ok h1 h2 h3]
  have hn := (inR_iff _ _ _).1 h2
  have hmn : (m : Int) = n := by omega
  refine wd_ok h1 (by show inR 0 0 100000 = true; decide) h3 ?_ ?_ ?_ ?_
  ·rw [nwAny_scores, hmn]; exact h2
  ·rw [nwAny_scores, nwAny_bods]; exact (inR_iff _ _ _).2 ⟨Int.le_refl _, by omega⟩
  ·refine allW_ok fun k hk => ?_
   have : (nwAny L m s).scores[k] = 0 := by simp [nwAny]
   rw [this]; decide
  ·rw [nwAny_scores]
   show bodsB L m _ = true
   refine bodsB_ok fun k hk => ?_
   have hk' : k < m := by rw [nwAny_bods] at hk; exact hk
   have e : (nwAny L m s).bods[k] = freshB L k := by simp [nwAny]
   rw [e]
   have hf := fresh_fit h1 hk'
   unfold bodAt
   rw [hf]
   have e1 : (decide ((freshB L k).kind = 0) == decide (k < m)) = true := by simp [freshB, hk']
   have e2 : (decide (m ≤ k) || decide ((freshB L k).owner = (k : Int))) = true := by simp [freshB]
   rw [e1, e2]; rfl
end Go.Proofs.YtehjafaobaoleaaDoor
