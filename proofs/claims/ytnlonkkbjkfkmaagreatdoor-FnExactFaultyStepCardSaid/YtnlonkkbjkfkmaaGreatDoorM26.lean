/-
  Texts of this proof: TkWP.
-/
import Derived.Test.YtnlonkkbjkfkmaaGreatDoorM13
import Derived.Test.YtnlonkkbjkfkmaaGreatDoorM14
import Derived.Test.YtnlonkkbjkfkmaaGreatDoorM23
import Derived.Test.YtnlonkkbjkfkmaaGreatDoorM21
import Derived.Test.YtnlonkkbjkfkmaaGreatDoorM24
import Derived.Test.YtnlonkkbjkfkmaaGreatDoorM25
namespace Go.Proofs.YtnlonkkbjkfkmaaGreatDoor
open Go.RowKit
set_option linter.all false
def b00 : Bd := ⟨0, 0, 0, 0, 0, 0, 0, 0, 0⟩
def waitB (L : Rowz) (b : Bd) : Bd := if b.timer - 1 = 0 then freshB L b.owner.toNat else ⟨b.kind, b.owner, b.x, b.y, b.vx, b.vy, b.aim, b.life, b.timer - 1⟩
def st1 (L : Rowz) (i : Int) (k : Nat) (b : Bd) (bs : List Bd) : List Bd :=
 if b.life = 0 then bs.set k (waitB L b)
 else if strT b i && decide (bs.length < 24) then bs.set k (strB L b i) ++ [shotB (strB L b i)]
 else bs.set k (strB L b i)
def stN (L : Rowz) (row : List Int) (bs : List Bd) : Nat → List Bd
 | 0 => bs
 | k + 1 => st1 L (row.getD k 0) k (bs.getD k b00) (stN L row bs k)
def mvB (L : Rowz) (b : Bd) : Option Bd :=
 if b.kind = 0 then (if 0 < b.life then some (moveB L b) else some b)
 else if b.kind = 1 then (if moveT L b || decide (b.timer - 1 ≤ 0) then none else some ⟨b.kind, b.owner, (moveB L b).x, (moveB L b).y, (moveB L b).vx, (moveB L b).vy, b.aim, b.life, b.timer - 1⟩)
 else some b
def mvL (L : Rowz) (bs : List Bd) : List Bd := bs.filterMap (mvB L)
def metF (b : Bd) (but : Int) : List Bd → Nat → Option Nat
 | [], _ => none
 | p :: l, k => if ¬ ((k : Int) = but) ∧ 0 < p.life ∧ meetB p b = true then some k else metF b but l (k + 1)
def awd (S : List Int) (k : Nat) : List Int := S.set k (min (S.getD k 0 + 1) 1000000)
def hurtB (p : Bd) : Bd := if p.life - 1 = 0 then ⟨p.kind, p.owner, p.x, p.y, 0, 0, p.aim, 0, 20⟩ else ⟨p.kind, p.owner, p.x, p.y, p.vx, p.vy, p.aim, p.life - 1, p.timer⟩
abbrev PtS := List Bd × List Int
def hit1 (b : Bd) (v : Nat) (q : PtS) : PtS := (q.1.set v (hurtB (q.1.getD v b00)), if (q.1.getD v b00).life - 1 = 0 then awd q.2 b.owner.toNat else q.2)
def act1 (kind : Int) (b : Bd) (q : PtS) : Option PtS :=
 if b.kind = kind then (if kind = 1 then (metF b b.owner q.1 0).map (fun v => hit1 b v q) else (metF b (-1) q.1 0).map (fun v => (q.1, awd q.2 v))) else none
def pass (kind : Int) : List Bd → PtS → PtS × List Bd
 | [], q => (q, [])
 | b :: l, q => match act1 kind b q with
  | some q' => pass kind l q'
  | none => ((pass kind l q).1, b :: (pass kind l q).2)
def itemB (p : Int × Int) : Bd := ⟨2, 0, p.1, p.2, 0, 0, 0, 0, 0⟩
def lies (p : Int × Int) (bs : List Bd) : Bool := bs.any fun b => decide (b.kind = 2) && (decide (b.x = p.1) && decide (b.y = p.2))
def bring (L : Rowz) (s : Int) (bs : List Bd) : Int × List Bd :=
 if spL L 0 = [] then (s, bs) else ((belowR s (spL L 0).length).1, if lies ((spL L 0).getD (belowR s (spL L 0).length).2.toNat (0, 0)) bs then bs else bs ++ [itemB ((spL L 0).getD (belowR s (spL L 0).length).2.toNat (0, 0))])
def timeX (x : Wd) : Wd :=
 if (x.tick + 1) % 16 = 0 ∧ x.bods.length < 24 then ⟨x.rows, x.tick + 1, (bring x.rows (nextR x.seed) x.bods).1, x.scores, (bring x.rows (nextR x.seed) x.bods).2⟩
 else ⟨x.rows, x.tick + 1, nextR x.seed, x.scores, x.bods⟩
def steerX (x : Wd) (row : List Int) : Wd := ⟨x.rows, x.tick, x.seed, x.scores, stN x.rows row x.bods x.scores.length⟩
def moveXW (x : Wd) : Wd := ⟨x.rows, x.tick, x.seed, x.scores, mvL x.rows x.bods⟩
def meetX (kind : Int) (x : Wd) : Wd :=
 ⟨x.rows, x.tick, x.seed, (pass kind (x.bods.drop x.scores.length) (x.bods.take x.scores.length, x.scores)).1.2,
  (pass kind (x.bods.drop x.scores.length) (x.bods.take x.scores.length, x.scores)).1.1 ++ (pass kind (x.bods.drop x.scores.length) (x.bods.take x.scores.length, x.scores)).2⟩
def stepV (x : Wd) (row : List Int) : Wd := timeX (meetX 2 (meetX 1 (moveXW (steerX x row))))
def stepOk (x : Wd) (row : List Int) : Bool := worldB x && (decide (¬ x.tick = 100000) && rokB (x.scores.length : Int) row)
def stepW (x : Wd) (row : List Int) : Wd := if stepOk x row then stepV x row else x
section
variable {L : Rowz} {n : Int} {b : Bd}
theorem fit_parts (h : fitB L n b = true) : inR b.kind 0 2 = true ∧ inR b.owner 0 (n - 1) = true ∧ blockB L b.x b.y (sizeI b.kind) = false ∧ inR b.vx (-15) 15 = true ∧ inR b.vy (-15) 15 = true ∧ kindB b = true := by
 unfold fitB at h
 simpa [Bool.and_eq_true] using h
theorem fit_mk (h0 : inR b.kind 0 2 = true) (h1 : inR b.owner 0 (n - 1) = true) (h2 : blockB L b.x b.y (sizeI b.kind) = false) (h3 : inR b.vx (-15) 15 = true) (h4 : inR b.vy (-15) 15 = true) (h5 : kindB b = true) : fitB L n b = true := by
 rw [fit_all h0 h1 h2 h3 h4, h5]
theorem kind0_facts (hk : b.kind = 0) (h : kindB b = true) : (b.aim = 1 ∨ b.aim = -1) ∧ 0 ≤ b.life ∧ b.life ≤ 3 ∧ (b.life = 0 → 1 ≤ b.timer ∧ b.timer ≤ 20) ∧ (¬ b.life = 0 → 0 ≤ b.timer ∧ b.timer ≤ 12) := by
 rw [kind_0 hk] at h
 unfold aimB at h
 simp only [Bool.and_eq_true, Bool.or_eq_true, decide_eq_true_eq, inR_iff] at h
 obtain ⟨h1, ⟨h2, h3⟩, h4⟩ := h
 refine ⟨h1, h2, h3, fun h0 => ?_, fun h0 => ?_⟩
 ·rw [if_pos h0, inR_iff] at h4; exact h4
 ·rw [if_neg h0, inR_iff] at h4; exact h4
theorem kind0_mk (hk : b.kind = 0) (h1 : b.aim = 1 ∨ b.aim = -1) (h2 : 0 ≤ b.life ∧ b.life ≤ 3) (h3 : b.life = 0 → 1 ≤ b.timer ∧ b.timer ≤ 20) (h4 : ¬ b.life = 0 → 0 ≤ b.timer ∧ b.timer ≤ 12) : kindB b = true := by
 rw [kind_0 hk]
 unfold aimB
 simp only [Bool.and_eq_true, Bool.or_eq_true, decide_eq_true_eq, inR_iff]
 refine ⟨h1, h2, ?_⟩
 by_cases h0 : b.life = 0
 ·rw [if_pos h0, inR_iff]; exact h3 h0
 ·rw [if_neg h0, inR_iff]; exact h4 h0
theorem kind1_facts (hk : b.kind = 1) (h : kindB b = true) : b.aim = 0 ∧ b.life = 0 ∧ 1 ≤ b.timer ∧ b.timer ≤ 25 := by
 rw [kind_1 hk] at h
 simpa only [Bool.and_eq_true, decide_eq_true_eq, inR_iff] using h
theorem kind1_mk (hk : b.kind = 1) (h : b.aim = 0 ∧ b.life = 0 ∧ 1 ≤ b.timer ∧ b.timer ≤ 25) : kindB b = true := by
 rw [kind_1 hk]
 simpa only [Bool.and_eq_true, decide_eq_true_eq, inR_iff] using h
end
theorem slide_free {L : Rowz} {S dx dy : Int} : ∀ (n : Nat) (x y : Int), blockB L x y S = false → blockB L (slideN L S dx dy n x y).1 (slideN L S dx dy n x y).2.1 S = false
 | 0, _, _, h => h
 | n + 1, x, y, h => by
  rw [slideN]
  cases e : blockB L (x + dx) (y + dy) S with
  | true => simpa using h
  | false => simpa using slide_free n (x + dx) (y + dy) e
theorem stop_in {t : Bool} {v : Int} (h : inR v (-15) 15 = true) : inR (stop t v) (-15) 15 = true := by
 unfold stop
 cases t with
 | true => rfl
 | false => simpa using h
theorem move_free {L : Rowz} {b : Bd} (h : blockB L b.x b.y (sizeI b.kind) = false) : blockB L (moveB L b).x (moveB L b).y (sizeI b.kind) = false :=
 slide_free _ _ _ (slide_free _ _ _ h)
theorem move_fit {L : Rowz} {n : Int} {b : Bd} (h : fitB L n b = true) : fitB L n (moveB L b) = true := by
 obtain ⟨h0, h1, h2, h3, h4, h5⟩ := fit_parts h
 exact fit_mk h0 h1 (move_free h2) (stop_in h3) (stop_in h4) h5
theorem wait_fit {L : Rowz} (hl : levelB L = true) {n k : Nat} {b : Bd} (h : fitB L (n : Int) b = true) (hk : b.kind = 0) (h0 : b.life = 0) (ho : b.owner = (k : Int)) (hkn : k < n) : fitB L (n : Int) (waitB L b) = true ∧ (waitB L b).kind = 0 ∧ (waitB L b).owner = (k : Int) := by
 obtain ⟨p0, p1, p2, p3, p4, p5⟩ := fit_parts h
 obtain ⟨q1, q2, q3, q4, q5⟩ := kind0_facts hk p5
 unfold waitB
 by_cases ht : b.timer - 1 = 0
 ·rw [if_pos ht, ho, Int.toNat_natCast]
  exact ⟨fresh_fit hl hkn, rfl, rfl⟩
 ·rw [if_neg ht]
  have := q4 h0
  exact ⟨fit_mk p0 p1 p2 p3 p4 (kind0_mk hk q1 ⟨q2, q3⟩ (fun _ => ⟨by show 1 ≤ b.timer - 1; omega, by show b.timer - 1 ≤ 20; omega⟩) (fun hh => absurd h0 hh)), hk, ho⟩
theorem vx_in (b : Bd) (i : Int) : inR (vxI b i) (-15) 15 = true := by
 unfold vxI
 split
 ·decide
 ·split <;> decide
theorem am_in {b : Bd} {i : Int} (h : b.aim = 1 ∨ b.aim = -1) : amI b i = 1 ∨ amI b i = -1 := by
 unfold amI
 split
 ·exact .inl rfl
 ·split
  ·exact .inr rfl
  ·exact h
theorem vy_in {L : Rowz} {b : Bd} {i : Int} (h : inR b.vy (-15) 15 = true) : inR (vyI L b i) (-15) 15 = true := by
 rw [inR_iff] at h
 unfold vyI
 split
 ·decide
 ·rw [inR_iff]; omega
theorem steer_fit {L : Rowz} {n : Int} {b : Bd} (h : fitB L n b = true) (hk : b.kind = 0) (h0 : ¬ b.life = 0) (i : Int) : fitB L n (strB L b i) = true := by
 obtain ⟨p0, p1, p2, p3, p4, p5⟩ := fit_parts h
 obtain ⟨q1, q2, q3, q4, q5⟩ := kind0_facts hk p5
 have ht := q5 h0
 refine fit_mk p0 p1 p2 (vx_in b i) (vy_in p4) (kind0_mk hk (am_in q1) ⟨q2, q3⟩ (fun hh => absurd hh h0) (fun _ => ?_))
 show 0 ≤ (if strT b i = true then 12 else tm1 b) ∧ (if strT b i = true then 12 else tm1 b) ≤ 12
 unfold tm1
 split
 ·omega
 ·split <;> omega
theorem shot_free {L : Rowz} {x y : Int} (h : blockB L x y 12 = false) : blockB L (x + 4) (y + 4) 4 = false := by
 have h0 : 0 ≤ x := by
  apply Classical.byContradiction; intro hn
  rw [blockB_neg (.inl (by omega))] at h; cases h
 have h1 : 0 ≤ y := by
  apply Classical.byContradiction; intro hn
  rw [blockB_neg (.inr (by omega))] at h; cases h
 obtain ⟨X, rfl⟩ := Int.eq_ofNat_of_zero_le h0
 obtain ⟨Y, rfl⟩ := Int.eq_ofNat_of_zero_le h1
 have e1 : (X : Int) + 4 = ((X + 4 : Nat) : Int) := by omega
 have e2 : (Y : Int) + 4 = ((Y + 4 : Nat) : Int) := by omega
 have e3 : (4 : Int) = ((4 : Nat) : Int) := rfl
 have e4 : (12 : Int) = ((12 : Nat) : Int) := rfl
 rw [e4, blockB_nat] at h
 rw [e1, e2]
 rw [show blockB L ((X + 4 : Nat) : Int) ((Y + 4 : Nat) : Int) 4 = blockN L (X + 4) (Y + 4) 4 from blockB_nat (X + 4) (Y + 4) 4]
 refine blockN_no fun r c hr hc => ?_
 cases e : cellN L r c with
 | false => rfl
 | true =>
  exfalso
  have hr' : r = Y / 16 ∨ r = (Y + 12 - 1) / 16 := by rcases hr with rfl | rfl <;> omega
  have hc' : c = X / 16 ∨ c = (X + 12 - 1) / 16 := by rcases hc with rfl | rfl <;> omega
  rw [blockN_hit hr' hc' e] at h
  cases h
theorem shot_fit {L : Rowz} (hg : Good L) {n : Int} {b : Bd} (h : fitB L n b = true) (hk : b.kind = 0) : fitB L n (shotB b) = true ∧ (shotB b).kind = 1 := by
 obtain ⟨p0, p1, p2, p3, p4, p5⟩ := fit_parts h
 obtain ⟨q1, q2, q3, q4, q5⟩ := kind0_facts hk p5
 rw [hk] at p2
 obtain ⟨x0, x1, y0, y1⟩ := blockB_place hg (S := 12) p2
 unfold shotB
 have z1 : inR b.x 0 1000 = true := (inR_iff _ _ _).2 ⟨by omega, by omega⟩
 have z2 : inR b.y 0 1000 = true := (inR_iff _ _ _).2 ⟨by omega, by omega⟩
 have z3 : inR b.aim (-1) 1 = true := (inR_iff _ _ _).2 ⟨by omega, by omega⟩
 rw [z1, z2, z3, if_pos (show (true && (true && true)) = true from rfl)]
 refine ⟨fit_mk (show inR 1 0 2 = true by decide) p1 (shot_free p2) ?_ (show inR 0 (-15) 15 = true by decide) (kind1_mk rfl ⟨rfl, rfl, show (1 : Int) ≤ 25 by decide, show (25 : Int) ≤ 25 by decide⟩), rfl⟩
 show inR (6 * b.aim) (-15) 15 = true
 rw [inR_iff]; omega
def Fine (L : Rowz) (n : Nat) (bs : List Bd) : Prop := n ≤ bs.length ∧ bs.length ≤ 24 ∧ ∀ k (hk : k < bs.length), fitB L (n : Int) bs[k] = true ∧ (bs[k].kind = 0 ↔ k < n) ∧ (k < n → bs[k].owner = (k : Int))
theorem bodAt_parts {L : Rowz} {n k : Nat} {b : Bd} (h : bodAt L n k b = true) : fitB L (n : Int) b = true ∧ (b.kind = 0 ↔ k < n) ∧ (k < n → b.owner = (k : Int)) := by
 unfold bodAt at h
 simp only [Bool.and_eq_true, Bool.or_eq_true, decide_eq_true_eq, beq_iff_eq, decide_eq_decide] at h
 obtain ⟨h1, h2, h3⟩ := h
 exact ⟨h1, h2, fun hk => by rcases h3 with h3 | h3 <;> omega⟩
theorem bodAt_mk {L : Rowz} {n k : Nat} {b : Bd} (h1 : fitB L (n : Int) b = true) (h2 : b.kind = 0 ↔ k < n) (h3 : k < n → b.owner = (k : Int)) : bodAt L n k b = true := by
 unfold bodAt
 simp only [Bool.and_eq_true, Bool.or_eq_true, decide_eq_true_eq, beq_iff_eq, decide_eq_decide]
 refine ⟨h1, h2, ?_⟩
 by_cases hk : k < n
 ·exact .inr (h3 hk)
 ·exact .inl (by omega)
theorem fine_of {x : Wd} (h : worldB x = true) : Fine x.rows x.scores.length x.bods := by
 obtain ⟨-, -, -, h4, h5, -, h7⟩ := wd_facts h
 rw [inR_iff] at h5
 exact ⟨by omega, by omega, fun k hk => bodAt_parts (bodsB_at h7 hk)⟩
theorem fine_bods {L : Rowz} {n : Nat} {bs : List Bd} (h : Fine L n bs) : bodsB L n bs = true :=
 bodsB_ok fun k hk => let ⟨h1, h2, h3⟩ := h.2.2 k hk; bodAt_mk h1 h2 h3
theorem Fine.set {L : Rowz} {n : Nat} {bs : List Bd} (h : Fine L n bs) {k : Nat} (hk : k < bs.length) {b : Bd} (h1 : fitB L (n : Int) b = true) (h2 : b.kind = 0 ↔ k < n) (h3 : k < n → b.owner = (k : Int)) : Fine L n (bs.set k b) := by
 refine ⟨by rw [List.length_set]; exact h.1, by rw [List.length_set]; exact h.2.1, fun j hj => ?_⟩
 rw [List.length_set] at hj
 rw [List.getElem_set]
 by_cases e : k = j
 ·subst e; rw [if_pos rfl]; exact ⟨h1, h2, h3⟩
 ·rw [if_neg e]; exact h.2.2 j hj
theorem Fine.push {L : Rowz} {n : Nat} {bs : List Bd} (h : Fine L n bs) (hl : bs.length < 24) {b : Bd} (h1 : fitB L (n : Int) b = true) (h2 : ¬ b.kind = 0) : Fine L n (bs ++ [b]) := by
 obtain ⟨a1, a2, a3⟩ := h
 refine ⟨by simp; omega, by simp; omega, fun j hj => ?_⟩
 rw [List.getElem_append]
 by_cases e : j < bs.length
 ·rw [dif_pos e]; exact a3 j e
 ·rw [dif_neg e]
  have hj' : j = bs.length := by simp at hj; omega
  subst hj'
  simp only [Nat.sub_self, List.getElem_cons_zero]
  exact ⟨h1, ⟨fun hh => absurd hh h2, fun hh => absurd hh (by omega)⟩, fun hh => absurd hh (by omega)⟩
theorem st1_fine {L : Rowz} (hg : Good L) (hl : levelB L = true) {n k : Nat} {bs : List Bd} (h : Fine L n bs) (hk : k < n) (i : Int) : Fine L n (st1 L i k (bs.getD k b00) bs) ∧ bs.length ≤ (st1 L i k (bs.getD k b00) bs).length := by
 have hkl : k < bs.length := by have := h.1; omega
 have e : bs.getD k b00 = bs[k] := by rw [List.getD_eq_getElem?_getD, List.getElem?_eq_getElem hkl]; rfl
 rw [e]
 obtain ⟨h1, h2, h3⟩ := h.2.2 k hkl
 have hkd := h2.2 hk
 have how := h3 hk
 unfold st1
 by_cases h0 : bs[k].life = 0
 ·rw [if_pos h0]
  obtain ⟨w1, w2, w3⟩ := wait_fit hl h1 hkd h0 how hk
  exact ⟨h.set hkl w1 ⟨fun _ => hk, fun _ => w2⟩ (fun _ => w3), by simp⟩
 ·rw [if_neg h0]
  have hf := steer_fit h1 hkd h0 i
  have hS := h.set hkl hf ⟨fun _ => hk, fun _ => hkd⟩ (fun _ => how)
  by_cases hc : (strT bs[k] i && decide (bs.length < 24)) = true
  ·rw [if_pos hc]
   rw [Bool.and_eq_true, decide_eq_true_eq] at hc
   obtain ⟨s1, s2⟩ := shot_fit hg hf hkd
   exact ⟨hS.push (by rw [List.length_set]; exact hc.2) s1 (by rw [s2]; decide), by simp⟩
  ·rw [if_neg hc]
   exact ⟨hS, by simp⟩
theorem st1_later {L : Rowz} {i : Int} {k j : Nat} {b : Bd} {bs : List Bd} (hj : k < j) (hl : j < bs.length) : (st1 L i k b bs)[j]? = bs[j]? := by
 unfold st1
 split
 ·rw [List.getElem?_set]; simp; omega
 ·split
  ·rw [List.getElem?_append_left (by simpa using hl), List.getElem?_set]; simp; omega
  ·rw [List.getElem?_set]; simp; omega
theorem stN_all {L : Rowz} (hg : Good L) (hl : levelB L = true) {n : Nat} {bs : List Bd} (h : Fine L n bs) (row : List Int) : ∀ k, k ≤ n → Fine L n (stN L row bs k) ∧ bs.length ≤ (stN L row bs k).length ∧ ∀ j, k ≤ j → j < bs.length → (stN L row bs k)[j]? = bs[j]?
 | 0, _ => ⟨h, Nat.le_refl _, fun _ _ _ => rfl⟩
 | k + 1, hk => by
  obtain ⟨h1, h2, h3⟩ := stN_all hg hl h row k (by omega)
  have hn := h.1
  have e : bs.getD k b00 = (stN L row bs k).getD k b00 := by
   rw [List.getD_eq_getElem?_getD, List.getD_eq_getElem?_getD, h3 k (Nat.le_refl _) (by omega)]
  rw [stN, e]
  obtain ⟨g1, g2⟩ := st1_fine hg hl h1 (k := k) (by omega) (row.getD k 0)
  refine ⟨g1, by omega, fun j hj hjl => ?_⟩
  rw [st1_later (by omega) (by omega)]
  exact h3 j (by omega) hjl
def Oth (L : Rowz) (n : Nat) (O : List Bd) : Prop := ∀ b ∈ O, fitB L (n : Int) b = true ∧ ¬ b.kind = 0
def Pls (L : Rowz) (n : Nat) (P : List Bd) : Prop := P.length = n ∧ ∀ k (hk : k < P.length), fitB L (n : Int) P[k] = true ∧ P[k].kind = 0 ∧ P[k].owner = (k : Int)
theorem fine_part {L : Rowz} {n : Nat} {bs : List Bd} (h : Fine L n bs) : Pls L n (bs.take n) ∧ Oth L n (bs.drop n) := by
 obtain ⟨h1, h2, h3⟩ := h
 refine ⟨⟨by simp; omega, fun k hk => ?_⟩, fun b hb => ?_⟩
 ·have hkn : k < n := by simp at hk; omega
  rw [List.getElem_take]
  obtain ⟨a, b, c⟩ := h3 k (by omega)
  exact ⟨a, b.2 hkn, c hkn⟩
 ·obtain ⟨i, hi, rfl⟩ := List.getElem_of_mem hb
  rw [List.getElem_drop]
  obtain ⟨a, b, c⟩ := h3 (n + i) (by simp at hi; omega)
  exact ⟨a, fun hh => by have := b.1 hh; omega⟩
theorem fine_join {L : Rowz} {n : Nat} {P O : List Bd} (hP : Pls L n P) (hO : Oth L n O) (hl : P.length + O.length ≤ 24) : Fine L n (P ++ O) := by
 obtain ⟨h1, h2⟩ := hP
 refine ⟨by simp; omega, by simp; omega, fun k hk => ?_⟩
 rw [List.getElem_append]
 by_cases e : k < P.length
 ·rw [dif_pos e]
  obtain ⟨a, b, c⟩ := h2 k e
  exact ⟨a, ⟨fun _ => by omega, fun _ => b⟩, fun _ => c⟩
 ·rw [dif_neg e]
  obtain ⟨a, b⟩ := hO _ (List.getElem_mem (l := O) (n := k - P.length) (by simp at hk; omega))
  exact ⟨a, ⟨fun hh => absurd hh b, fun hh => by omega⟩, fun hh => by omega⟩
theorem mvB_player {L : Rowz} {b : Bd} (hk : b.kind = 0) : mvB L b = some (if 0 < b.life then moveB L b else b) := by
 unfold mvB; rw [if_pos hk]; split <;> rfl
theorem mvB_fit {L : Rowz} {n : Int} {b c : Bd} (h : fitB L n b = true) (he : mvB L b = some c) : fitB L n c = true ∧ c.kind = b.kind ∧ c.owner = b.owner := by
 unfold mvB at he
 by_cases h0 : b.kind = 0
 ·rw [if_pos h0] at he
  split at he
  ·obtain rfl := Option.some.inj he; exact ⟨move_fit h, rfl, rfl⟩
  ·obtain rfl := Option.some.inj he; exact ⟨h, rfl, rfl⟩
 ·rw [if_neg h0] at he
  by_cases h1 : b.kind = 1
  ·rw [if_pos h1] at he
   split at he
   ·cases he
   ·rename_i hc
    obtain rfl := Option.some.inj he
    refine ⟨?_, rfl, rfl⟩
    obtain ⟨p0, p1, p2, p3, p4, p5⟩ := fit_parts h
    obtain ⟨q1, q2, q3, q4⟩ := kind1_facts h1 p5
    simp only [Bool.or_eq_true, decide_eq_true_eq] at hc
    exact fit_mk p0 p1 (move_free p2) (stop_in p3) (stop_in p4) (kind1_mk h1 ⟨q1, q2, by show 1 ≤ b.timer - 1; omega, by show b.timer - 1 ≤ 25; omega⟩)
  ·rw [if_neg h1] at he
   obtain rfl := Option.some.inj he; exact ⟨h, rfl, rfl⟩
theorem mv_players {L : Rowz} {n : Nat} : ∀ (P : List Bd), (∀ b ∈ P, b.kind = 0) → P.filterMap (mvB L) = P.map fun b => if 0 < b.life then moveB L b else b
 | [], _ => rfl
 | b :: l, h => by
  rw [List.filterMap_cons, mvB_player (h b (by simp)), List.map_cons, mv_players (n := n) l (fun c hc => h c (by simp [hc]))]
theorem mv_fine {L : Rowz} {n : Nat} {bs : List Bd} (h : Fine L n bs) : Fine L n (mvL L bs) := by
 obtain ⟨hP, hO⟩ := fine_part h
 have hl := h.2.1
 have hn := h.1
 unfold mvL
 rw [← List.take_append_drop n bs, List.filterMap_append]
 have e := mv_players (L := L) (n := n) (bs.take n) (fun b hb => by obtain ⟨k, hk, rfl⟩ := List.getElem_of_mem hb; exact (hP.2 k hk).2.1)
 rw [e]
 refine fine_join ⟨by simp; omega, fun k hk => ?_⟩ (fun c hc => ?_) ?_
 ·have hk' : k < (bs.take n).length := by simpa using hk
  rw [List.getElem_map]
  obtain ⟨a, b, c⟩ := hP.2 k hk'
  split
  ·exact ⟨move_fit a, b, c⟩
  ·exact ⟨a, b, c⟩
 ·obtain ⟨b, hb, hbc⟩ := List.mem_filterMap.1 hc
  obtain ⟨a, d⟩ := hO b hb
  obtain ⟨f1, f2, -⟩ := mvB_fit a hbc
  exact ⟨f1, by rw [f2]; exact d⟩
 ·have := List.length_filterMap_le (mvB L) (bs.drop n)
  simp at this ⊢
  omega
theorem metF_in {b : Bd} {but : Int} : ∀ (P : List Bd) (k v : Nat), metF b but P k = some v → k ≤ v ∧ ∃ h : v - k < P.length, 0 < P[v - k].life ∧ ¬ ((v : Int) = but)
 | [], _, _, h => by cases h
 | p :: l, k, v, h => by
  rw [metF] at h
  split at h
  ·rename_i hc
   obtain rfl := Option.some.inj h
   refine ⟨Nat.le_refl _, by simp, ?_, hc.1⟩
   simpa using hc.2.1
  ·obtain ⟨h1, h2, h3, h4⟩ := metF_in l (k + 1) v h
   have e : v - k = (v - (k + 1)) + 1 := by omega
   refine ⟨by omega, by simp; omega, ?_, h4⟩
   simp only [e, List.getElem_cons_succ]; exact h3
def ScB (n : Nat) (S : List Int) : Prop := S.length = n ∧ ∀ k (hk : k < S.length), 0 ≤ S[k] ∧ S[k] ≤ 1000000
theorem awd_ok {n : Nat} {S : List Int} (h : ScB n S) (k : Nat) : ScB n (awd S k) := by
 unfold awd
 refine ⟨by rw [List.length_set]; exact h.1, fun j hj => ?_⟩
 rw [List.length_set] at hj
 rw [List.getElem_set]
 split
 ·rename_i e
  subst e
  have := h.2 k hj
  rw [List.getD_eq_getElem?_getD, List.getElem?_eq_getElem hj]
  simp only [Option.getD_some]
  omega
 ·exact h.2 j hj
theorem hurt_fit {L : Rowz} {n : Int} {p : Bd} (h : fitB L n p = true) (hk : p.kind = 0) (h0 : 0 < p.life) : fitB L n (hurtB p) = true ∧ (hurtB p).kind = 0 ∧ (hurtB p).owner = p.owner := by
 obtain ⟨p0, p1, p2, p3, p4, p5⟩ := fit_parts h
 obtain ⟨q1, q2, q3, q4, q5⟩ := kind0_facts hk p5
 have ht := q5 (by omega)
 unfold hurtB
 by_cases e : p.life - 1 = 0
 ·rw [if_pos e]
  exact ⟨fit_mk p0 p1 p2 (by show inR 0 (-15) 15 = true; decide) (by show inR 0 (-15) 15 = true; decide) (kind0_mk hk q1 ⟨show (0 : Int) ≤ 0 by decide, show (0 : Int) ≤ 3 by decide⟩ (fun _ => ⟨show (1 : Int) ≤ 20 by decide, show (20 : Int) ≤ 20 by decide⟩) (fun hh => absurd rfl hh)), hk, rfl⟩
 ·rw [if_neg e]
  exact ⟨fit_mk p0 p1 p2 p3 p4 (kind0_mk hk q1 ⟨by show 0 ≤ p.life - 1; omega, by show p.life - 1 ≤ 3; omega⟩ (fun hh => absurd hh e) (fun _ => ht)), hk, rfl⟩
def PtOk (L : Rowz) (n : Nat) (q : PtS) : Prop := Pls L n q.1 ∧ ScB n q.2
theorem act_ok {L : Rowz} {n : Nat} {kind : Int} {b : Bd} {q q' : PtS} (h : PtOk L n q) (he : act1 kind b q = some q') : PtOk L n q' := by
 unfold act1 at he
 split at he
 ·split at he
  ·obtain ⟨v, hv, rfl⟩ := Option.map_eq_some_iff.1 he
   obtain ⟨-, h1, h2, h3⟩ := metF_in q.1 0 v hv
   simp only [Nat.sub_zero] at h1 h2
   have e : q.1.getD v b00 = q.1[v] := by rw [List.getD_eq_getElem?_getD, List.getElem?_eq_getElem h1]; rfl
   unfold hit1
   rw [e]
   obtain ⟨a, b1, c⟩ := h.1.2 v h1
   obtain ⟨f1, f2, f3⟩ := hurt_fit a b1 h2
   refine ⟨⟨by rw [List.length_set]; exact h.1.1, fun j hj => ?_⟩, ?_⟩
   ·rw [List.length_set] at hj
    rw [List.getElem_set]
    split
    ·rename_i e2; subst e2; exact ⟨f1, f2, by rw [f3]; exact c⟩
    ·exact h.1.2 j hj
   ·split
    ·exact awd_ok h.2 _
    ·exact h.2
  ·obtain ⟨v, hv, rfl⟩ := Option.map_eq_some_iff.1 he
   exact ⟨h.1, awd_ok h.2 v⟩
 ·cases he
theorem pass_ok {L : Rowz} {n : Nat} {kind : Int} : ∀ (O : List Bd) (q : PtS), PtOk L n q → PtOk L n (pass kind O q).1 ∧ (∀ b ∈ (pass kind O q).2, b ∈ O) ∧ (pass kind O q).2.length ≤ O.length
 | [], q, h => ⟨h, fun _ hb => hb, Nat.le_refl _⟩
 | b :: l, q, h => by
  rw [pass]
  cases e : act1 kind b q with
  | some q' =>
   obtain ⟨h1, h2, h3⟩ := pass_ok l q' (act_ok h e)
   exact ⟨h1, fun c hc => by simp [h2 c hc], by simp; omega⟩
  | none =>
   obtain ⟨h1, h2, h3⟩ := pass_ok l q h
   refine ⟨h1, fun c hc => ?_, by simp; omega⟩
   rcases List.mem_cons.1 hc with rfl | hc
   ·simp
   ·simp [h2 c hc]
def FineX (x : Wd) : Prop := levelB x.rows = true ∧ (1 ≤ x.scores.length ∧ x.scores.length ≤ 4) ∧ ScB x.scores.length x.scores ∧ Fine x.rows x.scores.length x.bods
theorem allW_iff {lo hi : Int} {l : List Int} : allW lo hi l = true ↔ ∀ k (hk : k < l.length), lo ≤ l[k] ∧ l[k] ≤ hi := by
 unfold allW
 rw [List.all_eq_true]
 refine ⟨fun h k hk => ?_, fun h x hx => ?_⟩
 ·have := h _ (List.getElem_mem hk); rw [inR_iff] at this; exact this
 ·obtain ⟨k, hk, rfl⟩ := List.getElem_of_mem hx
  rw [inR_iff]; exact h k hk
theorem fineX_of {x : Wd} (h : worldB x = true) : FineX x := by
 obtain ⟨h1, -, -, h4, -, h6, -⟩ := wd_facts h
 rw [inR_iff] at h4
 exact ⟨h1, by omega, ⟨rfl, allW_iff.1 h6⟩, fine_of h⟩
theorem steerX_fine {x : Wd} (h : FineX x) (row : List Int) : FineX (steerX x row) :=
 ⟨h.1, h.2.1, h.2.2.1, (stN_all (levelB_facts h.1) h.1 h.2.2.2 row _ (Nat.le_refl _)).1⟩
theorem moveXW_fine {x : Wd} (h : FineX x) : FineX (moveXW x) := ⟨h.1, h.2.1, h.2.2.1, mv_fine h.2.2.2⟩
theorem meetX_fine {x : Wd} (h : FineX x) (kind : Int) : FineX (meetX kind x) ∧ (meetX kind x).scores.length = x.scores.length := by
 obtain ⟨h1, h2, h3, h4⟩ := h
 obtain ⟨hP, hO⟩ := fine_part h4
 obtain ⟨⟨g1, g2⟩, g3, g4⟩ := pass_ok (kind := kind) (x.bods.drop x.scores.length) (x.bods.take x.scores.length, x.scores) ⟨hP, h3⟩
 have hl := h4.2.1
 have hn := h4.1
 have hsl : (meetX kind x).scores.length = x.scores.length := g2.1
 refine ⟨⟨h1, by rw [hsl]; exact h2, by rw [hsl]; exact g2, ?_⟩, hsl⟩
 rw [hsl]
 refine fine_join g1 (fun b hb => hO b (g3 b hb)) ?_
 rw [g1.1]
 simp at g4
 omega
theorem spL_at : ∀ (L : Rowz) (r : Nat) (p : Int × Int), p ∈ spL L r → ∃ (i c : Nat) (h : i < L.length) (h2 : c < L[i].length), p = spotP (r + i) c ∧ L[i][c].toNat = 111
 | [], _, _, h => by cases h
 | row :: L, r, p, h => by
  rw [spL, List.mem_append] at h
  rcases h with h | h
  ·have key : ∀ (l : List UInt8) (c : Nat), p ∈ spR r l c → ∃ (d : Nat) (h : d < l.length), p = spotP r (c + d) ∧ l[d].toNat = 111 := by
    intro l
    induction l with
    | nil => intro c hp; cases hp
    | cons ch l ih =>
     intro c hp
     rw [spR] at hp
     split at hp
     ·rename_i h0
      rcases List.mem_cons.1 hp with rfl | hp
      ·exact ⟨0, by simp, rfl, h0⟩
      ·obtain ⟨d, hd, e1, e2⟩ := ih (c + 1) hp
       exact ⟨d + 1, by simp; omega, by rw [e1]; congr 1; omega, by simpa using e2⟩
     ·obtain ⟨d, hd, e1, e2⟩ := ih (c + 1) hp
      exact ⟨d + 1, by simp; omega, by rw [e1]; congr 1; omega, by simpa using e2⟩
   obtain ⟨d, hd, e1, e2⟩ := key row 0 h
   exact ⟨0, d, by simp, hd, by rw [e1]; congr 1; omega, by simpa using e2⟩
  ·obtain ⟨i, c, h1, h2, e1, e2⟩ := spL_at L (r + 1) p h
   exact ⟨i + 1, c, by simp; omega, by simpa using h2, by rw [e1]; congr 1; omega, by simpa using e2⟩
theorem spot_free {L : Rowz} (hg : Good L) {p : Int × Int} (h : p ∈ spL L 0) : blockB L p.1 p.2 8 = false ∧ 0 ≤ p.1 ∧ p.1 ≤ 1000 ∧ 0 ≤ p.2 ∧ p.2 ≤ 1000 := by
 obtain ⟨r, c, hr, hc, rfl, h0⟩ := spL_at L 0 p h
 have hw : L[r].length = wd L := hg.row hr
 obtain ⟨-, hn12, -, hw20, -⟩ := id hg
 have hcell : cellN L r c = false := by
  rw [cellN_in hg hr (by omega)]
  have : ¬ ((L[r][c].toNat : Int) = 35) := by omega
  simpa using this
 rw [Nat.zero_add]
 refine ⟨?_, by simp [spotP]; omega, by simp [spotP]; omega, by simp [spotP]; omega, by simp [spotP]; omega⟩
 show blockB L (16 * (c : Int) + 4) (16 * (r : Int) + 4) 8 = false
 have e1 : 16 * (c : Int) + 4 = ((16 * c + 4 : Nat) : Int) := by omega
 have e2 : 16 * (r : Int) + 4 = ((16 * r + 4 : Nat) : Int) := by omega
 rw [e1, e2]
 rw [show blockB L ((16 * c + 4 : Nat) : Int) ((16 * r + 4 : Nat) : Int) 8 = blockN L (16 * c + 4) (16 * r + 4) 8 from blockB_nat _ _ 8]
 refine blockN_no fun r' c' hr' hc' => ?_
 have er : r' = r := by omega
 have ec : c' = c := by omega
 rw [er, ec]; exact hcell
theorem item_fit {L : Rowz} (hg : Good L) {n : Nat} (hn : 1 ≤ n) {p : Int × Int} (h : p ∈ spL L 0) : fitB L (n : Int) (itemB p) = true :=
 fit_mk (by show inR 2 0 2 = true; decide) ((inR_iff _ _ _).2 ⟨by show (0 : Int) ≤ 0; omega, by show (0 : Int) ≤ (n : Int) - 1; omega⟩) (spot_free hg h).1 (by show inR 0 (-15) 15 = true; decide) (by show inR 0 (-15) 15 = true; decide) (by unfold kindB; rfl)
theorem belowR_in {s n : Int} (h : 1 ≤ n) : 0 ≤ (belowR s n).2 ∧ (belowR s n).2 < n ∧ 0 ≤ (belowR s n).1 ∧ (belowR s n).1 ≤ 65535 := by
 unfold belowR
 split
 ·exact ⟨by simp, by simp; omega, by simp, by simp⟩
 ·have := nextR_bd s
  have h1 := Int.emod_nonneg (nextR s / 16) (b := n) (by omega)
  have h2 := Int.emod_lt_of_pos (nextR s / 16) (b := n) (by omega)
  exact ⟨h1, h2, this.1, this.2⟩
theorem spot_pick {L : Rowz} (h : ¬ spL L 0 = []) (s : Int) : (spL L 0).getD (belowR s (spL L 0).length).2.toNat (0, 0) ∈ spL L 0 := by
 have hp : 0 < (spL L 0).length := List.length_pos_iff.2 h
 have := belowR_in (s := s) (n := ((spL L 0).length : Int)) (by omega)
 have hlt : (belowR s (spL L 0).length).2.toNat < (spL L 0).length := by omega
 rw [List.getD_eq_getElem?_getD, List.getElem?_eq_getElem hlt]
 exact List.getElem_mem hlt
theorem bring_fine {L : Rowz} (hg : Good L) {n : Nat} (hn : 1 ≤ n) {bs : List Bd} (h : Fine L n bs) (hl : bs.length < 24) {s : Int} (hs : 0 ≤ s ∧ s ≤ 65535) : Fine L n (bring L s bs).2 ∧ 0 ≤ (bring L s bs).1 ∧ (bring L s bs).1 ≤ 65535 := by
 unfold bring
 by_cases he : spL L 0 = []
 ·rw [if_pos he]; exact ⟨h, hs⟩
 ·rw [if_neg he]
  have hp : 0 < (spL L 0).length := List.length_pos_iff.2 he
  have hr := belowR_in (s := s) (n := ((spL L 0).length : Int)) (by omega)
  refine ⟨?_, hr.2.2⟩
  show Fine L n (if lies ((spL L 0).getD (belowR s (spL L 0).length).2.toNat (0, 0)) bs = true then bs else bs ++ [itemB ((spL L 0).getD (belowR s (spL L 0).length).2.toNat (0, 0))])
  split
  ·exact h
  ·exact h.push hl (item_fit hg hn (spot_pick he s)) (by show ¬ (2 : Int) = 0; decide)
theorem timeX_ok {x : Wd} (h : FineX x) (ht : 0 ≤ x.tick ∧ x.tick < 100000) : worldB (timeX x) = true := by
 obtain ⟨h1, h2, h3, h4⟩ := h
 have hn := nextR_bd x.seed
 have key : ∀ y : Wd, y.rows = x.rows → y.tick = x.tick + 1 → (0 ≤ y.seed ∧ y.seed ≤ 65535) → y.scores = x.scores → Fine x.rows x.scores.length y.bods → worldB y = true := by
  rintro ⟨r, t, s, S, B⟩ e1 e2 e3 e4 e5
  simp only at e1 e2 e3 e4 e5
  subst e1 e2 e4
  exact wd_ok h1 ((inR_iff _ _ _).2 ⟨by show 0 ≤ x.tick + 1; omega, by show x.tick + 1 ≤ 100000; omega⟩) ((inR_iff _ _ _).2 e3) ((inR_iff _ _ _).2 ⟨by show (1 : Int) ≤ (x.scores.length : Int); omega, by show (x.scores.length : Int) ≤ 4; omega⟩) ((inR_iff _ _ _).2 ⟨by have := e5.1; show (x.scores.length : Int) ≤ (B.length : Int); omega, by have := e5.2.1; show (B.length : Int) ≤ 24; omega⟩) (allW_iff.2 h3.2) (fine_bods e5)
 unfold timeX
 by_cases hc : (x.tick + 1) % 16 = 0 ∧ x.bods.length < 24
 ·rw [if_pos hc]
  obtain ⟨g1, g2⟩ := bring_fine (levelB_facts h1) h2.1 h4 hc.2 hn
  exact key _ rfl rfl g2 rfl g1
 ·rw [if_neg hc]
  exact key _ rfl rfl hn rfl h4
theorem stepOk_facts {x : Wd} {row : List Int} (h : stepOk x row = true) : worldB x = true ∧ ¬ x.tick = 100000 ∧ rokB (x.scores.length : Int) row = true := by
 unfold stepOk at h
 simpa [Bool.and_eq_true] using h
theorem stepV_ok {x : Wd} {row : List Int} (h : worldB x = true) (ht : ¬ x.tick = 100000) : worldB (stepV x row) = true := by
 have h0 := fineX_of h
 obtain ⟨-, h2, -⟩ := wd_facts h
 rw [inR_iff] at h2
 have hm1 := (meetX_fine (moveXW_fine (steerX_fine h0 row)) 1)
 have hm2 := (meetX_fine hm1.1 2)
 exact timeX_ok hm2.1 ⟨by show 0 ≤ x.tick; omega, by show x.tick < 100000; omega⟩
theorem stepW_ok {x : Wd} {row : List Int} (h : worldB x = true) : worldB (stepW x row) = true := by
 unfold stepW
 split
 ·rename_i hc
  obtain ⟨-, h2, -⟩ := stepOk_facts hc
  exact stepV_ok h h2
 ·exact h
theorem stepW_rows (x : Wd) (row : List Int) : (stepW x row).rows = x.rows := by
 unfold stepW
 split
 ·unfold stepV timeX
  split <;> rfl
 ·rfl
end Go.Proofs.YtnlonkkbjkfkmaaGreatDoor
