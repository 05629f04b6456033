/-
  Texts of this proof: WsP.
-/
import Derived.Test.YtnlonkkbjkfkmaaDoorM35
namespace Go.Proofs.YtnlonkkbjkfkmaaDoor
open Go.RowKit
set_option linter.all false
def stOne (L : Rowz) (i : Int) (b : Bd) : Bd := if b.life = 0 then waitB L b else strB L b i
theorem st1_at {L : Rowz} {i : Int} {k : Nat} {b : Bd} {bs : List Bd} (hk : k < bs.length) : (st1 L i k b bs)[k]? = some (stOne L i b) ∧ ∀ j, ¬ j = k → j < bs.length → (st1 L i k b bs)[j]? = bs[j]? := by
 unfold st1 stOne
 split
 ·exact ⟨by simp [hk], fun j hj hl => by rw [List.getElem?_set_ne (by omega)]⟩
 ·split
  ·exact ⟨by rw [List.getElem?_append_left (by simpa using hk)]; simp [hk], fun j hj hl => by rw [List.getElem?_append_left (by simpa using hl), List.getElem?_set_ne (by omega)]⟩
  ·exact ⟨by simp [hk], fun j hj hl => by rw [List.getElem?_set_ne (by omega)]⟩
theorem stN_at {L : Rowz} {row : List Int} {bs : List Bd} : ∀ k, k ≤ bs.length → bs.length ≤ (stN L row bs k).length ∧ ∀ j, j < bs.length → (stN L row bs k)[j]? = some (if j < k then stOne L (row.getD j 0) (bs.getD j b00) else bs.getD j b00)
 | 0, _ => ⟨Nat.le_refl _, fun j hj => by rw [stN, if_neg (by omega), List.getD_eq_getElem?_getD, List.getElem?_eq_getElem hj]; rfl⟩
 | k + 1, hk => by
  obtain ⟨h0, h1⟩ := stN_at (L := L) (row := row) (bs := bs) k (by omega)
  rw [stN]
  obtain ⟨g1, g2⟩ := st1_at (L := L) (i := row.getD k 0) (b := bs.getD k b00) (show k < (stN L row bs k).length by omega)
  refine ⟨?_, fun j hj => ?_⟩
  ·unfold st1
   split
   ·simpa using h0
   ·split <;> simp <;> omega
  ·by_cases e : j = k
   ·subst e; rw [g1, if_pos (by omega)]
   ·rw [g2 j e (by omega), h1 j hj]
    by_cases hlt : j < k
    ·rw [if_pos hlt, if_pos (by omega)]
    ·rw [if_neg hlt, if_neg (by omega)]
def HitR (p p' : Bd) : Prop := (p'.life = p.life ∧ p'.timer = p.timer) ∨ (0 < p.life ∧ ((0 < p'.life ∧ p'.timer = p.timer) ∨ (p'.life = 0 ∧ p'.timer = 20)))
theorem HitR.trans {a b c : Bd} (h : HitR a b) (g : HitR b c) : HitR a c := by
 unfold HitR at *
 omega
theorem HitR.rfl {a : Bd} : HitR a a := .inl ⟨Eq.refl _, Eq.refl _⟩
theorem hurt_r {p : Bd} (h : 0 < p.life) : HitR p (hurtB p) := by
 refine .inr ⟨h, ?_⟩
 unfold hurtB
 by_cases e : p.life - 1 = 0
 ·rw [if_pos e]; exact .inr ⟨Eq.refl _, Eq.refl _⟩
 ·rw [if_neg e]; exact .inl ⟨by show 0 < p.life - 1; omega, Eq.refl _⟩
def PtR (q q' : PtS) : Prop := (∀ k, HitR (q.1.getD k b00) (q'.1.getD k b00)) ∧ ∀ k, q.2.getD k 0 ≤ q'.2.getD k 0
theorem awd_up {n : Nat} {S : List Int} (h : ScB n S) (v k : Nat) : S.getD k 0 ≤ (awd S v).getD k 0 := by
 unfold awd
 rw [List.getD_eq_getElem?_getD, List.getD_eq_getElem?_getD (l := S.set _ _)]
 by_cases e : v = k
 ·subst e
  by_cases hv : v < S.length
  ·have := h.2 v hv
   rw [List.getElem?_set_self hv, List.getElem?_eq_getElem hv, List.getD_eq_getElem?_getD, List.getElem?_eq_getElem hv]
   simp only [Option.getD_some]; omega
  ·rw [List.getElem?_eq_none (by omega), List.getElem?_eq_none (by simp; omega)]
   exact Int.le_refl _
 ·rw [List.getElem?_set_ne e]
  exact Int.le_refl _
theorem act_r {L : Rowz} {n : Nat} {kind : Int} {b : Bd} {q q' : PtS} (h : PtOk L n q) (he : act1 kind b q = some q') : PtR q q' := by
 unfold act1 at he
 split at he
 ·split at he
  ·obtain ⟨v, hv, rfl⟩ := Option.map_eq_some_iff.1 he
   obtain ⟨-, h1, h2, h3⟩ := metF_in q.1 0 v hv
   simp only [Nat.sub_zero] at h1 h2
   refine ⟨fun k => ?_, fun k => ?_⟩
   ·show HitR (q.1.getD k b00) ((q.1.set v (hurtB (q.1.getD v b00))).getD k b00)
    rw [List.getD_eq_getElem?_getD (l := q.1.set _ _)]
    by_cases e : v = k
    ·subst e
     rw [List.getElem?_set_self h1]
     have e2 : q.1.getD v b00 = q.1[v] := by rw [List.getD_eq_getElem?_getD, List.getElem?_eq_getElem h1]; rfl
     rw [e2]
     exact hurt_r h2
    ·rw [List.getElem?_set_ne e, ← List.getD_eq_getElem?_getD]
     exact HitR.rfl
   ·show q.2.getD k 0 ≤ (if (q.1.getD v b00).life - 1 = 0 then awd q.2 b.owner.toNat else q.2).getD k 0
    split
    ·exact awd_up h.2 _ _
    ·exact Int.le_refl _
  ·obtain ⟨v, hv, rfl⟩ := Option.map_eq_some_iff.1 he
   exact ⟨fun k => HitR.rfl, fun k => awd_up h.2 _ _⟩
 ·cases he
theorem pass_r {L : Rowz} {n : Nat} {kind : Int} : ∀ (O : List Bd) (q : PtS), PtOk L n q → PtR q (pass kind O q).1
 | [], q, _ => ⟨fun _ => HitR.rfl, fun _ => Int.le_refl _⟩
 | b :: l, q, h => by
  rw [pass]
  cases e : act1 kind b q with
  | none => exact pass_r l q h
  | some q' =>
   have h1 := act_r h e
   have h2 := pass_r (kind := kind) l q' (act_ok h e)
   exact ⟨fun k => (h1.1 k).trans (h2.1 k), fun k => Int.le_trans (h1.2 k) (h2.2 k)⟩
theorem meet_r {x : Wd} (h : FineX x) (kind : Int) : ∀ k, k < x.scores.length → HitR (x.bods.getD k b00) ((meetX kind x).bods.getD k b00) ∧ x.scores.getD k 0 ≤ (meetX kind x).scores.getD k 0 := by
 intro k hk
 obtain ⟨hP, hO⟩ := fine_part h.2.2.2
 have hq : PtOk x.rows x.scores.length (x.bods.take x.scores.length, x.scores) := ⟨hP, h.2.2.1⟩
 have h1 := pass_r (kind := kind) (x.bods.drop x.scores.length) _ hq
 have h2 := (pass_ok (kind := kind) (x.bods.drop x.scores.length) _ hq).1.1.1
 have e1 : (x.bods.take x.scores.length).getD k b00 = x.bods.getD k b00 := by
  rw [List.getD_eq_getElem?_getD, List.getD_eq_getElem?_getD, List.getElem?_take, if_pos hk]
 refine ⟨?_, h1.2 k⟩
 have e2 : (meetX kind x).bods.getD k b00 = (pass kind (x.bods.drop x.scores.length) (x.bods.take x.scores.length, x.scores)).1.1.getD k b00 := by
  show ((pass kind (x.bods.drop x.scores.length) (x.bods.take x.scores.length, x.scores)).1.1 ++ (pass kind (x.bods.drop x.scores.length) (x.bods.take x.scores.length, x.scores)).2).getD k b00 = _
  rw [List.getD_eq_getElem?_getD, List.getElem?_append_left (by omega), ← List.getD_eq_getElem?_getD]
 rw [e2, ← e1]
 exact h1.1 k
def TickR (b c : Bd) : Prop := ∃ m : Bd, HitR m c ∧ ((b.life = 0 ∧ ((b.timer = 1 ∧ m.life = 3 ∧ m.timer = 0) ∨ (m.life = 0 ∧ m.timer = b.timer - 1))) ∨ (¬ b.life = 0 ∧ m.life = b.life ∧ ((m.timer = 12 ∧ b.timer ≤ 1) ∨ m.timer = (if 0 < b.timer then b.timer - 1 else b.timer))))
theorem one_r {L : Rowz} {i : Int} {b : Bd} : (b.life = 0 ∧ ((b.timer = 1 ∧ (stOne L i b).life = 3 ∧ (stOne L i b).timer = 0) ∨ ((stOne L i b).life = 0 ∧ (stOne L i b).timer = b.timer - 1))) ∨ (¬ b.life = 0 ∧ (stOne L i b).life = b.life ∧ (((stOne L i b).timer = 12 ∧ b.timer ≤ 1) ∨ (stOne L i b).timer = (if 0 < b.timer then b.timer - 1 else b.timer))) := by
 unfold stOne
 by_cases h : b.life = 0
 ·rw [if_pos h]
  refine .inl ⟨h, ?_⟩
  unfold waitB
  by_cases h1 : b.timer - 1 = 0
  ·rw [if_pos h1]; exact .inl ⟨by omega, Eq.refl _, Eq.refl _⟩
  ·rw [if_neg h1]; exact .inr ⟨h, Eq.refl _⟩
 ·rw [if_neg h]
  refine .inr ⟨h, Eq.refl _, ?_⟩
  show ((if strT b i = true then 12 else tm1 b) = 12 ∧ b.timer ≤ 1) ∨ (if strT b i = true then 12 else tm1 b) = (if 0 < b.timer then b.timer - 1 else b.timer)
  by_cases h1 : strT b i = true
  ·rw [if_pos h1]
   refine .inl ⟨Eq.refl _, ?_⟩
   unfold strT tm1 at h1
   simp only [Bool.and_eq_true, decide_eq_true_eq] at h1
   have h2 := h1.2
   split at h2 <;> omega
  ·rw [if_neg h1]; exact .inr (Eq.refl _)
theorem mv_at {L : Rowz} : ∀ (bs : List Bd) (n k : Nat), k < n → n ≤ bs.length → (∀ j (h : j < bs.length), j < n → bs[j].kind = 0) → ((mvL L bs).getD k b00).life = (bs.getD k b00).life ∧ ((mvL L bs).getD k b00).timer = (bs.getD k b00).timer
 | [], n, k, h1, h2, _ => by simp at h2; omega
 | b :: l, n, k, h1, h2, h3 => by
  have e : mvB L b = some (if 0 < b.life then moveB L b else b) := mvB_player (h3 0 (by simp) (by omega))
  unfold mvL
  rw [List.filterMap_cons, e]
  dsimp only
  cases k with
  | zero =>
   simp only [List.getD_cons_zero]
   split <;> exact ⟨Eq.refl _, Eq.refl _⟩
  | succ k =>
   simp only [List.getD_cons_succ]
   exact mv_at l (n - 1) k (by omega) (by simp at h2; omega) (fun j hj hn => h3 (j + 1) (by simp; omega) (by omega))
theorem time_at (x : Wd) (k : Nat) (hk : k < x.bods.length) : (timeX x).bods.getD k b00 = x.bods.getD k b00 ∧ (timeX x).scores = x.scores ∧ (timeX x).tick = x.tick + 1 := by
 unfold timeX
 split
 ·refine ⟨?_, Eq.refl _, Eq.refl _⟩
  unfold bring
  dsimp only
  split
  ·exact Eq.refl _
  ·dsimp only
   split
   ·exact Eq.refl _
   ·rw [List.getD_eq_getElem?_getD, List.getElem?_append_left hk, ← List.getD_eq_getElem?_getD]
 ·exact ⟨Eq.refl _, Eq.refl _, Eq.refl _⟩
theorem tick_all {x : Wd} {row : List Int} (h : worldB x = true) (ht : ¬ x.tick = 100000) (hr : rokB (x.scores.length : Int) row = true) :
  worldB (stepW x row) = true ∧ (stepW x row).tick = x.tick + 1 ∧ (stepW x row).scores.length = x.scores.length ∧ ∀ k, k < x.scores.length → x.scores.getD k 0 ≤ (stepW x row).scores.getD k 0 ∧ TickR (x.bods.getD k b00) ((stepW x row).bods.getD k b00) := by
 have hok : stepOk x row = true := by unfold stepOk; rw [h, hr, decide_eq_true ht]; rfl
 have e : stepW x row = stepV x row := by unfold stepW; rw [if_pos hok]
 refine ⟨stepW_ok h, ?_⟩
 rw [e]
 have f0 := fineX_of h
 have f1 := steerX_fine f0 row
 have f2 := moveXW_fine f1
 have m1 := meetX_fine f2 1
 have m2 := meetX_fine m1.1 2
 have l1 : (meetX 1 (moveXW (steerX x row))).scores.length = x.scores.length := m1.2
 have l2 : (meetX 2 (meetX 1 (moveXW (steerX x row)))).scores.length = x.scores.length := m2.2.trans l1
 have hb2 := m2.1.2.2.2.1
 have hpos : 0 < (meetX 2 (meetX 1 (moveXW (steerX x row)))).bods.length := by have := f0.2.1; omega
 have ta := time_at (meetX 2 (meetX 1 (moveXW (steerX x row)))) 0 hpos
 unfold stepV
 refine ⟨ta.2.2.trans (Eq.refl _), by rw [ta.2.1]; exact l2, fun k hk => ?_⟩
 have hr1 := meet_r f2 1 k hk
 have hr2 := meet_r m1.1 2 k (by rw [l1]; exact hk)
 have tk := time_at (meetX 2 (meetX 1 (moveXW (steerX x row)))) k (by omega)
 rw [ta.2.1, tk.1]
 refine ⟨Int.le_trans hr1.2 hr2.2, ?_⟩
 have hn := f0.2.2.2.1
 obtain ⟨g0, g1⟩ := stN_at (L := x.rows) (row := row) (bs := x.bods) x.scores.length hn
 have gk := g1 k (by omega)
 rw [if_pos hk] at gk
 have f1b := f1.2.2.2
 have mv := mv_at (L := x.rows) (steerX x row).bods x.scores.length k hk f1b.1 (fun j hj hn => (f1b.2.2 j hj).2.1.2 hn)
 have es : (steerX x row).bods.getD k b00 = stOne x.rows (row.getD k 0) (x.bods.getD k b00) := by
  show (stN x.rows row x.bods x.scores.length).getD k b00 = _
  rw [List.getD_eq_getElem?_getD, gk]; rfl
 rw [es] at mv
 refine ⟨(moveXW (steerX x row)).bods.getD k b00, hr1.1.trans hr2.1, ?_⟩
 rw [show ((moveXW (steerX x row)).bods.getD k b00).life = (stOne x.rows (row.getD k 0) (x.bods.getD k b00)).life from mv.1, show ((moveXW (steerX x row)).bods.getD k b00).timer = (stOne x.rows (row.getD k 0) (x.bods.getD k b00)).timer from mv.2]
 exact one_r
def Since (b : Bd) (e : Int) : Prop := if b.life = 0 then 20 ≤ b.timer + e else 12 ≤ b.timer + e
theorem since_next {b c : Bd} {e : Int} (h : TickR b c) (he : 0 ≤ e) (hs : Since b e) : Since c (e + 1) := by
 obtain ⟨m, h1, h2⟩ := h
 unfold Since at *
 unfold HitR at h1
 split at hs <;> split <;> omega
theorem since_fired {c : Bd} (h : c.timer = 12) (hl : ¬ c.life = 0) : Since c 0 := by
 unfold Since; rw [if_neg hl]; omega
theorem fire_gap {b c : Bd} {e : Int} (h : TickR b c) (hs : Since b e) (h1 : c.timer = 12) (h2 : 0 < c.life) (h3 : 0 < b.life) (h4 : b.timer ≤ 12) : 12 ≤ e + 1 := by
 obtain ⟨m, g1, g2⟩ := h
 unfold Since at hs
 unfold HitR at g1
 rw [if_neg (by omega)] at hs
 rcases g2 with g2 | g2
 ·omega
 ·obtain ⟨k1, k2, k3⟩ := g2
  rcases k3 with k3 | k3
  ·omega
  ·split at k3 <;> omega
end Go.Proofs.YtnlonkkbjkfkmaaDoor
