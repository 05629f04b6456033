/-
  Texts of this proof: IdP.
-/
import Derived.Test.YtnlonkkbjkfkmaaDoorM35
import Derived.Test.YtnlonkkbjkfkmaaDoorM32
namespace Go.Proofs.YtnlonkkbjkfkmaaDoor
open Go.RowKit
set_option linter.all false
def fallB (L : Rowz) (b : Bd) : Bd := moveB L (strB L b 0)
def fallN (L : Rowz) : Nat → Bd → Bd
 | 0, b => b
 | t + 1, b => fallN L t (fallB L b)
theorem fallN_next (L : Rowz) : ∀ (t : Nat) (b : Bd), fallB L (fallN L t b) = fallN L (t + 1) b
 | 0, _ => rfl
 | t + 1, b => by rw [fallN, fallN_next L t (fallB L b)]; rfl
theorem idle_t (b : Bd) : strT b 0 = false := by
 unfold strT; rw [show bits .and .i64 0 8 = 0 from by decide]; rfl
theorem fall_facts (L : Rowz) (t : Nat) (b : Bd) : (fallN L t b).kind = b.kind ∧ (fallN L t b).life = b.life := by
 induction t generalizing b with
 | zero => exact ⟨rfl, rfl⟩
 | succ t ih => exact ih (fallB L b)
theorem st_idle {L : Rowz} {P O : List Bd} (hP : ∀ b ∈ P, ¬ b.life = 0) (row : List Int) (hr : ∀ k, row.getD k 0 = 0) : ∀ k, k ≤ P.length → stN L row (P ++ O) k = (P.take k).map (fun b => strB L b 0) ++ (P.drop k ++ O)
 | 0, _ => by simp [stN]
 | k + 1, hk => by
  have hk' : k < P.length := by omega
  rw [stN, st_idle hP row hr k (by omega), hr k]
  have e1 : (P ++ O).getD k b00 = P[k] := by rw [List.getD_eq_getElem?_getD, List.getElem?_append_left hk', List.getElem?_eq_getElem hk']; rfl
  rw [e1]
  unfold st1
  rw [if_neg (hP _ (List.getElem_mem hk')), idle_t, if_neg (by simp)]
  have hl : ((P.take k).map (fun b => strB L b 0)).length = k := by simp; omega
  rw [List.set_append, if_neg (by omega), hl, Nat.sub_self, List.drop_eq_getElem_cons hk', List.cons_append, List.set_cons_zero, List.take_succ, List.getElem?_eq_getElem hk', List.map_append]
  simp
theorem fm_some {f : Bd → Option Bd} {g : Bd → Bd} : ∀ l : List Bd, (∀ b ∈ l, f b = some (g b)) → l.filterMap f = l.map g
 | [], _ => rfl
 | b :: l, h => by rw [List.filterMap_cons, h b (by simp), List.map_cons, fm_some l (fun c hc => h c (by simp [hc]))]
theorem mv_idle {L : Rowz} {P O : List Bd} (hP : ∀ b ∈ P, b.kind = 0 ∧ 0 < b.life) (hO : ∀ b ∈ O, b.kind = 2) : mvL L (P ++ O) = P.map (moveB L) ++ O := by
 unfold mvL
 rw [List.filterMap_append, fm_some (g := moveB L) P (fun b hb => by obtain ⟨h1, h2⟩ := hP b hb; rw [mvB_player h1, if_pos h2]), fm_some (g := id) O (fun b hb => by unfold mvB; rw [hO b hb, if_neg (by decide), if_neg (by decide)]; rfl), List.map_id]
theorem pass_other {kind : Int} : ∀ (O : List Bd) (q : PtS), (∀ b ∈ O, ¬ b.kind = kind) → pass kind O q = (q, O)
 | [], _, _ => rfl
 | b :: l, q, h => by
  rw [pass]
  have e : act1 kind b q = none := by unfold act1; rw [if_neg (h b (by simp))]
  rw [e]
  dsimp only
  rw [pass_other l q (fun c hc => h c (by simp [hc]))]
theorem pass_item : ∀ (O : List Bd) (q : PtS), (pass 2 O q).1.1 = q.1 ∧ ∀ b ∈ (pass 2 O q).2, b ∈ O
 | [], _ => ⟨rfl, fun _ h => h⟩
 | b :: l, q => by
  rw [pass]
  cases e : act1 2 b q with
  | none =>
   dsimp only
   obtain ⟨h1, h2⟩ := pass_item l q
   exact ⟨h1, fun c hc => by rcases List.mem_cons.1 hc with rfl | hc; simp; simp [h2 c hc]⟩
  | some q' =>
   dsimp only
   obtain ⟨h1, h2⟩ := pass_item l q'
   have e1 : q'.1 = q.1 := by
    unfold act1 at e
    split at e
    ·rw [if_neg (by decide)] at e
     obtain ⟨v, -, rfl⟩ := Option.map_eq_some_iff.1 e
     rfl
    ·cases e
   exact ⟨h1.trans e1, fun c hc => by simp [h2 c hc]⟩
theorem time_items (x : Wd) : (timeX x).rows = x.rows ∧ (timeX x).tick = x.tick + 1 ∧ (timeX x).scores = x.scores ∧ ∃ I, (timeX x).bods = x.bods ++ I ∧ ∀ b ∈ I, b.kind = 2 := by
 unfold timeX
 split
 ·refine ⟨rfl, rfl, rfl, ?_⟩
  unfold bring
  dsimp only
  split
  ·exact ⟨[], by simp, by simp⟩
  ·dsimp only
   split
   ·exact ⟨[], by simp, by simp⟩
   ·exact ⟨_, rfl, by simp [itemB]⟩
 ·exact ⟨rfl, rfl, rfl, [], by simp, by simp⟩
def Idl (L : Rowz) (n t : Nat) (x : Wd) : Prop := worldB x = true ∧ x.rows = L ∧ x.tick = (t : Int) ∧ x.scores.length = n ∧ ∃ O, x.bods = (frs L n).map (fallN L t) ++ O ∧ ∀ b ∈ O, b.kind = 2
theorem frs_mem {L : Rowz} {n : Nat} {b : Bd} (h : b ∈ frs L n) : b.kind = 0 ∧ b.life = 3 := by
 unfold frs at h
 obtain ⟨k, -, rfl⟩ := List.mem_map.1 h
 exact ⟨rfl, rfl⟩
theorem zeros_at (n k : Nat) : (List.replicate n (0 : Int)).getD k 0 = 0 := by
 rw [List.getD_eq_getElem?_getD]
 by_cases h : k < n
 ·rw [List.getElem?_eq_getElem (by simpa using h)]; simp
 ·rw [List.getElem?_eq_none (by simp; omega)]; rfl
theorem zeros_ok (n : Nat) : rokB (n : Int) (List.replicate n 0) = true := by
 rw [rokB_w (by simp)]
 exact allW_iff.2 fun k hk => by simp
theorem idl_next {L : Rowz} {n t : Nat} {x : Wd} (h : Idl L n t x) (ht : t < 100000) : Idl L n (t + 1) (stepW x (List.replicate n 0)) := by
 obtain ⟨h1, h2, h3, h4, O, h5, h6⟩ := h
 have hok : stepOk x (List.replicate n 0) = true := by
  unfold stepOk
  rw [h1, h4, zeros_ok, decide_eq_true (by omega)]; rfl
 have hw := stepW_ok (row := List.replicate n 0) h1
 refine ⟨hw, (stepW_rows _ _).trans h2, ?_⟩
 clear hw
 have e0 : stepW x (List.replicate n 0) = stepV x (List.replicate n 0) := by unfold stepW; rw [if_pos hok]
 rw [e0]
 unfold stepV
 have hlen : ((frs L n).map (fallN L t)).length = n := by simp [frs]
 have hP : ∀ b ∈ (frs L n).map (fallN L t), b.kind = 0 ∧ b.life = 3 := by
  intro b hb
  obtain ⟨c, hc, rfl⟩ := List.mem_map.1 hb
  obtain ⟨f1, f2⟩ := fall_facts L t c
  obtain ⟨g1, g2⟩ := frs_mem hc
  exact ⟨f1.trans g1, f2.trans g2⟩
 have s1 : steerX x (List.replicate n 0) = ⟨L, x.tick, x.seed, x.scores, ((frs L n).map (fallN L t)).map (fun b => strB L b 0) ++ O⟩ := by
  unfold steerX
  rw [h2, h4, h5, st_idle (fun b hb => by rw [(hP b hb).2]; decide) _ (zeros_at n) n (by omega), List.take_of_length_le (by omega), List.drop_of_length_le (by omega), List.nil_append]
 have e1 : (((frs L n).map (fallN L t)).map (fun b => strB L b 0)).map (moveB L) = (frs L n).map (fallN L (t + 1)) := by
  rw [List.map_map, List.map_map]
  refine List.map_congr_left fun b _ => ?_
  exact fallN_next L t b
 have s2 : moveXW (steerX x (List.replicate n 0)) = ⟨L, x.tick, x.seed, x.scores, (frs L n).map (fallN L (t + 1)) ++ O⟩ := by
  rw [s1]
  unfold moveXW
  dsimp only
  rw [mv_idle (fun b hb => by obtain ⟨c, hc, rfl⟩ := List.mem_map.1 hb; obtain ⟨g1, g2⟩ := hP c hc; exact ⟨g1, by show 0 < c.life; omega⟩) h6, e1]
 obtain ⟨Q, hQ⟩ : ∃ Q, Q = (frs L n).map (fallN L (t + 1)) := ⟨_, rfl⟩
 have hl2 : Q.length = n := by rw [hQ]; simp [frs]
 rw [← hQ] at s2 ⊢
 have s3 : meetX 1 (moveXW (steerX x (List.replicate n 0))) = ⟨L, x.tick, x.seed, x.scores, Q ++ O⟩ := by
  rw [s2]
  unfold meetX
  dsimp only
  rw [h4, ← hl2, List.take_left, List.drop_left, pass_other _ _ (fun b hb => by rw [h6 b hb]; decide)]
 rw [s3]
 have s4 : ∃ S O', S.length = n ∧ (∀ b ∈ O', b.kind = 2) ∧ meetX 2 ⟨L, x.tick, x.seed, x.scores, Q ++ O⟩ = ⟨L, x.tick, x.seed, S, Q ++ O'⟩ := by
  have hfx : (meetX 2 ⟨L, x.tick, x.seed, x.scores, Q ++ O⟩).scores.length = n := by
   rw [← s3]
   have f0 := fineX_of h1
   have m1 := meetX_fine (moveXW_fine (steerX_fine f0 (List.replicate n 0))) 1
   rw [(meetX_fine m1.1 2).2, m1.2]
   exact h4
  unfold meetX at hfx ⊢
  dsimp only at hfx ⊢
  rw [h4, ← hl2, List.take_left, List.drop_left] at hfx ⊢
  obtain ⟨p1, p2⟩ := pass_item O (Q, x.scores)
  exact ⟨_, _, hfx, fun b hb => h6 b (p2 b hb), by rw [p1]⟩
 obtain ⟨S, O', hS, hO', s5⟩ := s4
 rw [s5]
 obtain ⟨-, t2, t3, I, t4, t5⟩ := time_items ⟨L, x.tick, x.seed, S, Q ++ O'⟩
 refine ⟨by rw [t2]; show x.tick + 1 = ((t + 1 : Nat) : Int); omega, by rw [t3]; exact hS, O' ++ I, by rw [t4]; simp, fun b hb => ?_⟩
 rcases List.mem_append.1 hb with hb | hb
 ·exact hO' b hb
 ·exact t5 b hb
def plB (k x : Int) (p : Int × Int) : Bd := ⟨0, k, x, p.1, 0, p.2, 1, 3, 0⟩
def sameB (a b : Bd) : Bool := decide (a.kind = b.kind) && (decide (a.owner = b.owner) && (decide (a.x = b.x) && (decide (a.y = b.y) && (decide (a.vx = b.vx) && (decide (a.vy = b.vy) && (decide (a.aim = b.aim) && (decide (a.life = b.life) && decide (a.timer = b.timer))))))))
theorem sameB_eq {a b : Bd} (h : sameB a b = true) : a = b := by
 unfold sameB at h
 simp only [Bool.and_eq_true, decide_eq_true_eq] at h
 obtain ⟨h1, h2, h3, h4, h5, h6, h7, h8, h9⟩ := h
 cases a; cases b
 simp_all
def chn (L : Rowz) (k x : Int) : Int × Int → List (Int × Int) → Bool
 | p, [] => sameB (fallB L (plB k x p)) (plB k x p) && blockB L x (p.1 + 1) 12
 | p, q :: l => sameB (fallB L (plB k x p)) (plB k x q) && chn L k x q l
theorem fall_still {L : Rowz} {b : Bd} (h : fallB L b = b) : ∀ t, fallN L t b = b
 | 0 => rfl
 | t + 1 => by rw [fallN, h, fall_still h t]
theorem chn_all {L : Rowz} {k x : Int} : ∀ (l : List (Int × Int)) (p : Int × Int) (t : Nat), chn L k x p l = true → l.length ≤ t → ∃ q : Int × Int, fallN L t (plB k x p) = plB k x q ∧ blockB L x (q.1 + 1) 12 = true
 | [], p, t, h, _ => by
  unfold chn at h
  rw [Bool.and_eq_true] at h
  exact ⟨p, fall_still (sameB_eq h.1) t, h.2⟩
 | q :: l, p, t, h, ht => by
  unfold chn at h
  rw [Bool.and_eq_true] at h
  obtain ⟨t', rfl⟩ : ∃ t', t = t' + 1 := ⟨t - 1, by simp at ht; omega⟩
  rw [fallN, sameB_eq h.1]
  exact chn_all l q t' h.2 (by simp at ht; omega)
def fallT : List (Rowz × List (Int × List (Int × Int))) := [([[35, 35, 35, 35, 35, 35], [35, 49, 46, 111, 50, 35], [35, 46, 35, 35, 46, 35], [35, 111, 46, 46, 111, 35], [35, 35, 35, 35, 35, 35]], [(18, [(18, 0), (19, 1), (21, 2), (24, 3), (28, 4), (33, 5), (39, 6), (46, 7), (52, 0)]), (66, [(18, 0), (19, 1), (21, 2), (24, 3), (28, 4), (33, 5), (39, 6), (46, 7), (52, 0)]), (18, [(18, 0), (19, 1), (21, 2), (24, 3), (28, 4), (33, 5), (39, 6), (46, 7), (52, 0)]), (18, [(18, 0), (19, 1), (21, 2), (24, 3), (28, 4), (33, 5), (39, 6), (46, 7), (52, 0)])]),
 ([[35, 35, 35, 35, 35, 35, 35, 35, 35, 35], [35, 49, 46, 46, 111, 46, 46, 46, 50, 35], [35, 46, 46, 35, 35, 46, 35, 35, 46, 35], [35, 111, 46, 46, 51, 46, 46, 111, 52, 35], [35, 35, 35, 35, 35, 35, 35, 35, 35, 35]], [(18, [(18, 0), (19, 1), (21, 2), (24, 3), (28, 4), (33, 5), (39, 6), (46, 7), (52, 0)]), (130, [(18, 0), (19, 1), (21, 2), (24, 3), (28, 4), (33, 5), (39, 6), (46, 7), (52, 0)]), (66, [(50, 0), (51, 1), (52, 0)]), (130, [(50, 0), (51, 1), (52, 0)])]),
 ([[35, 35, 35, 35], [35, 46, 46, 35], [35, 35, 35, 35]], [(18, [(18, 0), (19, 1), (20, 0)]), (18, [(18, 0), (19, 1), (20, 0)]), (18, [(18, 0), (19, 1), (20, 0)]), (18, [(18, 0), (19, 1), (20, 0)])]),
 ([[35, 35, 35, 35, 35, 35, 35, 35], [35, 49, 46, 50, 46, 111, 111, 35], [35, 35, 35, 35, 35, 35, 35, 35]], [(18, [(18, 0), (19, 1), (20, 0)]), (50, [(18, 0), (19, 1), (20, 0)]), (18, [(18, 0), (19, 1), (20, 0)]), (18, [(18, 0), (19, 1), (20, 0)])]),
 ([[35, 35, 35, 35, 35, 35, 35], [35, 46, 46, 111, 46, 46, 35], [35, 46, 35, 35, 35, 46, 35], [35, 46, 49, 46, 50, 46, 35], [35, 35, 35, 35, 35, 35, 35]], [(34, [(50, 0), (51, 1), (52, 0)]), (66, [(50, 0), (51, 1), (52, 0)]), (18, [(18, 0), (19, 1), (21, 2), (24, 3), (28, 4), (33, 5), (39, 6), (46, 7), (52, 0)]), (18, [(18, 0), (19, 1), (21, 2), (24, 3), (28, 4), (33, 5), (39, 6), (46, 7), (52, 0)])])]
def fitsT (L : Rowz) : Nat → List (Int × List (Int × Int)) → Bool
 | _, [] => true
 | k, (x, p :: l) :: m => decide (l.length ≤ 40) && (sameB (freshB L k) (plB (k : Int) x p) && (chn L (k : Int) x p l && fitsT L (k + 1) m))
 | _, _ => false
theorem fitsT_at {L : Rowz} : ∀ (m : List (Int × List (Int × Int))) (k j : Nat), fitsT L k m = true → k ≤ j → j < k + m.length → ∃ y v : Int, fallN L 40 (freshB L j) = ⟨0, (j : Int), (freshB L j).x, y, 0, v, 1, 3, 0⟩ ∧ blockB L (freshB L j).x (y + 1) 12 = true
 | [], k, j, _, h1, h2 => by simp at h2; omega
 | (x, []) :: m, k, j, h, _, _ => by cases h
 | (x, p :: l) :: m, k, j, h, h1, h2 => by
  unfold fitsT at h
  simp only [Bool.and_eq_true, decide_eq_true_eq] at h
  obtain ⟨g1, g2, g3, g4⟩ := h
  by_cases e : j = k
  ·subst e
   obtain ⟨q, e1, e2⟩ := chn_all l p 40 g3 g1
   have e3 := sameB_eq g2
   have e4 : (freshB L j).x = x := by rw [e3]; rfl
   rw [e4, e3]
   exact ⟨q.1, q.2, e1, e2⟩
  ·exact fitsT_at m (k + 1) j g4 (by omega) (by simp at h2; omega)
set_option maxRecDepth 100000 in
theorem fallT_ok : fallT.all (fun r => decide (r.2.length = 4) && fitsT r.1 0 r.2) = true := by decide
set_option maxRecDepth 100000 in
theorem lv5_rows : lv5.map cutS = fallT.map (·.1) := by decide
theorem falls {L : Rowz} (h : Lv5 L) {k : Nat} (hk : k < 4) : ∃ y v : Int, fallN L 40 (freshB L k) = ⟨0, (k : Int), (freshB L k).x, y, 0, v, 1, 3, 0⟩ ∧ blockB L (freshB L k).x (y + 1) 12 = true := by
 obtain ⟨l, hl, rfl⟩ := h
 have hm : cutS l ∈ fallT.map (·.1) := by rw [← lv5_rows]; exact List.mem_map.2 ⟨l, hl, rfl⟩
 obtain ⟨r, hr, e⟩ := List.mem_map.1 hm
 have ha := List.all_eq_true.1 fallT_ok r hr
 rw [Bool.and_eq_true, decide_eq_true_eq] at ha
 rw [← e]
 exact fitsT_at r.2 0 k ha.2 (Nat.zero_le _) (by omega)
end Go.Proofs.YtnlonkkbjkfkmaaDoor
