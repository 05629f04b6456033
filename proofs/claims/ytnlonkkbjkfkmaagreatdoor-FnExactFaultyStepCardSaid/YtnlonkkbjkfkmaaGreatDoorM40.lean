/-
  Texts of this proof: TkSP.
-/
import Derived.Test.YtnlonkkbjkfkmaaGreatDoorM32
namespace Go.Proofs.YtnlonkkbjkfkmaaGreatDoor
open Go.RowKit
set_option linter.all false
def gon (kind : Int) : List Bd → PtS → PtS × List Bool
 | [], q => (q, [])
 | b :: l, q => match act1 kind b q with
  | some q' => ((gon kind l q').1, true :: (gon kind l q').2)
  | none => ((gon kind l q).1, false :: (gon kind l q).2)
def filt : List Bd → List Bool → List Bd
 | b :: l, f :: fs => if f then filt l fs else b :: filt l fs
 | _, _ => []
def orL (F G : List Bool) : List Bool := List.zipWith (· || ·) F G
theorem gon_none {kind : Int} {b : Bd} {l : List Bd} {q : PtS} (h : act1 kind b q = none) : gon kind (b :: l) q = ((gon kind l q).1, false :: (gon kind l q).2) := by rw [gon, h]
theorem gon_some {kind : Int} {b : Bd} {l : List Bd} {q q' : PtS} (h : act1 kind b q = some q') : gon kind (b :: l) q = ((gon kind l q').1, true :: (gon kind l q').2) := by rw [gon, h]
theorem gon_len {kind : Int} : ∀ (O : List Bd) (q : PtS), (gon kind O q).2.length = O.length
 | [], _ => rfl
 | b :: l, q => by
  cases h : act1 kind b q with
  | some q' => rw [gon_some h]; simp [gon_len l q']
  | none => rw [gon_none h]; simp [gon_len l q]
theorem pass_gon {kind : Int} : ∀ (O : List Bd) (q : PtS), pass kind O q = ((gon kind O q).1, filt O (gon kind O q).2)
 | [], _ => rfl
 | b :: l, q => by
  cases h : act1 kind b q with
  | some q' => rw [gon_some h, pass_some h, pass_gon l q']; simp [filt]
  | none => rw [gon_none h, pass_none h, pass_gon l q]; simp [filt]
theorem gon_kind {kind : Int} : ∀ (O : List Bd) (q : PtS) (i : Nat) (h : i < O.length), ((gon kind O q).2)[i]? = some true → O[i].kind = kind
 | [], _, _, h, _ => by simp at h
 | b :: l, q, i, hi, he => by
  cases h : act1 kind b q with
  | some q' =>
   rw [gon_some h] at he
   match i, hi with
   | 0, _ =>
    show b.kind = kind
    unfold act1 at h
    split at h
    ·assumption
    ·cases h
   | i + 1, hi => exact gon_kind l q' i (by simpa using hi) (by simpa using he)
  | none =>
   rw [gon_none h] at he
   match i, hi with
   | 0, _ => simp at he
   | i + 1, hi => exact gon_kind l q i (by simpa using hi) (by simpa using he)
theorem gon_filt : ∀ (O : List Bd) (fl : List Bool) (q : PtS), fl.length = O.length → (∀ i (h : i < O.length), fl[i]? = some true → ¬ O[i].kind = 2) →
  (gon 2 (filt O fl) q).1 = (gon 2 O q).1 ∧ filt (filt O fl) (gon 2 (filt O fl) q).2 = filt O (orL fl (gon 2 O q).2)
 | [], [], _, _, _ => ⟨rfl, rfl⟩
 | [], _ :: _, _, h, _ => by simp at h
 | _ :: _, [], _, h, _ => by simp at h
 | b :: l, f :: fs, q, hl, hk => by
  have hl' : fs.length = l.length := by simpa using hl
  have hk' : ∀ i (h : i < l.length), fs[i]? = some true → ¬ l[i].kind = 2 := fun i h e => hk (i + 1) (by simp; omega) (by simpa using e)
  cases f with
  | true =>
   have hb : ¬ b.kind = 2 := hk 0 (by simp) (by simp)
   have ha := act_off (q := q) hb
   obtain ⟨i1, i2⟩ := gon_filt l fs q hl' hk'
   rw [gon_none ha]
   simp only [filt, if_true, orL, List.zipWith_cons_cons, Bool.true_or]
   exact ⟨i1, i2⟩
  | false =>
   have ef : filt (b :: l) (false :: fs) = b :: filt l fs := by simp [filt]
   rw [ef]
   cases ha : act1 2 b q with
   | some q' =>
    obtain ⟨i1, i2⟩ := gon_filt l fs q' hl' hk'
    rw [gon_some ha, gon_some ha]
    simp only [filt, if_true, orL, List.zipWith_cons_cons, Bool.false_or]
    exact ⟨i1, i2⟩
   | none =>
    obtain ⟨i1, i2⟩ := gon_filt l fs q hl' hk'
    rw [gon_none ha, gon_none ha]
    simp only [filt, orL, List.zipWith_cons_cons, Bool.false_or, Bool.false_eq_true, if_false]
    refine ⟨i1, ?_⟩
    rw [i2]; rfl
def hitsQ (x : Wd) : PtS × List Bool := gon 1 (x.bods.drop x.scores.length) (x.bods.take x.scores.length, x.scores)
def takesQ (x : Wd) : PtS × List Bool := gon 2 (x.bods.drop x.scores.length) (hitsQ x).1
theorem meets_eq {x : Wd} (h : FineX x) : meetX 2 (meetX 1 x) = ⟨x.rows, x.tick, x.seed, (takesQ x).1.2, (takesQ x).1.1 ++ filt (x.bods.drop x.scores.length) (orL (hitsQ x).2 (takesQ x).2)⟩ := by
 obtain ⟨hL, hn, hS, hF⟩ := h
 obtain ⟨hP, hO⟩ := fine_part hF
 obtain ⟨⟨g1, g2⟩, -⟩ := pass_ok (kind := 1) (x.bods.drop x.scores.length) (x.bods.take x.scores.length, x.scores) ⟨hP, hS⟩
 obtain ⟨n, hnn⟩ : ∃ n, n = x.scores.length := ⟨_, rfl⟩
 have e1 : meetX 1 x = ⟨x.rows, x.tick, x.seed, (hitsQ x).1.2, (hitsQ x).1.1 ++ filt (x.bods.drop x.scores.length) (hitsQ x).2⟩ := by
  unfold meetX hitsQ
  rw [pass_gon]
 rw [pass_gon] at g1 g2
 have g1' : (hitsQ x).1.1.length = x.scores.length := g1.1
 have g2' : (hitsQ x).1.2.length = x.scores.length := g2.1
 obtain ⟨i1, i2⟩ := gon_filt (x.bods.drop x.scores.length) (hitsQ x).2 (hitsQ x).1 (gon_len _ _) (fun i hi e => by
  have := gon_kind (x.bods.drop x.scores.length) (x.bods.take x.scores.length, x.scores) i hi e
  rw [this]; decide)
 rw [e1]
 unfold meetX
 dsimp only
 rw [g2', List.drop_append, List.take_append, g1', Nat.sub_self, List.drop_of_length_le (by omega), List.take_of_length_le (l := (hitsQ x).1.1) (by omega), pass_gon]
 simp only [List.nil_append, List.drop_zero, List.take_zero, List.append_nil]
 rw [i1, i2]
 rfl
def boolC (l : List Bool) : Array Value := (l.map Value.bool).toArray
theorem boolC_set (A B : List Bool) (f c : Bool) (k : Nat) (hk : A.length = k) : (boolC (A ++ f :: B)).setIfInBounds k (.bool c) = boolC (A ++ c :: B) := by
 unfold boolC
 subst hk
 apply Array.ext'
 simp [List.set_append]
theorem boolC_at (A B : List Bool) (f : Bool) (k : Nat) (hk : A.length = k) : (boolC (A ++ f :: B))[k]? = some (.bool f) := by
 unfold boolC
 subst hk
 simp
theorem boolC_zero (n : Nat) : madeCells #[Value.bool false] n = boolC (List.replicate n false) := by
 unfold boolC madeCells
 apply Array.ext'
 simp [Nat.mod_one]
 apply List.ext_getElem?
 intro i
 by_cases h : i < n
 ·simp [h]
 ·simp [h]
theorem filt_snoc : ∀ (O : List Bd) (F : List Bool) (k : Nat) (hk : k < O.length) (hf : k < F.length), filt (O.take (k + 1)) (F.take (k + 1)) = filt (O.take k) (F.take k) ++ (if F[k] then [] else [O[k]])
 | [], _, _, hk, _ => by simp at hk
 | _ :: _, [], _, _, hf => by simp at hf
 | b :: l, f :: fs, 0, _, _ => by cases f <;> simp [filt]
 | b :: l, f :: fs, k + 1, hk, hf => by
  have := filt_snoc l fs k (by simpa using hk) (by simpa using hf)
  cases f with
  | true => simp only [List.take_succ_cons, filt, if_true, List.getElem_cons_succ]; exact this
  | false =>
   simp only [List.take_succ_cons, filt, Bool.false_eq_true, if_false, List.getElem_cons_succ, List.cons_append]
   rw [this]
def FrZ (T p : Nat) (vs vb : Value) (z : Nat) (w w' : World) : Prop := Below T w w' ∧ ∀ j, j < w.heap.size → j ≠ p → vs.ownBlock ≠ some j → vb.ownBlock ≠ some j → j ≠ z → w'.heap[j]? = w.heap[j]?
theorem FrZ.refl (T p : Nat) (vs vb : Value) (z : Nat) (w : World) : FrZ T p vs vb z w w := ⟨Below.refl _ _, fun _ _ _ _ _ _ => rfl⟩
theorem FrZ.fr {T p z : Nat} {vs vb : Value} {w w1 w2 : World} (h : FrZ T p vs vb z w w1) (h2 : FrW T p vs vb w1 w2) : FrZ T p vs vb z w w2 :=
 ⟨h.1.trans h2.1, fun j hj a b c d => by rw [h2.2 j (by have := h.1.size; omega) a b c]; exact h.2 j hj a b c d⟩
theorem FrZ.put {T p z : Nat} {vs vb : Value} {w w1 : World} (h : FrZ T p vs vb z w w1) (hz : T ≤ z) (k : Nat) (u : Value) : FrZ T p vs vb z w (w1.setCell ⟨z, k, none⟩ u) :=
 ⟨h.1.setCell (p := ⟨z, k, none⟩) hz u, fun j hj a b c d => by rw [Below.heap_setCell _ _ _ j (by show j ≠ z; exact d)]; exact h.2 j hj a b c d⟩
theorem FrZ.frW {T p z : Nat} {vs vb : Value} {w w1 w2 : World} (h : FrW T p vs vb w w1) (h2 : FrZ T p vs vb z w1 w2) (hz : w.heap.size ≤ z) : FrW T p vs vb w w2 :=
 ⟨h.1.trans h2.1, fun j hj a b c => by rw [h2.2 j (by have := h.1.size; omega) a b c (by omega)]; exact h.2 j hj a b c⟩
theorem BxW.aside {w : World} {T p : Nat} {x : Wd} {vl vs vb : Value} (h : BxW w T p x vl vs vb) {c : Nat} (hc : T ≤ c) (hp : c ≠ p) (h1 : vs.ownBlock ≠ some c) (h2 : vb.ownBlock ≠ some c) (k : Nat) (u : Value) : BxW (w.setCell ⟨c, k, none⟩ u) T p x vl vs vb := by
 obtain ⟨a1, a2, a3, a4, a5⟩ := h
 exact ⟨farHeap a1 (by show p ≠ c; exact fun e => hp e.symm) u, a2, lvKeep a3 ((Below.refl _ _).setCell (p := ⟨c, k, none⟩) hc u), a4.aside (p := ⟨c, k, none⟩) h1 u, a5.aside (p := ⟨c, k, none⟩) h2 u⟩
end Go.Proofs.YtnlonkkbjkfkmaaGreatDoor
