/-
  Texts of this proof: TkW4.
-/
import Derived.Test.YtnlonkkbjkfkmaaGreatDoorM31
namespace Go.Proofs.YtnlonkkbjkfkmaaGreatDoor
open Go.RowKit
set_option linter.all false
def MtR (w : World) (T p : Nat) (x : Wd) (vl vs : Value) (g N cap n : Nat) (kind : Int) (k m : Nat) (wr : World) : Prop := ∃ (S : List Int) (K L : List Bd),
 (pass kind ((x.bods.drop n).drop k) (L.take n, S)).1 = (pass kind (x.bods.drop n) (x.bods.take n, x.scores)).1 ∧
 K ++ (pass kind ((x.bods.drop n).drop k) (L.take n, S)).2 = (pass kind (x.bods.drop n) (x.bods.take n, x.scores)).2 ∧
 K.length = m ∧ m ≤ k ∧ L.length = N ∧ (L.drop n).take m = K ∧ L.drop (n + k) = x.bods.drop (n + k) ∧ Fine x.rows n L ∧ ScB n S ∧
 BxW wr T p ⟨x.rows, x.tick, x.seed, S, L⟩ vl vs (.slice (some ⟨g, 0, none⟩) N cap) ∧ FrW T p vs (.slice (some ⟨g, 0, none⟩) N cap) w wr
theorem pass_none {kind : Int} {b : Bd} {l : List Bd} {q : PtS} (h : act1 kind b q = none) : pass kind (b :: l) q = ((pass kind l q).1, b :: (pass kind l q).2) := by rw [pass, h]
theorem pass_some {kind : Int} {b : Bd} {l : List Bd} {q q' : PtS} (h : act1 kind b q = some q') : pass kind (b :: l) q = pass kind l q' := by rw [pass, h]
theorem drop_next {X : List Bd} {n k : Nat} (hk : n + k < X.length) : (X.drop n).drop k = X[n + k] :: (X.drop n).drop (k + 1) := by
 rw [List.drop_drop, List.drop_drop, List.drop_eq_getElem_cons hk]
 rfl
section
variable {w : World} {T p : Nat} {x : Wd} {vl vs : Value} {g N cap n : Nat} {kind : Int} {k m : Nat} {wr w2 : World}
theorem mt_start (hF : Fine x.rows n x.bods) (hS : ScB n x.scores) (hN : N = x.bods.length) (h : BxW w T p x vl vs (.slice (some ⟨g, 0, none⟩) N cap)) : MtR w T p x vl vs g N cap n kind 0 0 w :=
 ⟨x.scores, [], x.bods, rfl, rfl, rfl, Nat.le_refl _, hN.symm, by simp, rfl, hF, hS, h, FrW.refl _ _ _ _ _⟩
theorem mt_keep {S : List Int} {K L : List Bd}
  (h : (pass kind ((x.bods.drop n).drop k) (L.take n, S)).1 = (pass kind (x.bods.drop n) (x.bods.take n, x.scores)).1 ∧
   K ++ (pass kind ((x.bods.drop n).drop k) (L.take n, S)).2 = (pass kind (x.bods.drop n) (x.bods.take n, x.scores)).2 ∧
   K.length = m ∧ m ≤ k ∧ L.length = N ∧ (L.drop n).take m = K ∧ L.drop (n + k) = x.bods.drop (n + k) ∧ Fine x.rows n L ∧ ScB n S ∧
   BxW wr T p ⟨x.rows, x.tick, x.seed, S, L⟩ vl vs (.slice (some ⟨g, 0, none⟩) N cap) ∧ FrW T p vs (.slice (some ⟨g, 0, none⟩) N cap) w wr)
  (hN : N = x.bods.length) (hk : n + k < x.bods.length) (hF0 : Fine x.rows n x.bods) (hb : act1 kind x.bods[n + k] (L.take n, S) = none)
  (hB : BxW w2 T p ⟨x.rows, x.tick, x.seed, S, L⟩ vl vs (.slice (some ⟨g, 0, none⟩) N cap)) (hFr : FrW T p vs (.slice (some ⟨g, 0, none⟩) N cap) wr w2) :
  MtR w T p x vl vs g N cap n kind (k + 1) (m + 1) (w2.setCells g ((n + m) * 9) (bdL x.bods[n + k])) := by
 obtain ⟨h1, h2, h3, h4, h5, h6, h7, h8, h9, h10, h11⟩ := h
 have hTg := (World.ownsRow.lt hB.2.2.2.2 g rfl).1
 have hml : n + m < L.length := by omega
 have hbs := belowSet hTg w2 (bdL x.bods[n + k]) ((n + m) * 9)
 have hf : ∀ j, j ≠ g → (w2.setCells g ((n + m) * 9) (bdL x.bods[n + k])).heap[j]? = w2.heap[j]? := fun j hj => heap_setCells g _ _ w2 j hj
 rw [drop_next hk, pass_none hb] at h1 h2
 dsimp only at h1 h2
 have et : (L.set (n + m) x.bods[n + k]).take n = L.take n := List.take_set_of_le (by omega)
 obtain ⟨f1, f2, f3⟩ := hF0.2.2 (n + k) hk
 refine ⟨S, K ++ [x.bods[n + k]], L.set (n + m) x.bods[n + k], ?_, ?_, by simp [h3], by omega, by rw [List.length_set]; exact h5, ?_, ?_, ?_, h9, ?_, ?_⟩
 ·rw [et]; exact h1
 ·rw [et, ← h2]; simp
 ·rw [List.drop_set, if_neg (by omega), show n + m - n = m by omega, List.take_succ_eq_append_getElem (by simp; omega), List.take_set_of_le (Nat.le_refl _), List.getElem_set_self, h6]
 ·rw [List.drop_set_of_lt (by omega)]
  have e1 := congrArg (List.drop 1) h7
  rw [List.drop_drop, List.drop_drop] at e1
  exact e1
 ·exact h8.set hml f1 ⟨fun hh => by have := f2.1 hh; omega, fun hh => by omega⟩ (fun hh => by omega)
 ·exact hB.bods (X := L.set (n + m) x.bods[n + k]) (by rw [List.length_set]) hbs (hB.2.2.2.2.put (show N = L.length by omega) hml _) hf
 ·exact (h11.trans hFr rfl (OwnTo.refl _ _)).trans (frB hbs hf) rfl (OwnTo.refl _ _)
theorem mt_act {S : List Int} {K L : List Bd} {q : PtS}
  (h : (pass kind ((x.bods.drop n).drop k) (L.take n, S)).1 = (pass kind (x.bods.drop n) (x.bods.take n, x.scores)).1 ∧
   K ++ (pass kind ((x.bods.drop n).drop k) (L.take n, S)).2 = (pass kind (x.bods.drop n) (x.bods.take n, x.scores)).2 ∧
   K.length = m ∧ m ≤ k ∧ L.length = N ∧ (L.drop n).take m = K ∧ L.drop (n + k) = x.bods.drop (n + k) ∧ Fine x.rows n L ∧ ScB n S ∧
   BxW wr T p ⟨x.rows, x.tick, x.seed, S, L⟩ vl vs (.slice (some ⟨g, 0, none⟩) N cap) ∧ FrW T p vs (.slice (some ⟨g, 0, none⟩) N cap) w wr)
  (hN : N = x.bods.length) (hk : n + k < x.bods.length) (hb : act1 kind x.bods[n + k] (L.take n, S) = some q)
  (hB : BxW w2 T p ⟨x.rows, x.tick, x.seed, q.2, q.1 ++ L.drop n⟩ vl vs (.slice (some ⟨g, 0, none⟩) N cap)) (hFr : FrW T p vs (.slice (some ⟨g, 0, none⟩) N cap) wr w2) :
  MtR w T p x vl vs g N cap n kind (k + 1) m w2 := by
 obtain ⟨h1, h2, h3, h4, h5, h6, h7, h8, h9, h10, h11⟩ := h
 obtain ⟨hP, hO⟩ := fine_part h8
 obtain ⟨⟨g1, g2⟩, g3⟩ := act_ok ⟨hP, h9⟩ hb
 rw [drop_next hk, pass_some hb] at h1 h2
 have hd : (q.1 ++ L.drop n).drop n = L.drop n := by rw [List.drop_append, g1, Nat.sub_self, List.drop_of_length_le (by omega)]; simp
 have ht : (q.1 ++ L.drop n).take n = q.1 := by rw [List.take_append, g1, Nat.sub_self, List.take_of_length_le (by omega)]; simp
 have hl : (q.1 ++ L.drop n).length = N := by rw [List.length_append, g1, List.length_drop]; have := h8.1; omega
 refine ⟨q.2, K, q.1 ++ L.drop n, by rw [ht]; exact h1, by rw [ht]; exact h2, h3, by omega, hl, by rw [hd]; exact h6, ?_, ?_, g3, hB, h11.trans hFr rfl (OwnTo.refl _ _)⟩
 ·have e1 := congrArg (List.drop 1) h7
  rw [List.drop_drop, List.drop_drop] at e1
  rw [show n + (k + 1) = n + (k + 1) from rfl, ← List.drop_drop, hd, List.drop_drop]
  exact e1
 ·exact fine_join ⟨g1, g2⟩ hO (by rw [g1, List.length_drop]; have := h8.1; have := h8.2.1; omega)
end
theorem act_eq {x : Wd} {L : List Bd} {S : List Int} {n : Nat} {kind : Int} {c : Bd} (hS : S.length = n) (hn : n ≤ L.length) (hk : kind = 1 ∨ kind = 2) (hc : c.kind = kind) :
  actX c ⟨x.rows, x.tick, x.seed, S, L⟩ = (act1 kind c (L.take n, S)).map fun q => ⟨x.rows, x.tick, x.seed, q.2, q.1 ++ L.drop n⟩ := by
 have key : ∀ (v : Nat) (b : Bd), v < n → L.set v b = (L.take n).set v b ++ L.drop n := fun v b hv => by
  conv => lhs; rw [← List.take_append_drop n L]
  rw [List.set_append_left _ _ (by rw [List.length_take]; omega)]
 have gk : ∀ (v : Nat), v < n → L.getD v b00 = (L.take n).getD v b00 := fun v hv => by
  rw [List.getD_eq_getElem?_getD, List.getD_eq_getElem?_getD, List.getElem?_take, if_pos hv]
 unfold actX act1
 rw [if_pos hc]
 dsimp only
 rw [hS]
 rcases hk with rfl | rfl
 ·rw [if_pos hc, if_pos rfl]
  cases hm : metF c c.owner (L.take n) 0 with
  | none => rfl
  | some v =>
   obtain ⟨-, hv, -⟩ := metF_in _ 0 v hm
   have hvn : v < n := by simp at hv; omega
   simp only [Option.map_some, hitX, hit1]
   rw [key v _ hvn, gk v hvn]
 ·rw [if_neg (by omega), if_neg (by decide)]
  cases hm : metF c (-1) (L.take n) 0 with
  | none => rfl
  | some v =>
   simp only [Option.map_some, takeX]
   rw [List.take_append_drop]
theorem act_off {kind : Int} {c : Bd} {q : PtS} (h : ¬ c.kind = kind) : act1 kind c q = none := by unfold act1; rw [if_neg h]
theorem mt_done {w wr : World} {T p : Nat} {x : Wd} {vl vs : Value} {g N cap n : Nat} {kind : Int} {k m : Nat} (h : MtR w T p x vl vs g N cap n kind k m wr) (hk : n + k = x.bods.length) (hN : N = x.bods.length) (hn : n = x.scores.length) : BxW (wr.setCell ⟨p, 4, none⟩ (.slice (some ⟨g, 0, none⟩) (n + m) cap)) T p (meetX kind x) vl vs (.slice (some ⟨g, 0, none⟩) (n + m) cap) ∧ FrW T p vs (.slice (some ⟨g, 0, none⟩) N cap) w (wr.setCell ⟨p, 4, none⟩ (.slice (some ⟨g, 0, none⟩) (n + m) cap)) := by
 obtain ⟨S, K, L, h1, h2, h3, h4, h5, h6, h7, h8, h9, h10, h11⟩ := h
 have ho := h10.2.2.2.2.cut (m := n + m) (by show n + m ≤ L.length; omega)
 have h12 := h10.rows4 (w' := wr) rfl (Below.refl _ _) h10.2.2.2.1 ho
 refine ⟨bxOf h12 ?_, h11.trans (frP h10.2.1 _ _ 4 _) rfl (OwnTo.refl _ _)⟩
 have he : (x.bods.drop n).drop k = [] := by rw [List.drop_drop, List.drop_of_length_le (by omega)]
 rw [he] at h1 h2
 simp only [pass] at h1 h2
 rw [List.append_nil] at h2
 unfold meetX
 rw [← hn, ← h1, ← h2, ← h6]
 dsimp only
 rw [List.take_add]
theorem fine_life {L : Rowz} {n : Nat} {bs : List Bd} (h : Fine L n bs) : ∀ k (hk : k < bs.length), 0 < bs[k].life → bs[k].life ≤ 3 := by
 intro k hk _
 obtain ⟨f1, -, -⟩ := h.2.2 k hk
 obtain ⟨p0, -, -, -, -, p5⟩ := fit_parts f1
 rcases kind3 p0 with e | e | e
 ·exact (kind0_facts e p5).2.2.1
 ·have := (kind1_facts e p5).2.1; omega
 ·rw [kind_2 e] at p5
  simp only [Bool.and_eq_true, decide_eq_true_eq] at p5
  omega
theorem fine_owner {L : Rowz} {n : Nat} {b : Bd} (h : fitB L (n : Int) b = true) : ∃ o : Nat, b.owner = (o : Int) ∧ o < n := by
 obtain ⟨-, p1, -⟩ := fit_parts h
 rw [inR_iff] at p1
 exact ⟨b.owner.toNat, by omega, by omega⟩
set_option maxRecDepth 100000 in
set_option maxHeartbeats 16000000 in
theorem meetPlayers_impl {w : World} {T p : Nat} {x : Wd} {vl vs vb : Value} (h : BxW w T p x vl vs vb) (hf : FineX x) (kind : Int) (hkd : kind = 1 ∨ kind = 2) :
  Calls Tryz.prog 143 #[.pointer (some ⟨p, 0, none⟩), .int .i64 kind] w (RetBx w T p (meetX kind x) vl vs vb) := by
 obtain ⟨hL, hn, hSc, hFi⟩ := hf
 have hN24 := hFi.2.1
 have hN1 := hFi.1
 have hT := Nat.le_of_lt h.low
 obtain ⟨g, cap, e0, hTg, hgw, hcap⟩ := h.2.2.2.2.shape (by omega)
 subst e0
 obtain ⟨gs, cs, e0, hTs, hgs, hcs⟩ := h.2.2.2.1.shape (by omega)
 subst e0
 obtain ⟨N, hNN⟩ : ∃ N, N = x.bods.length := ⟨_, rfl⟩
 obtain ⟨n, hnn⟩ : ∃ n, n = x.scores.length := ⟨_, rfl⟩
 rw [← hNN] at h hN24 hN1 hcap ⊢
 rw [← hnn] at h hN1 hn hcs hFi hSc ⊢
 have HNN := Lib.hid hNN
 have Hnn := Lib.hid hnn
 have HR0 := Lib.hid (mt_start (kind := kind) hFi hSc hNN h)
 have hPp := h.1
 unfold wdC at hPp
 have cP := rowCells hPp
 have hsl := fun W => bd_low W g 0 N cap n (by omega)
 have hsu := fun W => bd_up W g 0 N cap n (by omega) (by omega)
 have hNi : (N : Int) ≤ 24 := by omega
 have hni : (n : Int) ≤ (N : Int) := by omega
 have hnc : (n : Int) ≤ (cap : Int) := by omega
 have HO : Hid (upOff 0 n cap = n * 9 ∨ N = n) := Lib.hid (if e : n < cap then .inl (by unfold upOff; rw [if_pos e]; omega) else .inr (by omega))
 generalize upOff 0 n cap = off at *
 obtain ⟨M, hM⟩ : ∃ M, M = N - n := ⟨_, rfl⟩
 have hMi : (M : Int) = (N : Int) - (n : Int) := by omega
 rw [← hM] at hsu
 have HM := Lib.hid hM
 have hM24 : (M : Int) ≤ 24 := by omega
 clear hNN hnn hM hMi
 go_enter Tryz.func143, Tryz.ntmps143
 go_wp2_with (fail)
 go_quiet (fail)
 go_wp2_with (fail)
 obtain ⟨w1, hw1⟩ : ∃ W, W = w.drewN nq := ⟨_, rfl⟩
 have hb1 : Below w.heap.size w w1 := by rw [hw1]; exact belowDrew w nq
 rw [← hw1]
 clear hw1 cP
 have cP := rowCells (keepHeap hb1 hPp)
 go_quiet (fail)
 obtain ⟨w2, hw2⟩ : ∃ W, W = w1.drewN nq := ⟨_, rfl⟩
 have hb2 : Below w.heap.size w w2 := by rw [hw2]; exact hb1.trans ((belowDrew w1 nq).mono hb1.size)
 rw [← hw2]
 clear hw2 cP hsl hsu
 have HR2 : Hid (MtR w T p x vl (.slice (some ⟨gs, 0, none⟩) n cs) g N cap n kind 0 0 w2) := Lib.hid (by
  obtain ⟨S, K, L, h1, h2, h3, h4, h5, h6, h7, h8, h9, h10, h11⟩ := HR0.out
  exact ⟨S, K, L, h1, h2, h3, h4, h5, h6, h7, h8, h9, h10.keep hb2 hT, h11.trans (FrW.below hb2 hT) rfl (OwnTo.refl _ _)⟩)
 go_wp2_with (fail)
 go_loopw [4, 28] (fun s i wr => ∃ (k m : Nat), k ≤ M ∧ i = .int .i64 (k : Int) ∧ s = .slice (some ⟨g, 0, none⟩) (n + m) cap ∧ MtR w T p x vl (.slice (some ⟨gs, 0, none⟩) n cs) g N cap n kind k m wr) (fun _ i _ => M - (intOf i).toNat)
 case atStart => exact ⟨0, 0, Nat.zero_le _, rfl, rfl, HR2.out⟩
 case round =>
  obtain ⟨k, m, hk, rfl, rfl, hR⟩ := hrel
  have HR := Lib.hid hR
  by_cases hkM : k < M
  ·obtain ⟨S, K, L, hrest⟩ := hR
   have HH := Lib.hid hrest
   obtain ⟨-, -, -, hmk, hLN, -, hdr, hFL, hSS, hBr, -⟩ := hrest
   have hkx : n + k < x.bods.length := by have := HNN.out; have := HM.out; omega
   have hkL : n + k < L.length := by have := HM.out; omega
   have hoff : off + k * 9 = (n + k) * 9 := by have := HM.out; rcases HO.out with e | e <;> omega
   have hLk : L[n + k] = x.bods[n + k] := by
    have e1 := congrArg (fun l => l[0]?) hdr
    simp only [List.getElem?_drop, Nat.add_zero, List.getElem?_eq_getElem hkL, List.getElem?_eq_getElem hkx, Option.some.injEq] at e1
    exact e1
   have hc0 := (hBr.2.2.2.2.body hkL).1
   rw [hLk, ← hoff] at hc0
   obtain ⟨hfit, hfk, -⟩ := hFi.2.2 (n + k) hkx
   have hkn0 : ¬ x.bods[n + k].kind = 0 := fun e => by have := hfk.1 e; omega
   have HKE := Lib.hid (fun (w2 : World) hb hB hF => mt_keep (w2 := w2) HH.out HNN.out hkx hFi hb hB hF)
   have HAC := Lib.hid (fun (w2 : World) (q : PtS) hb hB hF => mt_act (w2 := w2) (q := q) HH.out HNN.out hkx hb hB hF)
   generalize x.bods[n + k] = c at *
   obtain ⟨d0, d1, d2, d3, d4, d5, d6, d7, d8⟩ := cells9 hc0
   have hki : (k : Int) < (M : Int) := by omega
   have hTr := Nat.le_of_lt hBr.low
   obtain ⟨o, ho, hon⟩ := fine_owner hfit
   have hck : c.kind = 1 ∨ c.kind = 2 := by
    obtain ⟨p0, -⟩ := fit_parts hfit
    rcases kind3 p0 with e | e | e
    ·exact absurd e hkn0
    ·exact .inl e
    ·exact .inr e
   have hac := Lib.hid (fun (W : World) (hb : Below wr.heap.size wr W) => actOnFirst_impl (hBr.keep hb hTr) (by show S.length ≤ L.length; rw [hSS.1]; omega) (by show L.length ≤ 24; omega) (by show S.length ≤ 4; rw [hSS.1]; omega) c hck o ho (by show o < S.length; rw [hSS.1]; exact hon) hSS.2 (fine_life hFL))
   have hlt6 : (Value.slice (some ⟨gs, 0, none⟩) n cs).ownBlock ≠ some wr.heap.size ∧ (Value.slice (some ⟨g, 0, none⟩) N cap).ownBlock ≠ some wr.heap.size ∧ wr.heap.size ≠ p := by
    have h1 := (World.ownsRow.lt hBr.2.2.2.1 gs rfl).2
    have h2 := (World.ownsRow.lt hBr.2.2.2.2 g rfl).2
    have h3 := hBr.lt
    refine ⟨fun e => ?_, fun e => ?_, by omega⟩
    ·have := Option.some.inj e; simp at this; omega
    ·have := Option.some.inj e; simp at this; omega
   have HL6 := Lib.hid hlt6
   have hba := below1 wr (.cells #[.int .i64 c.kind, .int .i64 c.owner, .int .i64 c.x, .int .i64 c.y, .int .i64 c.vx, .int .i64 c.vy, .int .i64 c.aim, .int .i64 c.life, .int .i64 c.timer] 100)
   have hmL : n + m < L.length := by omega
   have HLN := Lib.hid hLN
   have HBR := Lib.hid hBr
   have HSL := Lib.hid hSS.1
   have HLL : Hid (n ≤ L.length) := Lib.hid (by omega)
   clear hc0 hLk hoff hdr hFL hSS hBr hkL hLN hfit hfk hkn0 ho hlt6
   by_cases hke : c.kind = kind
   ·have z1 : ((c.kind : Int) != kind) = false := by simpa using hke
    have z2 : ((c.kind : Int) == kind) = true := by simpa using hke
    have HE := Lib.hid (act_eq (x := x) (L := L) (S := S) HSL.out HLL.out hkd hke)
    cases ha : act1 kind c (L.take n, S) with
    | none =>
     have hcall : ∀ {W : World}, Below wr.heap.size wr W → Calls Tryz.prog 207 #[.pointer (some ⟨p, 0, none⟩), .agg #[.int .i64 c.kind, .int .i64 c.owner, .int .i64 c.x, .int .i64 c.y, .int .i64 c.vx, .int .i64 c.vy, .int .i64 c.aim, .int .i64 c.life, .int .i64 c.timer]] W fun e w' => e = .returned (.bool false) ∧ BxW w' T p ⟨x.rows, x.tick, x.seed, S, L⟩ vl (.slice (some ⟨gs, 0, none⟩) n cs) (.slice (some ⟨g, 0, none⟩) N cap) ∧ FrW T p (.slice (some ⟨gs, 0, none⟩) n cs) (.slice (some ⟨g, 0, none⟩) N cap) W w' := fun hb => by
      have := hac.out _ hb
      rw [HE.out, ha] at this
      exact this
     have HA := Lib.hid ha
     clear hke ha
     go_upto_region 5 with (go_at_call 207; refine (hcall hba).mono ?_; rintro e w4 ⟨rfl, h4, hF4⟩)
     have hF34 := (FrW.below (vs := .slice (some ⟨gs, 0, none⟩) n cs) (vb := .slice (some ⟨g, 0, none⟩) N cap) (p := p) hba hTr).trans hF4 rfl (OwnTo.refl _ _)
     have hQ4 := hF4.heap (heap_alloc_new wr (.cells #[.int .i64 c.kind, .int .i64 c.owner, .int .i64 c.x, .int .i64 c.y, .int .i64 c.vx, .int .i64 c.vy, .int .i64 c.aim, .int .i64 c.life, .int .i64 c.timer] 100)) HL6.out.2.2 HL6.out.1 HL6.out.2.1
     have cQ := rowCells hQ4
     have hb5 := below1 w4 (.cells #[.int .i64 c.kind, .int .i64 c.owner, .int .i64 c.x, .int .i64 c.y, .int .i64 c.vx, .int .i64 c.vy, .int .i64 c.aim, .int .i64 c.life, .int .i64 c.timer] 100)
     have h5 := h4.keep hb5 (Nat.le_of_lt h4.low)
     have HN := Lib.hid (HKE.out _ HA.out h5 (hF34.trans (FrW.below hb5 (Nat.le_of_lt h4.low)) rfl (OwnTo.refl _ _)))
     have HO5 := Lib.hid h5.2.2.2.2
     clear d0 d1 d2 d3 d4 d5 d6 d7 d8 hcall h4 hF4 h5 hF34 hQ4
     go_wp2_with (at_builtin; refine app_bodR rfl _ _ rfl (T := T) (n := N) (X := L) rfl HO5.out HLN.out.symm hmL w4.heap.size c rfl (range_mk w4 c _) ?_; intro hO6)
     go_roundw
     case rel => exact ⟨k + 1, m + 1, by omega, by go_num, rfl, HN.out⟩
     case measure => simp [intOf]; omega
    | some q =>
     have hcall : ∀ {W : World}, Below wr.heap.size wr W → Calls Tryz.prog 207 #[.pointer (some ⟨p, 0, none⟩), .agg #[.int .i64 c.kind, .int .i64 c.owner, .int .i64 c.x, .int .i64 c.y, .int .i64 c.vx, .int .i64 c.vy, .int .i64 c.aim, .int .i64 c.life, .int .i64 c.timer]] W fun e w' => e = .returned (.bool true) ∧ BxW w' T p ⟨x.rows, x.tick, x.seed, q.2, q.1 ++ L.drop n⟩ vl (.slice (some ⟨gs, 0, none⟩) n cs) (.slice (some ⟨g, 0, none⟩) N cap) ∧ FrW T p (.slice (some ⟨gs, 0, none⟩) n cs) (.slice (some ⟨g, 0, none⟩) N cap) W w' := fun hb => by
      have := hac.out _ hb
      rw [HE.out, ha] at this
      exact this
     have HA := Lib.hid ha
     clear hke ha
     go_wp2_with (go_at_call 207; refine (hcall hba).mono ?_; rintro e w4 ⟨rfl, h4, hF4⟩)
     have hF34 := (FrW.below (vs := .slice (some ⟨gs, 0, none⟩) n cs) (vb := .slice (some ⟨g, 0, none⟩) N cap) (p := p) hba hTr).trans hF4 rfl (OwnTo.refl _ _)
     have HN := Lib.hid (HAC.out _ _ HA.out h4 hF34)
     go_roundw
     case rel => exact ⟨k + 1, m, by omega, by go_num, rfl, HN.out⟩
     case measure => simp [intOf]; omega
   ·have z1 : ((c.kind : Int) != kind) = true := by simpa using hke
    have z2 : ((c.kind : Int) == kind) = false := by simpa using hke
    have HA := Lib.hid (act_off (q := (L.take n, S)) hke)
    clear hke
    go_upto_region 5 with (fail)
    obtain ⟨w4, hw4, hQ4⟩ : ∃ w4, wr.alloc (.cells #[.int .i64 c.kind, .int .i64 c.owner, .int .i64 c.x, .int .i64 c.y, .int .i64 c.vx, .int .i64 c.vy, .int .i64 c.aim, .int .i64 c.life, .int .i64 c.timer] 100) = w4 ∧ w4.heap[wr.heap.size]? = some (.cells #[.int .i64 c.kind, .int .i64 c.owner, .int .i64 c.x, .int .i64 c.y, .int .i64 c.vx, .int .i64 c.vy, .int .i64 c.aim, .int .i64 c.life, .int .i64 c.timer] 100 (0, 0)) := ⟨_, rfl, heap_alloc_new wr _⟩
    rw [hw4] at hba ⊢
    have cQ := rowCells hQ4
    have hb5 := below1 w4 (.cells #[.int .i64 c.kind, .int .i64 c.owner, .int .i64 c.x, .int .i64 c.y, .int .i64 c.vx, .int .i64 c.vy, .int .i64 c.aim, .int .i64 c.life, .int .i64 c.timer] 100)
    have hb45 := hba.trans (hb5.mono hba.size)
    have h5 := HBR.out.keep hb45 hTr
    have HN := Lib.hid (HKE.out _ HA.out h5 (FrW.below hb45 hTr))
    have HO5 := Lib.hid h5.2.2.2.2
    clear d0 d1 d2 d3 d4 d5 d6 d7 d8 hw4 h5 hQ4
    go_wp2_with (at_builtin; refine app_bodR rfl _ _ rfl (T := T) (n := N) (X := L) rfl HO5.out HLN.out.symm hmL w4.heap.size c rfl (range_mk w4 c _) ?_; intro hO6)
    go_roundw
    case rel => exact ⟨k + 1, m + 1, by omega, by go_num, rfl, HN.out⟩
    case measure => simp [intOf]; omega
  ·obtain ⟨S, K, L, -, -, -, -, -, -, -, -, -, hBr, -⟩ := hR
   have hkM' : k = M := by omega
   have HD := Lib.hid (mt_done HR.out (by have := HNN.out; have := HM.out; omega) HNN.out Hnn.out)
   have hnl : ¬ (k : Int) < (M : Int) := by omega
   have hPr := hBr.1
   unfold wdC at hPr
   dsimp only at hPr
   have cPr := rowCells hPr
   have fPr := fun j => frozenHeap hPr j
   clear hkM'
   go_wp2_with (fail)
   refine bodyPost_ret (v := .tuple #[]) (by simp [results, Tryz.results143]) rfl ⟨rfl, _, _, HD.out.1, HD.out.2, rfl, OwnTo.refl _ _⟩
end Go.Proofs.YtnlonkkbjkfkmaaGreatDoor
