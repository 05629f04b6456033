/-
  Texts of this proof: TkWB.
-/
import Derived.Test.YtnlonkkbjkfkmaaGreatDoorM20
import Derived.Test.YtnlonkkbjkfkmaaGreatDoorM26
import Derived.Test.YtnlonkkbjkfkmaaGreatDoorM18
import Derived.Test.YtnlonkkbjkfkmaaGreatDoorM27
import Derived.ArgAppend
import Derived.Lib.AppendZeros
import Derived.Laws.OwnMore
namespace Go.Proofs.YtnlonkkbjkfkmaaGreatDoor
open Go.RowKit
set_option linter.all false
def BxW (W : World) (T p : Nat) (x : Wd) (vl vs vb : Value) : Prop :=
 W.heap[p]? = some (.cells (wdC x vl vs vb) 30 (0, 0)) ∧ T ≤ p ∧ (WrS W 0 vl x.rows ∧ LowS T vl x.rows) ∧ OwnR W T vs x.scores ∧ OwnRB W T vb x.bods
def FrW (T p : Nat) (vs vb : Value) (w w' : World) : Prop := Below T w w' ∧ ∀ j, j < w.heap.size → j ≠ p → vs.ownBlock ≠ some j → vb.ownBlock ≠ some j → w'.heap[j]? = w.heap[j]?
def OwnTo (S : Nat) (v v' : Value) : Prop := ∀ g, v'.ownBlock = some g → v.ownBlock = some g ∨ S ≤ g
def RetBx (w : World) (T p : Nat) (x' : Wd) (vl vs vb : Value) (e : Ending) (w' : World) : Prop :=
 e = .returned (.tuple #[]) ∧ ∃ vs' vb', BxW w' T p x' vl vs' vb' ∧ FrW T p vs vb w w' ∧ vs'.ownBlock = vs.ownBlock ∧ OwnTo w.heap.size vb vb'
theorem OwnTo.refl (S : Nat) (v : Value) : OwnTo S v v := fun _ h => .inl h
theorem OwnTo.trans {S S' : Nat} {v v1 v2 : Value} (h : OwnTo S v v1) (h2 : OwnTo S' v1 v2) (hS : S ≤ S') : OwnTo S v v2 := fun g hg => by
 rcases h2 g hg with h3 | h3
 ·exact h g h3
 ·exact .inr (by omega)
theorem FrW.refl (T p : Nat) (vs vb : Value) (w : World) : FrW T p vs vb w w := ⟨Below.refl _ _, fun _ _ _ _ _ => rfl⟩
theorem FrW.size {T p : Nat} {vs vb : Value} {w w' : World} (h : FrW T p vs vb w w') : w.heap.size ≤ w'.heap.size := h.1.size
theorem FrW.trans {T p : Nat} {vs vb vs1 vb1 : Value} {w w1 w2 : World} (h1 : FrW T p vs vb w w1) (h2 : FrW T p vs1 vb1 w1 w2) (hs : vs1.ownBlock = vs.ownBlock) (hb : OwnTo w.heap.size vb vb1) : FrW T p vs vb w w2 := by
 refine ⟨h1.1.trans h2.1, fun j hj hp h3 h4 => ?_⟩
 rw [h2.2 j (by have := h1.size; omega) hp (by rw [hs]; exact h3) (fun e => by
  rcases hb j e with h5 | h5
  ·exact h4 h5
  ·omega)]
 exact h1.2 j hj hp h3 h4
theorem FrW.below {T p : Nat} {vs vb : Value} {w w' : World} (hb : Below w.heap.size w w') (hT : T ≤ w.heap.size) : FrW T p vs vb w w' := ⟨hb.mono hT, fun j hj _ _ _ => hb.block j hj⟩
theorem FrW.heap {T p : Nat} {vs vb : Value} {w w' : World} (h : FrW T p vs vb w w') {j : Nat} {o : Obj} (ho : w.heap[j]? = some o) (hp : j ≠ p) (h3 : vs.ownBlock ≠ some j) (h4 : vb.ownBlock ≠ some j) : w'.heap[j]? = some o := by
 rw [h.2 j (Array.getElem?_eq_some_iff.1 ho).1 hp h3 h4]; exact ho
theorem lvKeep {w w' : World} {T : Nat} {v : Value} {L : Rowz} (h : WrS w 0 v L ∧ LowS T v L) (hb : Below T w w') : WrS w' 0 v L ∧ LowS T v L := ⟨h.1.same h.2 (fun b _ hbT _ => hb.block b hbT), h.2⟩
theorem BxW.keep {w w' : World} {T p : Nat} {x : Wd} {vl vs vb : Value} (h : BxW w T p x vl vs vb) (hb : Below w.heap.size w w') (hT : T ≤ w.heap.size) : BxW w' T p x vl vs vb := by
 obtain ⟨h1, h2, h3, h4, h5⟩ := h
 exact ⟨keepHeap hb h1, h2, lvKeep h3 (hb.mono hT), h4.keep hb (Nat.le_refl _), h5.keep hb (Nat.le_refl _)⟩
theorem BxW.rd {w : World} {T p : Nat} {x : Wd} {vl vs vb : Value} (h : BxW w T p x vl vs vb) : RdW w x vl vs vb := ⟨h.2.2.1.1.rd, h.2.2.2.1.own.rd, h.2.2.2.2.own.rd⟩
theorem BxW.lt {w : World} {T p : Nat} {x : Wd} {vl vs vb : Value} (h : BxW w T p x vl vs vb) : p < w.heap.size := (Array.getElem?_eq_some_iff.1 h.1).1
theorem BxW.low {w : World} {T p : Nat} {x : Wd} {vl vs vb : Value} (h : BxW w T p x vl vs vb) : T < w.heap.size := by have := h.lt; have := h.2.1; omega
theorem BxW.notP {w : World} {T p : Nat} {x : Wd} {vl vs vb : Value} (h : BxW w T p x vl vs vb) : vs.ownBlock ≠ some p ∧ vb.ownBlock ≠ some p := ⟨h.2.2.2.1.notBox h.1 (by decide), h.2.2.2.2.notBox h.1 (by decide)⟩
theorem twoRows {w : World} {T T' : Nat} {vs vb : Value} {S : List Int} {X : List Bd} (h : OwnR w T vs S) (h' : OwnRB w T' vb X) {g : Nat} (hg : vs.ownBlock = some g) : vb.ownBlock ≠ some g := by
 rcases h.2 with ⟨rfl, -⟩ | ⟨g1, cap, cur, rfl, -, h1, -⟩
 ·cases hg
 ·obtain rfl := Option.some.inj hg
  exact h'.notBox h1 (by decide)
theorem BxW.num {w : World} {T p : Nat} {x y : Wd} {vl vs vb : Value} (h : BxW w T p x vl vs vb) (k : Nat) (v : Value) (hk : (wdC x vl vs vb).setIfInBounds k v = wdC y vl vs vb) (h1 : y.rows = x.rows) (h2 : y.scores = x.scores) (h3 : y.bods = x.bods) : BxW (w.setCell ⟨p, k, none⟩ v) T p y vl vs vb := by
 obtain ⟨a1, a2, a3, a4, a5⟩ := id h
 obtain ⟨n1, n2⟩ := h.notP
 have hs := setHeap (k := k) (v := v) a1
 rw [hk] at hs
 refine ⟨hs, a2, ?_, ?_, ?_⟩
 ·rw [h1]; exact lvKeep a3 ((Below.refl _ _).setCell (p := ⟨p, k, none⟩) a2 v)
 ·rw [h2]; exact a4.aside (p := ⟨p, k, none⟩) n1 v
 ·rw [h3]; exact a5.aside (p := ⟨p, k, none⟩) n2 v
theorem frP {w : World} {T p : Nat} (hT : T ≤ p) (vs vb : Value) (k : Nat) (v : Value) : FrW T p vs vb w (w.setCell ⟨p, k, none⟩ v) :=
 ⟨(Below.refl _ _).setCell (p := ⟨p, k, none⟩) hT v, fun j hj hp _ _ => Below.heap_setCell _ _ _ j (by show j ≠ p; exact hp)⟩
theorem BxW.rows4 {w w' : World} {T p : Nat} {x : Wd} {vl vs vb v5 : Value} {X : List Bd} (h : BxW w T p x vl vs vb) (hp : w'.heap[p]? = w.heap[p]?) (hb : Below T w w') (hs : OwnR w' T vs x.scores) (ho : OwnRB w' T v5 X) : BxW (w'.setCell ⟨p, 4, none⟩ v5) T p ⟨x.rows, x.tick, x.seed, x.scores, X⟩ vl vs v5 := by
 obtain ⟨a1, a2, a3, a4, a5⟩ := id h
 rw [← hp] at a1
 have h4 := setHeap (k := 4) (v := v5) a1
 refine ⟨h4, a2, lvKeep a3 (hb.setCell (p := ⟨p, 4, none⟩) a2 v5), ?_, ?_⟩
 ·exact hs.aside (p := ⟨p, 4, none⟩) (hs.notBox a1 (by decide)) v5
 ·exact ho.aside (p := ⟨p, 4, none⟩) (ho.notBox a1 (by decide)) v5
theorem flat_set : ∀ (X : List Bd) (k i : Nat) (n : Int), k < X.length → i < 9 → (X.map bdL).flatten.set (k * 9 + i) (.int .i64 n) = ((X.set k ((X.getD k b00).set i n)).map bdL).flatten
 | [], k, _, _, h, _ => by simp at h
 | b :: l, 0, i, n, _, hi => by
  rw [List.map_cons, List.flatten_cons, List.set_append_left _ _ (by rw [bdL_len]; omega), List.set_cons_zero, List.map_cons, List.flatten_cons]
  rw [show 0 * 9 + i = i by omega]
  have : (b :: l).getD 0 b00 = b := rfl
  rw [this, bdL_set b n i hi]
 | b :: l, k + 1, i, n, hk, hi => by
  rw [List.map_cons, List.flatten_cons, List.set_append_right _ _ (by rw [bdL_len]; omega), bdL_len, List.set_cons_succ, List.map_cons, List.flatten_cons]
  rw [show (k + 1) * 9 + i - 9 = k * 9 + i by omega, flat_set l k i n (by simpa using hk) hi]
  rfl
theorem OwnRB.field {w : World} {T g n cap : Nat} {X : List Bd} (h : OwnRB w T (.slice (some ⟨g, 0, none⟩) n cap) X) (hn : n = X.length) {k i : Nat} (hk : k < X.length) (hi : i < 9) (m : Int) :
  OwnRB (w.setCell ⟨g, k * 9 + i, none⟩ (.int .i64 m)) T (.slice (some ⟨g, 0, none⟩) n cap) (X.set k ((X.getD k b00).set i m)) := by
 subst hn
 have h2 := (World.ownsRow.stored h (k * 9 + i) (.int .i64 m)).1
 rw [flat_set X k i m hk hi] at h2
 unfold OwnRB
 rw [List.length_set]
 exact h2
theorem bd_nine (b c : Bd) : ((((((((b.set 0 c.kind).set 1 c.owner).set 2 c.x).set 3 c.y).set 4 c.vx).set 5 c.vy).set 6 c.aim).set 7 c.life).set 8 c.timer = c := by
 obtain ⟨b0, b1, b2, b3, b4, b5, b6, b7, b8⟩ := b
 obtain ⟨c0, c1, c2, c3, c4, c5, c6, c7, c8⟩ := c
 simp only [Bd.set]
theorem set_getD {X : List Bd} {k : Nat} (hk : k < X.length) (b : Bd) : (X.set k b).getD k b00 = b := by
 rw [List.getD_eq_getElem?_getD, List.getElem?_set_self hk]; rfl
theorem OwnRB.put {w : World} {T g n cap : Nat} {X : List Bd} (h : OwnRB w T (.slice (some ⟨g, 0, none⟩) n cap) X) (hn : n = X.length) {k : Nat} (hk : k < X.length) (b : Bd) :
  OwnRB (w.setCells g (k * 9) (bdL b)) T (.slice (some ⟨g, 0, none⟩) n cap) (X.set k b) := by
 have h0 := h.field hn hk (i := 0) (by omega) b.kind
 have e1 : ∀ (Y : List Bd) (c : Bd), Y.length = X.length → n = (Y.set k c).length := fun Y c hY => by rw [List.length_set, hY]; exact hn
 have e2 : ∀ (c : Bd), k < (X.set k c).length := fun c => by rw [List.length_set]; exact hk
 have step : ∀ (W : World) (c : Bd) (i : Nat) (hi : i < 9) (m : Int), OwnRB W T (.slice (some ⟨g, 0, none⟩) n cap) (X.set k c) → OwnRB (W.setCell ⟨g, k * 9 + i, none⟩ (.int .i64 m)) T (.slice (some ⟨g, 0, none⟩) n cap) (X.set k (c.set i m)) := fun W c i hi m hW => by
  have := hW.field (e1 X c rfl) (e2 c) hi m
  rw [set_getD hk, List.set_set] at this
  exact this
 have g0 := step _ _ 1 (by omega) b.owner h0
 have g1 := step _ _ 2 (by omega) b.x g0
 have g2 := step _ _ 3 (by omega) b.y g1
 have g3 := step _ _ 4 (by omega) b.vx g2
 have g4 := step _ _ 5 (by omega) b.vy g3
 have g5 := step _ _ 6 (by omega) b.aim g4
 have g6 := step _ _ 7 (by omega) b.life g5
 have g7 := step _ _ 8 (by omega) b.timer g6
 rw [bd_nine] at g7
 exact g7
theorem OwnR.put {w : World} {T g n cap : Nat} {S : List Int} (h : OwnR w T (.slice (some ⟨g, 0, none⟩) n cap) S) (hn : n = S.length) (k : Nat) (m : Int) :
  OwnR (w.setCell ⟨g, k, none⟩ (.int .i64 m)) T (.slice (some ⟨g, 0, none⟩) n cap) (S.set k m) := by
 subst hn
 have h2 := (World.ownsRow.stored h k (.int .i64 m)).1
 unfold OwnR
 rw [List.length_set, List.map_set]
 exact h2
theorem belowSet {T g : Nat} (hT : T ≤ g) (w : World) (vs : List Value) (o : Nat) : Below T w (w.setCells g o vs) := belowCells hT vs o w (Below.refl _ _)
theorem BxW.bods {w w' : World} {T p g n cap : Nat} {x : Wd} {vl vs : Value} {X : List Bd} (h : BxW w T p x vl vs (.slice (some ⟨g, 0, none⟩) n cap)) (hX : X.length = x.bods.length)
  (hb : Below T w w') (ho : OwnRB w' T (.slice (some ⟨g, 0, none⟩) n cap) X) (hf : ∀ j, j ≠ g → w'.heap[j]? = w.heap[j]?) : BxW w' T p ⟨x.rows, x.tick, x.seed, x.scores, X⟩ vl vs (.slice (some ⟨g, 0, none⟩) n cap) := by
 obtain ⟨a1, a2, a3, a4, a5⟩ := id h
 have hne : p ≠ g := fun e => h.notP.2 (by rw [e]; rfl)
 refine ⟨by rw [hf p hne]; exact a1, a2, lvKeep a3 hb, ?_, ho⟩
 refine World.ownsRow.kept a4 (row := some g) ⟨hb.os, hb.tape, hb.output, hb.size, fun k _ hk => hf k (fun e => hk (by rw [e]))⟩ ?_
 rcases hv : vs.ownBlock with _ | k
 ·exact .inl rfl
 ·right
  intro e
  rw [Option.some.injEq] at e
  subst e
  exact twoRows a4 a5 hv rfl
theorem BxW.score {w : World} {T p g n cap : Nat} {x : Wd} {vl vb : Value} (h : BxW w T p x vl (.slice (some ⟨g, 0, none⟩) n cap) vb) (hn : n = x.scores.length) (k : Nat) (m : Int) :
  BxW (w.setCell ⟨g, k, none⟩ (.int .i64 m)) T p ⟨x.rows, x.tick, x.seed, x.scores.set k m, x.bods⟩ vl (.slice (some ⟨g, 0, none⟩) n cap) vb := by
 obtain ⟨a1, a2, a3, a4, a5⟩ := id h
 have hne : p ≠ g := fun e => h.notP.1 (by rw [e]; rfl)
 have hTg := (World.ownsRow.lt a4 g rfl).1
 exact ⟨farHeap a1 (by show p ≠ g; exact hne) _, a2, lvKeep a3 ((Below.refl _ _).setCell (p := ⟨g, k, none⟩) hTg _), a4.put hn k m, a5.aside (p := ⟨g, k, none⟩) (twoRows a4 a5 rfl) _⟩
theorem frS {w : World} {T p g n cap : Nat} {x : Wd} {vl vb : Value} (h : BxW w T p x vl (.slice (some ⟨g, 0, none⟩) n cap) vb) (vb' : Value) (k : Nat) (v : Value) : FrW T p (.slice (some ⟨g, 0, none⟩) n cap) vb' w (w.setCell ⟨g, k, none⟩ v) :=
 ⟨(Below.refl _ _).setCell (p := ⟨g, k, none⟩) (World.ownsRow.lt h.2.2.2.1 g rfl).1 v, fun j hj _ hs _ => Below.heap_setCell _ _ _ j (by show j ≠ g; intro e; subst e; exact hs rfl)⟩
theorem frB {w w' : World} {T p g n cap : Nat} {vs : Value} (hb : Below T w w') (hf : ∀ j, j ≠ g → w'.heap[j]? = w.heap[j]?) : FrW T p vs (.slice (some ⟨g, 0, none⟩) n cap) w w' :=
 ⟨hb, fun j _ _ _ h4 => hf j (fun e => h4 (by rw [e]; rfl))⟩
theorem OwnRB.body {w : World} {T g n cap : Nat} {X : List Bd} (h : OwnRB w T (.slice (some ⟨g, 0, none⟩) n cap) X) {k : Nat} (hk : k < X.length) : w.rangeAt g (k * 9) (bdL X[k]) ∧ w.there g (k * 9) 9 := by
 obtain ⟨a, c, e, h2⟩ := h.own
 rcases h2 with h2 | ⟨b, hB, ha, hr⟩
 ·rw [h2] at hk; simp at hk
 ·simp only [Value.slice.injEq] at e
  rw [ha, Option.some.injEq, Addr.mk.injEq] at e
  obtain ⟨⟨rfl, -⟩, -⟩ := e
  exact hr k hk
theorem OwnRB.shape {w : World} {T : Nat} {v : Value} {X : List Bd} (h : OwnRB w T v X) (hx : 0 < X.length) : ∃ g cap, v = .slice (some ⟨g, 0, none⟩) X.length cap ∧ T ≤ g ∧ g < w.heap.size ∧ X.length ≤ cap := by
 rcases h.2 with ⟨-, h0⟩ | ⟨g, cap, cur, rfl, hB, hg, hn, hc, -⟩
 ·omega
 ·exact ⟨g, cap, rfl, hB, (Array.getElem?_eq_some_iff.1 hg).1, hn⟩
theorem OwnR.shape {w : World} {T : Nat} {v : Value} {X : List Int} (h : OwnR w T v X) (hx : 0 < X.length) : ∃ g cap, v = .slice (some ⟨g, 0, none⟩) X.length cap ∧ T ≤ g ∧ g < w.heap.size ∧ X.length ≤ cap := by
 rcases h.2 with ⟨-, h0⟩ | ⟨g, cap, cur, rfl, hB, hg, hn, hc, -⟩
 ·omega
 ·exact ⟨g, cap, rfl, hB, (Array.getElem?_eq_some_iff.1 hg).1, hn⟩
theorem range_mk (w : World) (b : Bd) (T : TypeId) : (w.alloc (.cells #[.int .i64 b.kind, .int .i64 b.owner, .int .i64 b.x, .int .i64 b.y, .int .i64 b.vx, .int .i64 b.vy, .int .i64 b.aim, .int .i64 b.life, .int .i64 b.timer] T)).rangeAt w.heap.size 0 (bdL b) := by
 intro i v hv
 rw [Nat.zero_add, cell_of_row _ w.heap.size i _ _ (0, 0) (heap_alloc_new w _), ← hv]
 unfold bdL
 simp
theorem OwnRB.putB {w : World} {T g n cap : Nat} {X : List Bd} (h : OwnRB w T (.slice (some ⟨g, 0, none⟩) n cap) X) {c : Nat} (hc : c ≠ g) (b : Bd) (x y vx vy : Int) : OwnRB (putB w c b x y vx vy) T (.slice (some ⟨g, 0, none⟩) n cap) X := by
 refine ⟨h.1, ?_⟩
 rcases h.2 with ⟨e, -⟩ | ⟨g', cap', cur, e, hB, hg, rest⟩
 ·cases e
 ·have e2 := e
  simp only [Value.slice.injEq, Option.some.injEq, Addr.mk.injEq, and_true] at e2
  obtain ⟨rfl, -⟩ := e2
  exact .inr ⟨g, cap', cur, e, hB, putB_far hg (fun e => hc e.symm) b x y vx vy, rest⟩
theorem app_bodR {ops : Array Oper} {rest : List Oper} {o : Oper} {a : Act} {Q : Exit → Act → World → Prop} {W : World} (hgd : o.guard = none) (s x : Operand)
  (ho : o.op = .call { callee := .builtin .append, args := #[s, x], argTypes := #[28, 28] })
  {T g n m cap : Nat} {X : List Bd} (hs : a.eval s = .slice (some ⟨g, 0, none⟩) m cap) (hown : OwnRB W T (.slice (some ⟨g, 0, none⟩) n cap) X) (hn : n = X.length) (hm : m < X.length) (ad : Nat) (b : Bd) (hx : a.eval x = .slice (some ⟨ad, 0, none⟩) 1 1)
  (hc0 : W.rangeAt ad 0 (bdL b))
  (h : OwnRB (W.setCells g (m * 9) (bdL b)) T (.slice (some ⟨g, 0, none⟩) n cap) (X.set m b) → wpList Tryz.prog ops Q rest (a.put o.dst (.slice (some ⟨g, 0, none⟩) (m + 1) cap)) (W.setCells g (m * 9) (bdL b))) : wpList Tryz.prog ops Q (o :: rest) a W := by
 obtain ⟨i0, hi, hz0, hz1, hz2⟩ := info_parts info_BodyS
 have hcell : ∀ j u, (bdL b)[j]? = some u → W.cell? ((⟨ad, 0, none⟩ : Addr).add j) = some u := by
  intro j u hj
  rw [Addr.add_lit]
  exact hc0 j u hj
 have hcap : X.length ≤ cap := by
  rcases hown.2 with ⟨e, -⟩ | ⟨g', cap', cur, e, hB, hg, hnc, -⟩
  ·cases e
  ·simp only [Value.slice.injEq] at e
   omega
 obtain ⟨-, hth⟩ := hown.body hm
 have hrun := run_append_room_cells (P := Tryz.prog) (w := W) 28 o.type 100 i0 Tryz.underlying28 hi g 0 m cap ⟨ad, 0, none⟩ 1 1 (bdL b) (by rw [bdL_len, hz1]) hcell (bdL_one b) (by omega)
  (fun j hj => by rw [bdL_len] at hj; rw [hz1]; have := (hth j hj).1; rw [show 0 + m * 9 + j = m * 9 + j by omega]; exact this) (fun j hj => by rw [bdL_len] at hj; rw [hz1]; have := (hth j hj).2; rw [show 0 + m * 9 + j = m * 9 + j by omega]; exact this)
 rw [hz1, Nat.zero_add] at hrun
 exact Lib.wpList_append_run W hgd s x 28 28 ho _ _ hs hx _ _ hrun (h (hown.put hn hm b))
theorem run_app_body {W : World} {B : Nat} {v : Value} {X : List Bd} (ty : TypeId) (hown : OwnRB W B v X) (ad : Nat) (b : Bd) (hc0 : W.rangeAt ad 0 (bdL b)) (hlen : X.length + 1 ≤ 1048576) (hbase : B ≤ W.heap.size) :
  ∃ v' w', (Builtin.append_ #[28, 28] ty #[v, .slice (some ⟨ad, 0, none⟩) 1 1]).run Tryz.prog W = .ok v' w' ∧ OwnRB w' B v' (X ++ [b]) ∧ Below B W w' ∧ W.grownBy w' v.ownBlock ∧ OwnTo W.heap.size v v' := by
 obtain ⟨i0, hi, hz0, hz1, hz2⟩ := info_parts info_BodyS
 have hcell : ∀ j u, (bdL b)[j]? = some u → W.cell? ((⟨ad, 0, none⟩ : Addr).add j) = some u := by
  intro j u hj
  rw [Addr.add_lit]
  exact hc0 j u hj
 obtain ⟨v', w', hr, hown', hgrow, -⟩ := run_append_own (P := Tryz.prog) W B 28 ty 100 i0 (.agg z9) 9 72 Tryz.underlying28 hi hz0 hz1 hz2 (by rfl) (by decide) v X.length (X.map bdL).flatten hown ⟨ad, 0, none⟩ 1 1 (bdL b) (by rfl) hcell (bdL_one b) (by unfold maxLen; omega) (by omega) hbase
 have ho2 : OwnRB w' B v' (X ++ [b]) := by unfold OwnRB; rw [List.length_append, List.map_append, List.flatten_append]; simpa using hown'
 refine ⟨v', w', hr, ho2, (Below.refl B W).grown hgrow hbase fun k hk => (World.ownsRow.lt hown k hk).1, hgrow, ?_⟩
 rcases hown.2 with ⟨rfl, h0⟩ | ⟨g, cap, cur, rfl, hB, hg, hn, hc, hcs, htk⟩
 ·have hX : X = [] := List.eq_nil_of_length_eq_zero h0
  subst hX
  obtain ⟨v2, w2, hr2, hown2, -⟩ := run_append_own (P := Tryz.prog) W W.heap.size 28 ty 100 i0 (.agg z9) 9 72 Tryz.underlying28 hi hz0 hz1 hz2 (by rfl) (by decide) (.slice none 0 0) 0 [] (World.ownsRow_nil W _ _ 9) ⟨ad, 0, none⟩ 1 1 (bdL b) (by rfl) hcell (bdL_one b) (by unfold maxLen; omega) (by omega) (Nat.le_refl _)
  rw [hr] at hr2
  obtain ⟨rfl, rfl⟩ := Result.ok.inj hr2
  intro g hgv
  exact .inr (World.ownsRow.lt hown2 g hgv).1
 ·by_cases hroom : X.length + 1 ≤ cap
  ·have hfit : X.length * i0.size + (bdL b).length ≤ cur.size := by rw [hz1, bdL_len, hcs]; omega
   have hr2 := run_append_room (P := Tryz.prog) W 28 ty 100 i0 Tryz.underlying28 hi g X.length cap cur hg ⟨ad, 0, none⟩ 1 1 (bdL b) (by rw [bdL_len, hz1]) hcell (bdL_one b) hroom hfit
   rw [hr] at hr2
   obtain ⟨rfl, -⟩ := Result.ok.inj hr2
   intro g' hgv
   exact .inl hgv
  ·have holds : ∀ j u, ((X.map bdL).flatten)[j]? = some u → W.cell? ((⟨g, 0, none⟩ : Addr).add j) = some u := World.ownsRow.cells hown (g := g) rfl
   have hr2 := run_append_grow (P := Tryz.prog) W 28 ty 100 i0 (.agg z9) Tryz.underlying28 hi hz0 ⟨g, 0, none⟩ X.length cap (X.map bdL).flatten (by rw [hz1]; exact flatL X) holds ⟨ad, 0, none⟩ 1 1 (bdL b) (by rw [hz1]; rfl) hcell (by omega) (by omega) (growslice_fits (by omega) (by rw [hz2]; omega))
   rw [hr] at hr2
   obtain ⟨rfl, -⟩ := Result.ok.inj hr2
   intro g' hgv
   right
   obtain rfl := Option.some.inj hgv
   exact Nat.le_refl _
theorem step_bodyT {ops : Array Oper} {o : Oper} {a : Act} {W : World} {K : Act → World → Prop} {Q : Exit → Act → World → Prop} {E : Prop} (hgd : o.guard = none) (s x : Operand)
  (ho : o.op = .call { callee := .builtin .append, args := #[s, x], argTypes := #[28, 28] })
  (B : Nat) (v : Value) (X : List Bd) (hs : a.eval s = v) (hown : OwnRB W B v X) (ad : Nat) (b : Bd) (hx : a.eval x = .slice (some ⟨ad, 0, none⟩) 1 1)
  (hc0 : W.rangeAt ad 0 (bdL b)) (hlen : X.length + 1 ≤ 1048576) (hbase : B ≤ W.heap.size)
  (h : ∀ v' w', OwnRB w' B v' (X ++ [b]) → Below B W w' → W.grownBy w' v.ownBlock → OwnTo W.heap.size v v' → K (a.put o.dst v') w') : if Region.wanted o (yielded ops a.tmps) = true then Oper.wp Tryz.prog o a W K Q else E := by
 rw [if_pos (by simp [Region.wanted, hgd])]
 obtain ⟨v', w', hr, h1, h2, h3, h4⟩ := run_app_body o.type hown ad b hc0 hlen hbase
 exact Lib.wp_append_run W s x 28 28 ho v _ hs hx v' w' hr (h v' w' h1 h2 h3 h4)
theorem OwnRB.heapAt {w : World} {T g n cap : Nat} {X : List Bd} (h : OwnRB w T (.slice (some ⟨g, 0, none⟩) n cap) X) {k : Nat} (hk : k < X.length) : ∃ cur, w.heap[g]? = some (.cells cur 100 (0, 0)) ∧ ∀ {W : World}, W.heap[g]? = some (.cells cur 100 (0, 0)) → W.rangeAt g (k * 9) (bdL X[k]) ∧ W.there g (k * 9) 9 := by
 have h0 := h
 rcases h.2 with ⟨e, -⟩ | ⟨g', cap', cur, e, hB, hg, rest⟩
 ·cases e
 ·have e2 := e
  simp only [Value.slice.injEq, Option.some.injEq, Addr.mk.injEq, and_true] at e2
  obtain ⟨rfl, -⟩ := e2
  refine ⟨cur, hg, fun {W} hW => ?_⟩
  have hO : OwnRB W T (.slice (some ⟨g, 0, none⟩) n cap) X := ⟨h0.1, .inr ⟨g, cap', cur, e, hB, hW, rest⟩⟩
  exact hO.body hk
theorem bx_push {w7 w8 w9 : World} {T p g n cap : Nat} {x : Wd} {vl vs v5 : Value} {X1 : List Bd} (h7 : BxW w7 T p x vl vs (.slice (some ⟨g, 0, none⟩) n cap)) (hb8 : Below w7.heap.size w7 w8) (hb9 : Below T w8 w9) (hg : w8.grownBy w9 (some g)) (ho : OwnRB w9 T v5 X1) (hto : OwnTo w8.heap.size (.slice (some ⟨g, 0, none⟩) n cap) v5) :
  BxW (w9.setCell ⟨p, 4, none⟩ v5) T p ⟨x.rows, x.tick, x.seed, x.scores, X1⟩ vl vs v5 ∧ FrW T p vs (.slice (some ⟨g, 0, none⟩) n cap) w7 (w9.setCell ⟨p, 4, none⟩ v5) ∧ OwnTo w7.heap.size (.slice (some ⟨g, 0, none⟩) n cap) v5 ∧ ∀ j, j < w7.heap.size → j ≠ g → w9.heap[j]? = w7.heap[j]? := by
 have hs8 := hb8.size
 have hT := Nat.le_of_lt h7.low
 have hF : ∀ j, j < w7.heap.size → j ≠ g → w9.heap[j]? = w7.heap[j]? := fun j hj hne => by
  rw [hg.block j (by omega) (fun e => hne (Option.some.inj e)), hb8.block j hj]
 have hpg : p ≠ g := fun e => h7.notP.2 (by rw [e]; rfl)
 have hB : Below T w7 w9 := (hb8.mono hT).trans hb9
 have hsc : OwnR w9 T vs x.scores := by
  refine World.ownsRow.kept (h7.2.2.2.1.keep hb8 (Nat.le_refl _)) hg ?_
  rcases hv : vs.ownBlock with _ | k
  ·exact .inl rfl
  ·right
   intro e
   rw [Option.some.injEq] at e
   subst e
   exact twoRows h7.2.2.2.1 h7.2.2.2.2 hv rfl
 refine ⟨h7.rows4 (hF p h7.lt hpg) hB hsc ho, ?_, fun k hk => ?_, hF⟩
 ·refine FrW.trans (vs1 := vs) (vb1 := .slice (some ⟨g, 0, none⟩) n cap) ⟨hB, fun j hj hp _ h4 => hF j hj (fun e => h4 (by rw [e]; rfl))⟩ (frP h7.2.1 _ _ 4 _) rfl (OwnTo.refl _ _)
 ·rcases hto k hk with h | h
  ·exact .inl h
  ·exact .inr (by omega)
end Go.Proofs.YtnlonkkbjkfkmaaGreatDoor
