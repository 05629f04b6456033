/-
  Texts of this proof: TkW1, TkW2, TkW3, TkW4, TkW5.
-/
import Derived.Test.YtdnnejohfhmliaaDoorM35
import Derived.Test.YtdnnejohfhmliaaDoorM07
import Derived.Test.YtdnnejohfhmliaaDoorM24
import Derived.Deep.Cut
import Derived.RegionTactic
import Derived.BigRegion
import Derived.Deep.CutBlock
import Derived.Test.YtdnnejohfhmliaaDoorM23
import Derived.Test.YtdnnejohfhmliaaDoorM15
import Derived.Deep.CutRange
import Derived.Deep.RegionLaw
namespace Go.Proofs.YtdnnejohfhmliaaDoor
open Go.RowKit
set_option linter.all false
def metI (o : Option Nat) : Int := match o with
  | none => -1
  | some v => v
theorem BxW.drew {w : World} {T p : Nat} {x : Wd} {vl vs vb : Value} (h : BxW w T p x vl vs vb) (n : Nat) : BxW (w.drewN n) T p x vl vs vb :=
  h.keep (belowDrew w n) (Nat.le_of_lt h.low)
theorem FrW.drew {T p : Nat} {vs vb : Value} {w w' : World} (h : FrW T p vs vb w w') (hT : T ≤ w.heap.size) (n : Nat) : FrW T p vs vb w (w'.drewN n) :=
  ⟨h.1.trans ((belowDrew w' n).mono (by have := h.1.size; omega)), fun j hj h1 h2 h3 => h.2 j hj h1 h2 h3⟩
def RetAw (w : World) (T p : Nat) (x : Wd) (vl vs vb : Value) (k : Nat) (e : Ending) (w' : World) : Prop :=
  e = .returned (.tuple #[]) ∧ BxW w' T p ⟨x.rows, x.tick, x.seed, awd x.scores k, x.bods⟩ vl vs vb ∧ FrW T p vs vb w w'
theorem getD_at {X : List Bd} {k : Nat} (hk : k < X.length) : X.getD k b00 = X[k] := by
  rw [List.getD_eq_getElem?_getD, List.getElem?_eq_getElem hk]; rfl
theorem take_at {X : List Bd} {n v : Nat} (hv : v < (X.take n).length) : v < X.length ∧ v < n ∧ (X.take n)[v] = X[v]'(by simp at hv; omega) := by
  refine ⟨by simp at hv; omega, by simp at hv; omega, ?_⟩
  rw [List.getElem_take]
theorem BxW.fld {w : World} {T p g n cap : Nat} {x : Wd} {vl vs : Value} (h : BxW w T p x vl vs (.slice (some ⟨g, 0, none⟩) n cap)) (hn : n = x.bods.length) {k i : Nat} (hk : k < x.bods.length) (hi : i < 9) (m : Int) :
    BxW (w.setCell ⟨g, k * 9 + i, none⟩ (.int .i64 m)) T p ⟨x.rows, x.tick, x.seed, x.scores, x.bods.set k ((x.bods.getD k b00).set i m)⟩ vl vs (.slice (some ⟨g, 0, none⟩) n cap) ∧ FrW T p vs (.slice (some ⟨g, 0, none⟩) n cap) w (w.setCell ⟨g, k * 9 + i, none⟩ (.int .i64 m)) := by
  have hTg := (World.ownsRow.lt h.2.2.2.2 g rfl).1
  have hb := (Below.refl T w).setCell (p := ⟨g, k * 9 + i, none⟩) hTg (.int .i64 m)
  have hf : ∀ j, j ≠ g → (w.setCell ⟨g, k * 9 + i, none⟩ (.int .i64 m)).heap[j]? = w.heap[j]? := fun j hj => Below.heap_setCell _ _ _ j (by show j ≠ g; exact hj)
  exact ⟨h.bods (by rw [List.length_set]) hb (h.2.2.2.2.field hn hk hi m) hf, frB hb hf⟩
theorem hurt_0 {q : Bd} (h : q.life - 1 = 0) : (((q.set 7 (q.life - 1)).set 4 0).set 5 0).set 8 20 = hurtB q := by
  obtain ⟨k, o, x, y, vx, vy, am, lf, tm⟩ := q
  unfold hurtB
  rw [if_pos h]
  show (⟨k, o, x, y, 0, 0, am, lf - 1, 20⟩ : Bd) = ⟨k, o, x, y, 0, 0, am, 0, 20⟩
  rw [show lf - 1 = 0 from h]
theorem hurt_1 {q : Bd} (h : ¬ q.life - 1 = 0) : q.set 7 (q.life - 1) = hurtB q := by
  obtain ⟨k, o, x, y, vx, vy, am, lf, tm⟩ := q
  unfold hurtB
  rw [if_neg h]
  rfl
theorem bxOf {w : World} {T p : Nat} {x y : Wd} {vl vs vb : Value} (h : BxW w T p x vl vs vb) (e : x = y) : BxW w T p y vl vs vb := e ▸ h
end Go.Proofs.YtdnnejohfhmliaaDoor
namespace Go.Proofs.YtdnnejohfhmliaaDoor
open Go.RowKit
set_option linter.all false
theorem putB_heapT {w : World} {c : Nat} {cs : Array Value} {T : TypeId} (h : w.heap[c]? = some (.cells cs T (0, 0))) (hn : cs.size = 9) (b : Bd) (x y vx vy : Int) : (putB w c b x y vx vy).heap[c]? = some (.cells (bmv b x y vx vy) T (0, 0)) := by
  obtain ⟨l⟩ := cs
  match l, hn with
  | [a0, a1, a2, a3, a4, a5, a6, a7, a8], _ =>
    have h0 := setH (k := 0) (v := .int .i64 b.kind) h
    have h1 := setH (k := 1) (v := .int .i64 b.owner) h0
    have h2 := setH (k := 2) (v := .int .i64 x) h1
    have h3 := setH (k := 3) (v := .int .i64 y) h2
    have h4 := setH (k := 4) (v := .int .i64 vx) h3
    have h5 := setH (k := 5) (v := .int .i64 vy) h4
    have h6 := setH (k := 6) (v := .int .i64 b.aim) h5
    have h7 := setH (k := 7) (v := .int .i64 b.life) h6
    have h8 := setH (k := 8) (v := .int .i64 b.timer) h7
    exact h8
end Go.Proofs.YtdnnejohfhmliaaDoor
namespace Go.Proofs.YtdnnejohfhmliaaDoor
open Go.RowKit
set_option linter.all false
theorem bd_elem : Tryd.prog.elem 28 = 36 := by kernel_rfl
theorem bd_type : Tryd.prog.underlying 28 = some (.slice (Tryd.prog.elem 28)) := by rw [bd_elem]; exact Tryd.underlying28
theorem bd_sz (W : World) : (sizeOf (Tryd.prog.elem 28)).run Tryd.prog W = .ok 9 W := by
  obtain ⟨i0, hi, hz0, hz1, hz2⟩ := info_parts info_BodyS
  rw [bd_elem]; simp [sizeOf, typeInfo, hi, hz1]
theorem bd_low (W : World) (b off n cap k : Nat) (hk : k ≤ cap) : (Instr.slice 28 (.slice (some ⟨b, off, none⟩) n cap) none (some (.int .i64 (k : Int))) none).run Tryd.prog W = .ok (.slice (some ⟨b, off, none⟩) k cap) W := by
  rw [run_slice_h (P := Tryd.prog) (w := W) 28 (some ⟨b, off, none⟩) n cap bd_type .i64 (k : Int) (by omega) (by omega), bd_sz]
  simp only [Result.andThen, sliced, Int.toNat_natCast]
  split
  · simp [Addr.add]
  · simp [Addr.add]
theorem flat_take : ∀ (X : List Bd) (m : Nat), ((X.take m).map bdL).flatten = ((X.map bdL).flatten).take (m * 9)
  | [], m => by simp
  | b :: l, 0 => by simp
  | b :: l, m + 1 => by
    rw [List.take_succ_cons, List.map_cons, List.flatten_cons, List.map_cons, List.flatten_cons, flat_take l m, List.take_append, bdL_len]
    rw [List.take_of_length_le (l := bdL b) (by rw [bdL_len]; omega), show (m + 1) * 9 - 9 = m * 9 by omega]
theorem OwnRB.cut {w : World} {T g n cap : Nat} {X : List Bd} (h : OwnRB w T (.slice (some ⟨g, 0, none⟩) n cap) X) {m : Nat} (hm : m ≤ X.length) : OwnRB w T (.slice (some ⟨g, 0, none⟩) m cap) (X.take m) := by
  have hl : (X.take m).length = m := by rw [List.length_take]; omega
  unfold OwnRB
  rw [hl]
  refine ⟨by rw [flatL, hl], ?_⟩
  rcases h.2 with ⟨e, -⟩ | ⟨g', cap', cur, e, hB, hg, hn, hc, hcs, htk⟩
  · cases e
  · simp only [Value.slice.injEq, Option.some.injEq, Addr.mk.injEq, and_true] at e
    obtain ⟨rfl, h1, rfl⟩ := e
    refine .inr ⟨g, cap, cur, rfl, hB, hg, by omega, hc, hcs, ?_⟩
    rw [flat_take, ← htk, List.take_take, Nat.min_eq_left (by omega)]
end Go.Proofs.YtdnnejohfhmliaaDoor
namespace Go.Proofs.YtdnnejohfhmliaaDoor
open Go.RowKit
set_option linter.all false
theorem pass_none {kind : Int} {b : Bd} {l : List Bd} {q : PtS} (h : act1 kind b q = none) : pass kind (b :: l) q = ((pass kind l q).1, b :: (pass kind l q).2) := by rw [pass, h]
theorem pass_some {kind : Int} {b : Bd} {l : List Bd} {q q' : PtS} (h : act1 kind b q = some q') : pass kind (b :: l) q = pass kind l q' := by rw [pass, h]
section
variable {w : World} {T p : Nat} {x : Wd} {vl vs : Value} {g N cap n : Nat} {kind : Int} {k m : Nat} {wr w2 : World}
end
theorem act_off {kind : Int} {c : Bd} {q : PtS} (h : ¬ c.kind = kind) : act1 kind c q = none := by unfold act1; rw [if_neg h]
theorem fine_life {L : Rowz} {n : Nat} {bs : List Bd} (h : Fine L n bs) : ∀ k (hk : k < bs.length), 0 < bs[k].life → bs[k].life ≤ 3 := by
  intro k hk _
  obtain ⟨f1, -, -⟩ := h.2.2 k hk
  obtain ⟨p0, -, -, -, -, p5⟩ := fit_parts f1
  rcases kind3 p0 with e | e | e
  · exact (kind0_facts e p5).2.2.1
  · have := (kind1_facts e p5).2.1; omega
  · rw [kind_2 e] at p5
    simp only [Bool.and_eq_true, decide_eq_true_eq] at p5
    omega
theorem fine_owner {L : Rowz} {n : Nat} {b : Bd} (h : fitB L (n : Int) b = true) : ∃ o : Nat, b.owner = (o : Int) ∧ o < n := by
  obtain ⟨-, p1, -⟩ := fit_parts h
  rw [inR_iff] at p1
  exact ⟨b.owner.toNat, by omega, by omega⟩
end Go.Proofs.YtdnnejohfhmliaaDoor
namespace Go.Proofs.YtdnnejohfhmliaaDoor
open Go.RowKit
set_option linter.all false
def stX (x : Wd) (row : List Int) (k : Nat) : Wd := ⟨x.rows, x.tick, x.seed, x.scores, stN x.rows row x.bods k⟩
def StR (w : World) (T p : Nat) (x : Wd) (row : List Int) (vl vs vb : Value) (k : Nat) (wr : World) : Prop := ∃ vb', BxW wr T p (stX x row k) vl vs vb' ∧ FrW T p vs vb w wr ∧ OwnTo w.heap.size vb vb'
theorem fit_place {L : Rowz} (hg : Good L) {n : Int} {b : Bd} (h : fitB L n b = true) (hk : b.kind = 0) : I64 b.x ∧ (-9223372036854775808 ≤ b.y ∧ b.y ≤ 1000) := by
  obtain ⟨-, -, p2, -⟩ := fit_parts h
  rw [hk] at p2
  obtain ⟨x0, x1, y0, y1⟩ := blockB_place hg (S := 12) p2
  exact ⟨⟨by omega, by omega⟩, by omega, by omega⟩
end Go.Proofs.YtdnnejohfhmliaaDoor
