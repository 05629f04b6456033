/-
  Texts of this proof: SolidA, Slide, Reg.
-/
import Derived.Test.YtdnnejohfhmliaaDoorM14
import Derived.Test.YtdnnejohfhmliaaDoorM08
import Derived.Test.YtdnnejohfhmliaaDoorM00
import Derived.Deep.RegionHeld3
namespace Go.Proofs.YtdnnejohfhmliaaDoor
open Go.RowKit
set_option linter.all false
def I64 (x : Int) : Prop := -9223372036854775808 ≤ x ∧ x ≤ 9223372036854775807
theorem I64.of {x : Int} (h : (Lit.int .i64 x).wf = true) : I64 x := by
  simp only [Lit.wf, Bool.and_eq_true, decide_eq_true_eq] at h
  exact ⟨h.1, h.2⟩
end Go.Proofs.YtdnnejohfhmliaaDoor
namespace Go.Proofs.YtdnnejohfhmliaaDoor
open Go.RowKit
set_option linter.all false
def slideN (L : Rowz) (S dx dy : Int) : Nat → Int → Int → Int × Int × Bool
  | 0, x, y => (x, y, false)
  | n + 1, x, y => if blockB L (x + dx) (y + dy) S then (x, y, true) else slideN L S dx dy n (x + dx) (y + dy)
def bmv (b : Bd) (x y vx vy : Int) : Array Value := #[.int .i64 b.kind, .int .i64 b.owner, .int .i64 x, .int .i64 y, .int .i64 vx, .int .i64 vy, .int .i64 b.aim, .int .i64 b.life, .int .i64 b.timer]
def bd0 : Array Value := #[.int .i64 0, .int .i64 0, .int .i64 0, .int .i64 0, .int .i64 0, .int .i64 0, .int .i64 0, .int .i64 0, .int .i64 0]
theorem blockB_place {L : Rowz} (hg : Good L) {x y : Int} {S : Nat} (h : blockB L x y (S : Int) = false) : 0 ≤ x ∧ x < 320 ∧ 0 ≤ y ∧ y < 192 := by
  have h0 : 0 ≤ x := by
    apply Classical.byContradiction; intro hn
    rw [blockB_neg (.inl (by omega))] at h; cases h
  have h1 : 0 ≤ y := by
    apply Classical.byContradiction; intro hn
    rw [blockB_neg (.inr (by omega))] at h; cases h
  obtain ⟨X, rfl⟩ := Int.eq_ofNat_of_zero_le h0
  obtain ⟨Y, rfl⟩ := Int.eq_ofNat_of_zero_le h1
  rw [blockB_nat] at h
  obtain ⟨hn3, hn12, hw4, hw20, -⟩ := hg
  have hc : cellN L (Y / 16) (X / 16) = false := by
    cases e : cellN L (Y / 16) (X / 16) with
    | false => rfl
    | true => rw [blockN_hit (.inl rfl) (.inl rfl) e] at h; cases h
  have hr : Y / 16 < L.length := by
    apply Classical.byContradiction; intro hn
    rw [cellN_out (.inl (by omega))] at hc; cases hc
  have hw : X / 16 < wd L := by
    apply Classical.byContradiction; intro hn
    rw [cellN_out (.inr (by omega))] at hc; cases hc
  omega
theorem load_bd {W : World} {k : Nat} {xs : Array Value} (h : W.heap[k]? = some (.cells xs 36 (0, 0))) (hn : xs.size = 9) : (loadVar 36 ⟨k, 0, none⟩).run Tryd.prog W = .ok (.agg xs) W :=
  run_loadVar_row W _ _ _ _ _ _ h Tryd.underlying36 rfl (by rw [hn]; kernel_rfl)
theorem setH {w : World} {c k : Nat} {v : Value} {l : List Value} {T : TypeId} (h : w.heap[c]? = some (.cells ⟨l⟩ T (0, 0))) : (w.setCell ⟨c, k, none⟩ v).heap[c]? = some (.cells ⟨l.set k v⟩ T (0, 0)) := by
  rw [setHeap h]; simp
def putB (w : World) (c : Nat) (b : Bd) (x y vx vy : Int) : World := ((((((((w.setCell ⟨c, 0, none⟩ (.int .i64 b.kind)).setCell ⟨c, 1, none⟩ (.int .i64 b.owner)).setCell ⟨c, 2, none⟩ (.int .i64 x)).setCell ⟨c, 3, none⟩ (.int .i64 y)).setCell ⟨c, 4, none⟩ (.int .i64 vx)).setCell ⟨c, 5, none⟩ (.int .i64 vy)).setCell ⟨c, 6, none⟩ (.int .i64 b.aim)).setCell ⟨c, 7, none⟩ (.int .i64 b.life)).setCell ⟨c, 8, none⟩ (.int .i64 b.timer)
set_option maxHeartbeats 1000000 in
theorem putB_heap {w : World} {c : Nat} {cs : Array Value} (h : w.heap[c]? = some (.cells cs 36 (0, 0))) (hn : cs.size = 9) (b : Bd) (x y vx vy : Int) : (putB w c b x y vx vy).heap[c]? = some (.cells (bmv b x y vx vy) 36 (0, 0)) := by
  obtain ⟨l⟩ := cs
  match l, hn with
  | [a0, a1, a2, a3, a4, a5, a6, a7, a8], _ =>
    have h0 := setH (k := 0) (v := .int .i64 b.kind) h
    have h1 := setH (k := 1) (v := .int .i64 b.owner) h0
    have h2 := setH (k := 2) (v := .int .i64 x) h1
    have h3 := setH (k := 3) (v := .int .i64 y) h2
    have h4 := setH (k := 4) (v := .int .i64 vx) h3
    have h5 := setH (k := 5) (v := .int .i64 vy) h4
    have h6 := setH (k := 6) (v := .int .i64 b.aim) h5
    have h7 := setH (k := 7) (v := .int .i64 b.life) h6
    have h8 := setH (k := 8) (v := .int .i64 b.timer) h7
    unfold putB bmv
    rw [h8]
    simp only [List.set]
theorem putB_far {w : World} {c k : Nat} {o : Obj} (h : w.heap[k]? = some o) (hk : k ≠ c) (b : Bd) (x y vx vy : Int) : (putB w c b x y vx vy).heap[k]? = some o := by
  unfold putB
  exact farHeap (farHeap (farHeap (farHeap (farHeap (farHeap (farHeap (farHeap (farHeap h hk _) hk _) hk _) hk _) hk _) hk _) hk _) hk _) hk _
theorem putB_below {B : Nat} {w0 w : World} {c : Nat} (h : Below B w0 w) (hc : B ≤ c) (b : Bd) (x y vx vy : Int) : Below B w0 (putB w c b x y vx vy) := by
  unfold putB
  exact ((((((((h.setCell (p := ⟨c, 0, none⟩) hc _).setCell (p := ⟨c, 1, none⟩) hc _).setCell (p := ⟨c, 2, none⟩) hc _).setCell (p := ⟨c, 3, none⟩) hc _).setCell (p := ⟨c, 4, none⟩) hc _).setCell (p := ⟨c, 5, none⟩) hc _).setCell (p := ⟨c, 6, none⟩) hc _).setCell (p := ⟨c, 7, none⟩) hc _).setCell (p := ⟨c, 8, none⟩) hc _
end Go.Proofs.YtdnnejohfhmliaaDoor
namespace Go.Proofs.YtdnnejohfhmliaaDoor
open Go.RowKit
set_option linter.all false
theorem wanted_off {ops : Array Oper} {tmps : Array Value} {o : Oper} {k d : Nat} {b c : Bool} (hg : o.guard = some (k, b)) (hd : (ops[k]?).bind (·.dst) = some d) (hv : tmps[d]? = some (.bool c)) (hbc : (c == b) = false) : Region.wanted o (yielded ops tmps) = false := by
  have h1 : yielded ops tmps k = some c := by unfold yielded; rw [hd]; simp [hv]
  unfold Region.wanted; rw [hg]; simp [h1]; simpa using hbc
theorem wanted_on {ops : Array Oper} {tmps : Array Value} {o : Oper} {k d : Nat} {b : Bool} (hg : o.guard = some (k, b)) (hd : (ops[k]?).bind (·.dst) = some d) (hv : tmps[d]? = some (.bool b)) : Region.wanted o (yielded ops tmps) = true := by
  have h1 : yielded ops tmps k = some b := by unfold yielded; rw [hd]; simp [hv]
  unfold Region.wanted; rw [hg]; simp [h1]
section
variable {P : Program} {ops : Array Oper} {Q : Exit → Act → World → Prop} {md : Region.Mode} {S : World → Prop}
theorem take_on {i : Nat} {oi : Oper} {v : Value} {fuel : Nat} {listed : Array Bool} {a : Act} {w : World} (d : Option Tmp) (hi : ops[i]? = some oi)
    (hs : Region.noSelect ops = true) (hf : Region.free md ops listed i = true) (hr : (Region.ready md ops listed).contains i = true) (hd : oi.dst = d)
    (hQ : ∀ c a w, Q (.panic c) (a.put d v) w → Q (.panic c) a w) (hw : Region.wanted oi (yielded ops a.tmps) = true) (hy : ∀ w, S w → (execOp a.eval oi).run P w = .ok (.value v) w) (hS : S w)
    (h : wpAnyH P md ops Q S fuel (listed.setIfInBounds i true) (a.put d v) w) : wpAnyH P md ops Q S (fuel + 1) listed a w := by
  subst hd; exact wpAnyH_take hi hs hf hr hQ (.inl ⟨hw, hy⟩) hS h
theorem take_off {i : Nat} {oi : Oper} {fuel : Nat} {listed : Array Bool} {a : Act} {w : World} (d : Option Tmp) (hi : ops[i]? = some oi)
    (hs : Region.noSelect ops = true) (hf : Region.free md ops listed i = true) (hr : (Region.ready md ops listed).contains i = true) (hd : oi.dst = d)
    (hQ : ∀ c a w, Q (.panic c) (a.put d undef) w → Q (.panic c) a w) (hw : Region.wanted oi (yielded ops a.tmps) = false) (hS : S w)
    (h : wpAnyH P md ops Q S fuel (listed.setIfInBounds i true) (a.put d undef) w) : wpAnyH P md ops Q S (fuel + 1) listed a w := by
  subst hd; exact wpAnyH_take hi hs hf hr hQ (.inr ⟨hw, rfl⟩) hS h
end
end Go.Proofs.YtdnnejohfhmliaaDoor
