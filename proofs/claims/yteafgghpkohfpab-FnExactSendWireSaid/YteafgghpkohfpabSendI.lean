/-
  The steps of the program's SendWire on the wire's own box. No condition but the ranges.
-/
import Derived.Test.YteafgghpkohfpabSendP
import Derived.Test.YteafgghpkohfpabCpy5
import Derived.Deep.RegionLaw
import Derived.BigQuiet
namespace Go.Proofs.Yteafgghpkohfpab
open Go.RowKit
set_option linter.all false
theorem GrowFl.notBox {W : World} {B p : Nat} {v : Value} {X : List Fl} {cs : Array Value} {T : TypeId} {fz : Nat × Nat} (h : GrowFl W B v X) (hp : W.heap[p]? = some (.cells cs T fz)) (hT : T ≠ 101) : v.ownBlock ≠ some p := by
  rcases h.2 with ⟨rfl, -⟩ | ⟨g, cap, cur, rfl, -, hg, -⟩
  · intro e; cases e
  · intro e
    obtain rfl := Option.some.inj e
    rw [show W.heap[g]? = some (.cells cur 101 (0, 0)) from hg] at hp
    have := Obj.cells.inj (Option.some.inj hp)
    exact hT this.2.1.symm
theorem GrowFl.aside {W : World} {B : Nat} {v : Value} {X : List Fl} (h : GrowFl W B v X) {p : Addr} (hne : v.ownBlock ≠ some p.block) (u : Value) : GrowFl (W.setCell p u) B v X :=
  ownsRow_setCell_other h hne u
theorem GrowFl.drewN {W : World} {B : Nat} {v : Value} {X : List Fl} (h : GrowFl W B v X) (n : Nat) : GrowFl (W.drewN n) B v X := h
/-- The wire's box at p, its flights' row the call's own from B on. -/
def BoxW (W : World) (B p : Nat) (x : Wi) (v : Value) : Prop := W.heap[p]? = some (.cells (wiC x v) 52 (0, 0)) ∧ GrowFl W B v x.fls ∧ B ≤ p
theorem wire_ne_flight : (52 : TypeId) ≠ 101 := by decide
theorem BoxW.ne {W : World} {B p : Nat} {x : Wi} {v : Value} (h : BoxW W B p x v) : v.ownBlock ≠ some p := h.2.1.notBox h.1 wire_ne_flight
/-- One field of the box is stored anew. -/
theorem BoxW.set {W : World} {B p : Nat} {x y : Wi} {v : Value} (h : BoxW W B p x v) (k : Nat) (u : Value) (hk : ((wiC x v).toList.set k u).toArray = wiC y v) (hf : y.fls = x.fls) : BoxW (W.setCell ⟨p, k, none⟩ u) B p y v := by
  refine ⟨?_, ?_, h.2.2⟩
  · rw [setHeap h.1, show (wiC x v).setIfInBounds k u = wiC y v by rw [← hk, ← Array.toList_setIfInBounds]]
  · rw [hf]; exact h.2.1.aside h.ne u
theorem BoxW.drewN {W : World} {B p : Nat} {x : Wi} {v : Value} (h : BoxW W B p x v) (n : Nat) : BoxW (W.drewN n) B p x v := h
def RetBox (W : World) (B p : Nat) (y : Wi) (r : Value) (e : Ending) (w' : World) : Prop := ∃ v, e = .returned r ∧ BoxW w' B p y v ∧ Below B W w'
def RetBox0 (W : World) (B p : Nat) (y : Wi) (e : Ending) (w' : World) : Prop := ∃ v r, e = .returned r ∧ BoxW w' B p y v ∧ Below B W w'
set_option maxHeartbeats 2000000 in
theorem happens_any {W : World} {B p : Nat} {x : Wi} {v : Value} (h : BoxW W B p x v) (q : Int) :
    Calls Try.prog 65 #[.pointer (some ⟨p, 0, none⟩), .int .i64 q] W (RetBox W B p (x.seeded (chanceR x.seed q).1) (.bool (chanceR x.seed q).2)) := by
  have hC := fun W => chance_impl x.seed q W
  have h2 := fun n => (h.drewN n).set (y := x.seeded (chanceR x.seed q).1) 0 (.int .i64 (chanceR x.seed q).1) rfl rfl
  have hb := fun n => (below_drewN (Below.refl B W) n).setCell (p := ⟨p, 0, none⟩) h.2.2 (.int .i64 (chanceR x.seed q).1)
  generalize chanceR x.seed q = r at *
  have H2 := Lib.hid h2
  have HB := Lib.hid hb
  have hA := h.1
  unfold wiC at hA
  have cA := rowCells hA
  have fA := fun j => frozenHeap hA j
  clear h2 hb h
  go_enter Try.func65, Try.ntmps65
  go_wp2_with (fail)
  refine (hC _).mono ?_
  rintro e w1 ⟨rfl, n1, rfl⟩
  go_wp2_with (fail)
  go_ret
  exact ⟨v, rfl, H2.out n1, HB.out n1⟩
set_option maxHeartbeats 2000000 in
theorem lose_any {W : World} {B p : Nat} {x : Wi} {v : Value} (h : BoxW W B p x v) (hl : 0 ≤ x.lost ∧ x.lost ≤ 1000000) :
    Calls Try.prog 66 #[.pointer (some ⟨p, 0, none⟩)] W (RetBox0 W B p (loseX x)) := by
  by_cases hm : x.lost < 1000000
  · have e6 : min (x.lost + 1) 1000000 = x.lost + 1 := Int.min_eq_left (by omega)
    have hy : loseX x = { x with lost := (x.lost + 1) } := by unfold loseX; rw [e6]
    rw [hy]
    have h2 := h.set (y := { x with lost := (x.lost + 1) }) 9 (.int .i64 (x.lost + 1)) rfl rfl
    have hb := (Below.refl B W).setCell (p := ⟨p, 9, none⟩) h.2.2 (.int .i64 (x.lost + 1))
    have H2 := Lib.hid h2
    have HB := Lib.hid hb
    have hA := h.1
    unfold wiC at hA
    have cA := rowCells hA
    have fA := fun j => frozenHeap hA j
    clear h2 hb h hy
    go_enter Try.func66, Try.ntmps66
    go_wp2_with (fail)
    refine bodyPost_ret (v := .tuple #[]) (by simp [results, Try.results66]) rfl ⟨v, _, rfl, H2.out, HB.out⟩
  · have e6 : min (x.lost + 1) 1000000 = 1000000 := Int.min_eq_right (by omega)
    have hy : loseX x = { x with lost := 1000000 } := by unfold loseX; rw [e6]
    rw [hy]
    have h2 := h.set (y := { x with lost := 1000000 }) 9 (.int .i64 1000000) rfl rfl
    have hb := (Below.refl B W).setCell (p := ⟨p, 9, none⟩) h.2.2 (.int .i64 1000000)
    have H2 := Lib.hid h2
    have HB := Lib.hid hb
    have hA := h.1
    unfold wiC at hA
    have cA := rowCells hA
    have fA := fun j => frozenHeap hA j
    clear h2 hb h hy
    go_enter Try.func66, Try.ntmps66
    go_wp2_with (fail)
    refine bodyPost_ret (v := .tuple #[]) (by simp [results, Try.results66]) rfl ⟨v, _, rfl, H2.out, HB.out⟩
end Go.Proofs.Yteafgghpkohfpab
