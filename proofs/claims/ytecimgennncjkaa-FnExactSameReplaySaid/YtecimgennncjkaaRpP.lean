/-
  Replays in plain lists: what ReplayOk asks. No walk of the program.
-/
import Derived.Test.YtecimgennncjkaaCol
import Derived.Test.YtecimgennncjkaaLvM
import Derived.Test.YtecimgennncjkaaOpenL
namespace Go.Proofs.Ytecimgennncjkaa
open Go.RowKit
set_option linter.all false
structure Rp where
  lv : Rowz
  players : Int
  seed : Int
  every : Int
  rows : Rowi
  keys : Rowz
/-- There is a key for each 'every' rows. -/
def keysB (x : Rp) : Bool := decide ((x.keys.length : Int) = (x.rows.length : Int) / x.every)
def replayB (x : Rp) : Bool := levelB x.lv && (inR x.players 1 4 && (inR x.seed 0 65535 && (inR x.every 1 100 && (decide (x.rows.length ≤ 400) && (rowsB x.players x.rows && keysB x)))))
section
variable {x : Rp}
theorem rp_l (h : levelB x.lv = false) : replayB x = false := by unfold replayB; rw [h]; rfl
theorem rp_p (h : inR x.players 1 4 = false) : replayB x = false := by unfold replayB; rw [h]; simp
theorem rp_s (h : inR x.seed 0 65535 = false) : replayB x = false := by unfold replayB; rw [h]; simp
theorem rp_e (h : inR x.every 1 100 = false) : replayB x = false := by unfold replayB; rw [h]; simp
theorem rp_n (h : ¬ x.rows.length ≤ 400) : replayB x = false := by unfold replayB; rw [decide_eq_false h]; simp
theorem rp_r (h : rowsB x.players x.rows = false) : replayB x = false := by unfold replayB; rw [h]; simp
theorem rp_k (h1 : levelB x.lv = true) (h2 : inR x.players 1 4 = true) (h3 : inR x.seed 0 65535 = true) (h4 : inR x.every 1 100 = true) (h5 : x.rows.length ≤ 400) (h6 : rowsB x.players x.rows = true) : replayB x = keysB x := by unfold replayB; rw [h1, h2, h3, h4, decide_eq_true h5, h6]; rfl
theorem rp_facts (h : replayB x = true) : levelB x.lv = true ∧ inR x.players 1 4 = true ∧ inR x.seed 0 65535 = true ∧ inR x.every 1 100 = true ∧ x.rows.length ≤ 400 ∧ rowsB x.players x.rows = true ∧ keysB x = true := by
  unfold replayB at h
  simp only [Bool.and_eq_true, decide_eq_true_eq] at h
  exact h
end
/-- No string, list or number that cannot be. -/
def Rp.sane (x : Rp) : Prop := Sane x.lv ∧ SaneR x.rows ∧ Sane x.keys
def Rp.few (x : Rp) : Prop := x.lv.length ≤ 1048576 ∧ (x.rows.length ≤ 1048576 ∧ ∀ y ∈ x.rows, y.length ≤ 1048576) ∧ x.keys.length ≤ 1048576
/-- A replay's cells, its three lists' slices given. -/
def rpC (x : Rp) (vl vs vb : Value) : Array Value := #[vl, .int .i64 x.players, .int .i64 x.seed, .int .i64 x.every, vs, vb]
/-- The three slices read as the replay's lists. -/
def RdRp (w : World) (x : Rp) (vl vs vb : Value) : Prop := RdS w vl x.lv ∧ RdR w vs x.rows ∧ RdS w vb x.keys
theorem RdRp.keep {w w' : World} {x : Rp} {vl vs vb : Value} (h : RdRp w x vl vs vb) (hb : Below w.heap.size w w') : RdRp w' x vl vs vb := ⟨h.1.keep hb, h.2.1.keep hb, h.2.2.keep hb⟩
end Go.Proofs.Ytecimgennncjkaa
