/-
  Texts of this proof: Fault.
-/
import Derived.Test.YtnlonkkbjkfkmaaGreatDoorM01
import Derived.Test.YtnlonkkbjkfkmaaGreatDoorM02
import Derived.Lib.SmallJoins
import Derived.Deep.RegionHeld3
namespace Go.Proofs.YtnlonkkbjkfkmaaGreatDoor
open Go.RowKit Go.Joins Go.ChangeShapes Go.WideShapes Go.Deep
set_option linter.all false
structure Ft where
 tick : Int
 player : Int
 add : Int
def ftV (f : Ft) : Value := .agg #[.int .i64 f.tick, .int .i64 f.player, .int .i64 f.add]
def Ft.fits (f : Ft) : Prop := (Lit.int .i64 f.tick).wf = true ∧ (Lit.int .i64 f.player).wf = true ∧ (Lit.int .i64 f.add).wf = true
def faultB (f : Ft) (n : Int) : Bool := inR f.tick 0 400 && (inR f.player 0 (n - 1) && inR f.add 0 9)
theorem faultB_tick {f : Ft} {n : Int} (h : inR f.tick 0 400 = false) : faultB f n = false := by unfold faultB; rw [h]; rfl
theorem faultB_player {f : Ft} {n : Int} (h : inR f.player 0 (n - 1) = false) : faultB f n = false := by unfold faultB; rw [h]; simp
theorem inR_no {n lo hi : Int} (h : ¬ (lo ≤ n ∧ n ≤ hi)) : inR n lo hi = false := by
 cases e : inR n lo hi with
 | false => rfl
 | true => exact absurd ((inR_iff _ _ _).1 e) h
theorem inR_yes {n lo hi : Int} (h : lo ≤ n ∧ n ≤ hi) : inR n lo hi = true := (inR_iff _ _ _).2 h
theorem toFault_any (f : Ft) (w : World) : Calls Tryz.prog 25 #[ftV f] w fun e w' => e = .returned (ftV f) ∧ Below w.heap.size w w' := by
 unfold ftV
 go_enter Tryz.func25, Tryz.ntmps25
 go_wp2_with (fail)
 refine bodyPost_ret (results_cell_row rfl _ _ (w.heap.size + 1) 53 #[.int .i64 f.tick, .int .i64 f.player, .int .i64 f.add] (0, 0) ?d ?hp ?hg ?hu ?hd ?hi) rfl ?_
 case hp => rfl
 case hg => rw [heap_alloc_old _ _ (by simp)]; exact heap_at _ _ (by simp)
 case hu => exact Tryz.underlying53
 case hd => rfl
 case hi => kernel_rfl
 exact ⟨rfl, (below2 _ _ _).alloc (by simp; omega) _⟩
set_option maxHeartbeats 1000000 in
theorem faultOk_impl (f : Ft) (n : Int) (w : World) : Calls Tryz.prog 80 #[ftV f, .int .i64 n] w fun e w' => e = .returned (.bool (faultB f n)) ∧ Below w.heap.size w w' := by
 unfold ftV
 go_enter Tryz.func80, Tryz.ntmps80
 go_wp2_with (fail)
 refine (within_impl _ _ _ _).mono ?_
 rintro e w1 ⟨rfl, rfl⟩
 cases q1 : inR f.tick 0 400 with
 | false =>
  have HF := Lib.hid (faultB_tick (n := n) q1)
  clear q1
  go_wp2_with (fail)
  go_ret
  exact ⟨by rw [HF.out]; rfl, below1 _ _⟩
 | true =>
  have Q1 := Lib.hid q1
  clear q1
  by_cases p1 : 0 ≤ f.player
  ·have z1 : decide (0 ≤ f.player) = true := by simpa using p1
   by_cases p2 : f.player < n
   ·have z2 : decide (f.player < n) = true := by simpa using p2
    have Q2 := Lib.hid (inR_yes (n := f.player) (lo := 0) (hi := n - 1) ⟨p1, by omega⟩)
    go_wp2_with (fail)
    refine (within_impl _ _ _ _).mono ?_
    rintro e w1 ⟨rfl, rfl⟩
    have HF : Hid (inR f.add 0 9 = faultB f n) := Lib.hid (by unfold faultB; rw [Q1.out, Q2.out]; rfl)
    go_wp2_with (fail)
    go_ret
    exact ⟨by rw [HF.out]; rfl, below1 _ _⟩
   ·have z2 : decide (f.player < n) = false := by simpa using p2
    have HF := Lib.hid (faultB_player (f := f) (inR_no (n := f.player) (lo := 0) (hi := n - 1) (by omega)))
    go_wp2_with (fail)
    go_ret
    exact ⟨by rw [HF.out]; rfl, below1 _ _⟩
  ·have z1 : decide (0 ≤ f.player) = false := by simpa using p1
   have HF := Lib.hid (faultB_player (f := f) (inR_no (n := f.player) (lo := 0) (hi := n - 1) (by omega)))
   go_wp2_with (fail)
   go_ret
   exact ⟨by rw [HF.out]; rfl, below1 _ _⟩
set_option maxHeartbeats 1000000 in
theorem faultOk_spec (f : Ft) (n : Int) (w : World) (hn : n ≤ 9223372036854775807) : Calls Tryz.prog 78 #[ftV f, .int .i64 n] w fun e w' => e = .returned (.bool (faultB f n)) ∧ Below w.heap.size w w' := by
 unfold ftV
 by_cases p0 : 0 < n
 ·have z0 : decide (0 < n) = true := by simpa using p0
  go_enter Tryz.func78, Tryz.ntmps78
  go_wp2_with (fail)
  refine (in_spec _ _ _ _).mono ?_
  rintro e w1 ⟨rfl, rfl⟩
  cases q1 : inR f.tick 0 400 with
  | false =>
   have HF := Lib.hid (faultB_tick (n := n) q1)
   clear q1
   go_wp2_with (fail)
   go_ret
   exact ⟨by rw [HF.out]; rfl, below1 _ _⟩
  | true =>
   have Q1 := Lib.hid q1
   clear q1
   go_wp2_with (fail)
   refine (in_spec _ _ _ _).mono ?_
   rintro e w1 ⟨rfl, rfl⟩
   cases q2 : inR f.player 0 (n - 1) with
   | false =>
    have HF := Lib.hid (faultB_player q2)
    clear q2
    go_wp2_with (fail)
    go_ret
    exact ⟨by rw [HF.out]; rfl, below1 _ _⟩
   | true =>
    have Q2 := Lib.hid q2
    clear q2
    go_wp2_with (fail)
    refine (in_spec _ _ _ _).mono ?_
    rintro e w1 ⟨rfl, rfl⟩
    have HF : Hid (inR f.add 0 9 = faultB f n) := Lib.hid (by unfold faultB; rw [Q1.out, Q2.out]; rfl)
    go_wp2_with (fail)
    go_ret
    exact ⟨by rw [HF.out]; rfl, below1 _ _⟩
 ·have z0 : decide (0 < n) = false := by simpa using p0
  have HF := Lib.hid (faultB_player (f := f) (inR_no (n := f.player) (lo := 0) (hi := n - 1) (by omega)))
  go_enter Tryz.func78, Tryz.ntmps78
  go_wp2_with (fail)
  go_ret
  exact ⟨by rw [HF.out]; rfl, below1 _ _⟩
end Go.Proofs.YtnlonkkbjkfkmaaGreatDoor
