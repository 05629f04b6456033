/-
  SendWire in plain lists. No walk of the program.
-/
import Derived.Test.YteafgghpkohfpabWok
import Derived.Test.YteafgghpkohfpabSpoil
namespace Go.Proofs.Yteafgghpkohfpab
open Go.RowKit
set_option linter.all false
def Wi.seeded (x : Wi) (s : Int) : Wi := { x with seed := s }
def loseX (x : Wi) : Wi := { x with lost := min (x.lost + 1) 1000000 }
/-- The three random steps of a flight: the seed behind them, its delay and its data. -/
def lchS (x : Wi) : Int := (belowR x.seed (x.jitter + 1)).1
def lchN (x : Wi) : Int := (belowR x.seed (x.jitter + 1)).2
def lchC (x : Wi) : Int × Bool := chanceR (lchS x) x.damage
def lchD (x : Wi) (d : List UInt8) : Int × List UInt8 := if (lchC x).2 = true then spoilR (lchC x).1 d else ((lchC x).1, d)
def launchX (x : Wi) (d : List UInt8) : Wi :=
  if x.fls.length = 200 then loseX (x.seeded (lchD x d).1) else { x with seed := (lchD x d).1, fls := x.fls ++ [⟨x.now + x.delay + lchN x, (lchD x d).2⟩] }
def sentX (x : Wi) : Wi := { x with sent := min (x.sent + 1) 1000000 }
def s1X (x : Wi) : Wi := (sentX x).seeded (chanceR x.seed x.loss).1
def s2X (x : Wi) : Wi := (s1X x).seeded (chanceR (chanceR x.seed x.loss).1 x.copies).1
def sendOk (x : Wi) (d : List UInt8) : Bool := wireB x && inR (d.length : Int) 1 4096
def sendX (x : Wi) (d : List UInt8) : Wi :=
  if sendOk x d = true then
    if (chanceR x.seed x.loss).2 = true then loseX (s1X x)
    else if (chanceR (chanceR x.seed x.loss).1 x.copies).2 = true then launchX (launchX (s2X x) d) d else launchX (s2X x) d
  else x
theorem belowR_any (s n : Int) : 0 ≤ (belowR s n).1 ∧ (belowR s n).1 ≤ 65535 ∧ 0 ≤ (belowR s n).2 ∧ (belowR s n).2 ≤ 4096 := by
  unfold belowR
  split
  · exact ⟨by simp, by simp, by simp, by simp⟩
  · have h := nextR_bd s
    refine ⟨h.1, h.2, Int.emod_nonneg _ (by omega), ?_⟩
    have := Int.emod_lt_of_pos (nextR s / 16) (b := n) (by omega)
    omega
theorem chanceR_range (s p : Int) : 0 ≤ (chanceR s p).1 ∧ (chanceR s p).1 ≤ 65535 := by
  have := belowR_any s 100
  unfold chanceR; exact ⟨this.1, this.2.1⟩
theorem spoilR_range {s : Int} (h : 0 ≤ s ∧ s ≤ 65535) (l : List UInt8) : 0 ≤ (spoilR s l).1 ∧ (spoilR s l).1 ≤ 65535 := by
  unfold spoilR
  split
  · unfold spoilS
    have := belowR_any (belowR s l.length).1 255
    exact ⟨this.1, this.2.1⟩
  · exact h
theorem spoilR_len (s : Int) (l : List UInt8) : (spoilR s l).2.length = l.length := by
  unfold spoilR; split
  · exact spoilL_len s l
  · rfl
/-- What a wire in flight keeps: the ranges that its steps need. -/
def Wi.sound (x : Wi) : Prop := (0 ≤ x.jitter ∧ x.jitter ≤ 12) ∧ (0 ≤ x.delay ∧ x.delay ≤ 12) ∧ (0 ≤ x.now ∧ x.now ≤ 1000000) ∧ (0 ≤ x.lost ∧ x.lost ≤ 1000000) ∧ x.fls.length ≤ 200
theorem Wi.sound_of {x : Wi} (h : wireB x = true) : x.sound := by
  obtain ⟨-, h0, h1, h2, h3, h4, h5, h6, h7, h8, h9⟩ := wireB_facts h
  exact ⟨h3, h2, h7, h9, h0⟩
theorem Wi.sound_seeded {x : Wi} (h : x.sound) (s : Int) : (x.seeded s).sound := h
theorem launchX_sound {x : Wi} (h : x.sound) (d : List UInt8) : (launchX x d).sound := by
  obtain ⟨h1, h2, h3, h4, h5⟩ := h
  unfold launchX
  split
  · refine ⟨h1, h2, h3, ?_, h5⟩
    show 0 ≤ min (x.lost + 1) 1000000 ∧ min (x.lost + 1) 1000000 ≤ 1000000
    omega
  · refine ⟨h1, h2, h3, h4, ?_⟩
    show (x.fls ++ [_]).length ≤ 200
    rw [List.length_append, List.length_singleton]; omega
theorem lchD_len (x : Wi) (d : List UInt8) : (lchD x d).2.length = d.length := by
  unfold lchD; split
  · exact spoilR_len _ _
  · rfl
end Go.Proofs.Yteafgghpkohfpab
