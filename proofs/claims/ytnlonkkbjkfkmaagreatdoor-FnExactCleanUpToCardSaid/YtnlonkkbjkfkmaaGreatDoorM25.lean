/-
  Texts of this proof: WdP.
-/
import Derived.Test.YtnlonkkbjkfkmaaGreatDoorM09
import Derived.Test.YtnlonkkbjkfkmaaGreatDoorM23
import Derived.Test.YtnlonkkbjkfkmaaGreatDoorM24
namespace Go.Proofs.YtnlonkkbjkfkmaaGreatDoor
open Go.RowKit
set_option linter.all false
structure Wd where
 rows : Rowz
 tick : Int
 seed : Int
 scores : List Int
 bods : List Bd
def bodAt (L : Rowz) (n k : Nat) (b : Bd) : Bool := fitB L (n : Int) b && ((decide (b.kind = 0) == decide (k < n)) && (decide (n ≤ k) || decide (b.owner = (k : Int))))
def bodsB (L : Rowz) (n : Nat) (bs : List Bd) : Bool := bs.zipIdx.all fun p => bodAt L n p.2 p.1
theorem bodsB_bad {L : Rowz} {n : Nat} {bs : List Bd} {k : Nat} (hk : k < bs.length) (h : bodAt L n k bs[k] = false) : bodsB L n bs = false := by
 unfold bodsB
 rw [List.all_eq_false]
 exact ⟨(bs[k], k), by rw [List.mem_zipIdx_iff_getElem?]; simp [hk], by simp [h]⟩
theorem bodsB_ok {L : Rowz} {n : Nat} {bs : List Bd} (h : ∀ k (hk : k < bs.length), bodAt L n k bs[k] = true) : bodsB L n bs = true := by
 unfold bodsB
 rw [List.all_eq_true]
 rintro ⟨b, k⟩ hb
 rw [List.mem_zipIdx_iff_getElem?] at hb
 obtain ⟨hk, e⟩ := List.getElem?_eq_some_iff.1 hb
 have h1 := h k hk
 rw [e] at h1
 exact h1
def worldB (x : Wd) : Bool := levelB x.rows && (inR x.tick 0 100000 && (inR x.seed 0 65535 && (inR (x.scores.length : Int) 1 4 && (inR (x.bods.length : Int) (x.scores.length : Int) 24 && (allW 0 1000000 x.scores && bodsB x.rows x.scores.length x.bods)))))
section
variable {x : Wd}
theorem wd_l (h : levelB x.rows = false) : worldB x = false := by unfold worldB; rw [h]; rfl
theorem wd_t (h : inR x.tick 0 100000 = false) : worldB x = false := by unfold worldB; rw [h]; simp
theorem wd_s (h : inR x.seed 0 65535 = false) : worldB x = false := by unfold worldB; rw [h]; simp
theorem wd_n (h : inR (x.scores.length : Int) 1 4 = false) : worldB x = false := by unfold worldB; rw [h]; simp
theorem wd_m (h : inR (x.bods.length : Int) (x.scores.length : Int) 24 = false) : worldB x = false := by unfold worldB; rw [h]; simp
theorem wd_w (h : allW 0 1000000 x.scores = false) : worldB x = false := by unfold worldB; rw [h]; simp
theorem wd_b (h : bodsB x.rows x.scores.length x.bods = false) : worldB x = false := by unfold worldB; rw [h]; simp
theorem wd_ok (h1 : levelB x.rows = true) (h2 : inR x.tick 0 100000 = true) (h3 : inR x.seed 0 65535 = true) (h4 : inR (x.scores.length : Int) 1 4 = true) (h5 : inR (x.bods.length : Int) (x.scores.length : Int) 24 = true) (h6 : allW 0 1000000 x.scores = true) (h7 : bodsB x.rows x.scores.length x.bods = true) : worldB x = true := by unfold worldB; rw [h1, h2, h3, h4, h5, h6, h7]; rfl
theorem wd_facts (h : worldB x = true) : levelB x.rows = true ∧ inR x.tick 0 100000 = true ∧ inR x.seed 0 65535 = true ∧ inR (x.scores.length : Int) 1 4 = true ∧ inR (x.bods.length : Int) (x.scores.length : Int) 24 = true ∧ allW 0 1000000 x.scores = true ∧ bodsB x.rows x.scores.length x.bods = true := by
 unfold worldB at h
 simp only [Bool.and_eq_true] at h
 exact h
end
def Wd.sane (x : Wd) : Prop := Sane x.rows ∧ x.scores.length ≤ 9223372036854775807 ∧ x.bods.length ≤ 9223372036854775807 ∧ ∀ b ∈ x.bods, b.fits
def Wd.few (x : Wd) : Prop := x.rows.length ≤ 1048576 ∧ x.scores.length ≤ 1048576 ∧ x.bods.length ≤ 1048576
def wdC (x : Wd) (vl vs vb : Value) : Array Value := #[vl, .int .i64 x.tick, .int .i64 x.seed, vs, vb]
def RdW (w : World) (x : Wd) (vl vs vb : Value) : Prop := RdS w vl x.rows ∧ RdI w vs x.scores ∧ RdBd w vb x.bods
theorem RdW.keep {w w' : World} {x : Wd} {vl vs vb : Value} (h : RdW w x vl vs vb) (hb : Below w.heap.size w w') : RdW w' x vl vs vb := ⟨h.1.keep hb, h.2.1.keep hb, h.2.2.keep hb⟩
end Go.Proofs.YtnlonkkbjkfkmaaGreatDoor
