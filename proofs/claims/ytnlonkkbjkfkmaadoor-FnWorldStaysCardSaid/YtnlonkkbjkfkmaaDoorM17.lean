/-
  Texts of this proof: TrO, WdP.
-/
import Derived.Test.YtnlonkkbjkfkmaaDoorM03
import Derived.Test.YtnlonkkbjkfkmaaDoorM05
import Derived.Deep.RegionHeld3
import Derived.Deep.RegionWith
import Derived.Test.YtnlonkkbjkfkmaaDoorM07
import Derived.Test.YtnlonkkbjkfkmaaDoorM16
namespace Go.Proofs.YtnlonkkbjkfkmaaDoor
open Go.RowKit
set_option linter.all false
def allW (lo hi : Int) (xs : List Int) : Bool := xs.all fun x => inR x lo hi
theorem allW_bad {lo hi : Int} {xs : List Int} {k : Nat} (hk : k < xs.length) (h : inR xs[k] lo hi = false) : allW lo hi xs = false := by
 unfold allW; rw [List.all_eq_false]; exact ⟨_, List.getElem_mem hk, by rw [h]; simp⟩
theorem allW_ok {lo hi : Int} {xs : List Int} (h : ∀ k (hk : k < xs.length), inR xs[k] lo hi = true) : allW lo hi xs = true := by
 unfold allW; rw [List.all_eq_true]; intro x hx
 obtain ⟨i, hi, rfl⟩ := List.getElem_of_mem hx
 exact h i hi
set_option maxHeartbeats 1000000 in
theorem allWithin_any {w : World} {v : Value} {xs : List Int} (h : RdI w v xs) (hs : xs.length ≤ 9223372036854775807) (lo hi : Int) :
  Calls Tryd.prog 40 #[.int .i64 lo, .int .i64 hi, v] w fun e w' => e = .returned (.bool (allW lo hi xs)) ∧ w = w' := by
 obtain ⟨a, cap, rfl, h⟩ := h
 have hlc : (xs.length : Int) ≤ 9223372036854775807 := by omega
 go_enter Tryd.func40, Tryd.ntmps40
 go_wp2_with (fail)
 go_loop [11] (fun i => ∃ k : Nat, k ≤ xs.length ∧ i = .int .i64 (k : Int) ∧ ∀ j (hj : j < xs.length), j < k → inR xs[j] lo hi = true) (fun i => xs.length - (intOf i).toNat)
 case atStart => exact ⟨0, Nat.zero_le _, rfl, fun _ _ h => by omega⟩
 case round =>
  obtain ⟨k, hk, rfl, hat⟩ := hrel
  have HA := Lib.hid hat
  clear hat
  by_cases hkl : k < xs.length
  ·obtain ⟨b, off, rfl, hc⟩ := h.resolve_left (by intro e; rw [e] at hkl; simp at hkl)
   obtain ⟨x, hx⟩ : ∃ x, x = xs[k] := ⟨_, rfl⟩
   have c1 : w.cell? ⟨b, off + k, none⟩ = some (.int .i64 x) := by rw [hx]; exact hc k hkl
   have hl1 : (k : Int) < (xs.length : Int) := by omega
   cases hq : inR x lo hi with
   | true =>
    have HQ : Hid (inR xs[k] lo hi = true) := Lib.hid (by rw [← hx]; exact hq)
    have Q := Lib.hid hq
    clear hx hc h hq
    go_wp2_with (go_at_call 39; refine (within_impl _ _ _ _).mono ?_; rintro e w1 ⟨rfl, rfl⟩; rw [Q.out])
    go_round
    case rel =>
     refine ⟨k + 1, by omega, by go_num, fun j hj hjk => ?_⟩
     by_cases e : j = k
     ·subst e; exact HQ.out
     ·exact HA.out j hj (by omega)
    case measure => simp [intOf]; omega
   | false =>
    have HF := Lib.hid (allW_bad (lo := lo) (hi := hi) hkl (by rw [← hx]; exact hq))
    have Q := Lib.hid hq
    clear hx hc h hq
    go_wp2_with (go_at_call 39; refine (within_impl _ _ _ _).mono ?_; rintro e w1 ⟨rfl, rfl⟩; rw [Q.out])
    go_ret
    exact ⟨by rw [HF.out]; rfl, rfl⟩
  ·have HF := Lib.hid (allW_ok (lo := lo) (hi := hi) (xs := xs) (fun j hj => HA.out j hj (by omega)))
   go_wp2_with (fail)
   go_ret
   exact ⟨by rw [HF.out]; rfl, rfl⟩
theorem inputsOk_any {w : World} {v : Value} {xs : List Int} (h : RdI w v xs) (hs : xs.length ≤ 9223372036854775807) :
  Calls Tryd.prog 79 #[v] w fun e w' => e = .returned (.bool (allW 0 15 xs)) ∧ w = w' := by
 have hW := allWithin_any h hs 0 15
 obtain ⟨a, cap, rfl, -⟩ := h
 go_enter Tryd.func79, Tryd.ntmps79
 go_wp2_with (fail)
 refine hW.mono ?_
 rintro e w1 ⟨rfl, rfl⟩
 go_wp2_with (fail)
 go_ret
 exact ⟨rfl, rfl⟩
end Go.Proofs.YtnlonkkbjkfkmaaDoor
namespace Go.Proofs.YtnlonkkbjkfkmaaDoor
open Go.RowKit
set_option linter.all false
structure Wd where
 rows : Rowz
 tick : Int
 seed : Int
 scores : List Int
 bods : List Bd
def bodAt (L : Rowz) (n k : Nat) (b : Bd) : Bool := fitB L (n : Int) b && ((decide (b.kind = 0) == decide (k < n)) && (decide (n ≤ k) || decide (b.owner = (k : Int))))
def bodsB (L : Rowz) (n : Nat) (bs : List Bd) : Bool := bs.zipIdx.all fun p => bodAt L n p.2 p.1
theorem bodsB_bad {L : Rowz} {n : Nat} {bs : List Bd} {k : Nat} (hk : k < bs.length) (h : bodAt L n k bs[k] = false) : bodsB L n bs = false := by
 unfold bodsB
 rw [List.all_eq_false]
 exact ⟨(bs[k], k), by rw [List.mem_zipIdx_iff_getElem?]; simp [hk], by simp [h]⟩
theorem bodsB_ok {L : Rowz} {n : Nat} {bs : List Bd} (h : ∀ k (hk : k < bs.length), bodAt L n k bs[k] = true) : bodsB L n bs = true := by
 unfold bodsB
 rw [List.all_eq_true]
 rintro ⟨b, k⟩ hb
 rw [List.mem_zipIdx_iff_getElem?] at hb
 obtain ⟨hk, e⟩ := List.getElem?_eq_some_iff.1 hb
 have h1 := h k hk
 rw [e] at h1
 exact h1
theorem bodsB_at {L : Rowz} {n : Nat} {bs : List Bd} (h : bodsB L n bs = true) {k : Nat} (hk : k < bs.length) : bodAt L n k bs[k] = true := by
 cases e : bodAt L n k bs[k] with
 | true => rfl
 | false => rw [bodsB_bad hk e] at h; cases h
def worldB (x : Wd) : Bool := levelB x.rows && (inR x.tick 0 100000 && (inR x.seed 0 65535 && (inR (x.scores.length : Int) 1 4 && (inR (x.bods.length : Int) (x.scores.length : Int) 24 && (allW 0 1000000 x.scores && bodsB x.rows x.scores.length x.bods)))))
section
variable {x : Wd}
theorem wd_l (h : levelB x.rows = false) : worldB x = false := by unfold worldB; rw [h]; rfl
theorem wd_t (h : inR x.tick 0 100000 = false) : worldB x = false := by unfold worldB; rw [h]; simp
theorem wd_s (h : inR x.seed 0 65535 = false) : worldB x = false := by unfold worldB; rw [h]; simp
theorem wd_n (h : inR (x.scores.length : Int) 1 4 = false) : worldB x = false := by unfold worldB; rw [h]; simp
theorem wd_m (h : inR (x.bods.length : Int) (x.scores.length : Int) 24 = false) : worldB x = false := by unfold worldB; rw [h]; simp
theorem wd_w (h : allW 0 1000000 x.scores = false) : worldB x = false := by unfold worldB; rw [h]; simp
theorem wd_b (h : bodsB x.rows x.scores.length x.bods = false) : worldB x = false := by unfold worldB; rw [h]; simp
theorem wd_ok (h1 : levelB x.rows = true) (h2 : inR x.tick 0 100000 = true) (h3 : inR x.seed 0 65535 = true) (h4 : inR (x.scores.length : Int) 1 4 = true) (h5 : inR (x.bods.length : Int) (x.scores.length : Int) 24 = true) (h6 : allW 0 1000000 x.scores = true) (h7 : bodsB x.rows x.scores.length x.bods = true) : worldB x = true := by unfold worldB; rw [h1, h2, h3, h4, h5, h6, h7]; rfl
theorem wd_facts (h : worldB x = true) : levelB x.rows = true ∧ inR x.tick 0 100000 = true ∧ inR x.seed 0 65535 = true ∧ inR (x.scores.length : Int) 1 4 = true ∧ inR (x.bods.length : Int) (x.scores.length : Int) 24 = true ∧ allW 0 1000000 x.scores = true ∧ bodsB x.rows x.scores.length x.bods = true := by
 unfold worldB at h
 simp only [Bool.and_eq_true] at h
 exact h
end
def Wd.sane (x : Wd) : Prop := Sane x.rows ∧ x.scores.length ≤ 9223372036854775807 ∧ x.bods.length ≤ 9223372036854775807 ∧ ∀ b ∈ x.bods, b.fits
def Wd.few (x : Wd) : Prop := x.rows.length ≤ 1048576 ∧ x.scores.length ≤ 1048576 ∧ x.bods.length ≤ 1048576
def wdC (x : Wd) (vl vs vb : Value) : Array Value := #[vl, .int .i64 x.tick, .int .i64 x.seed, vs, vb]
def RdW (w : World) (x : Wd) (vl vs vb : Value) : Prop := RdS w vl x.rows ∧ RdI w vs x.scores ∧ RdBd w vb x.bods
theorem RdW.keep {w w' : World} {x : Wd} {vl vs vb : Value} (h : RdW w x vl vs vb) (hb : Below w.heap.size w w') : RdW w' x vl vs vb := ⟨h.1.keep hb, h.2.1.keep hb, h.2.2.keep hb⟩
end Go.Proofs.YtnlonkkbjkfkmaaDoor
