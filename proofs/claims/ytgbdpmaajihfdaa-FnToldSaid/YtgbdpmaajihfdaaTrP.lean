/-
  Predict and SameTrack: the contracts of the model and of the program. No condition.
-/
import Derived.Test.YtgbdpmaajihfdaaTrO
namespace Go.Proofs.Ytgbdpmaajihfdaa
open Go.RowKit
set_option linter.all false
/-- What is foretold of known inputs xs at tick t. -/
def prdI (xs : List Int) (t : Int) : Int := if t < (xs.length : Int) then xs.getD t.toNat 0 else if xs.length = 0 then 0 else bits .and .i64 (xs.getD (xs.length - 1) 0) 3
def predT (xs : List Int) (t : Int) : Int := if trkB xs = false ∨ t < 0 then -1 else prdI xs t
theorem prd_known {xs : List Int} {k : Nat} (h : k < xs.length) : prdI xs (k : Int) = xs[k] := by
  unfold prdI; rw [if_pos (by omega), Int.toNat_natCast, List.getD_eq_getElem?_getD, List.getElem?_eq_getElem h]; rfl
theorem prd_none {xs : List Int} {t : Int} (ht : 0 ≤ t) (h : xs.length = 0) : prdI xs t = 0 := by
  unfold prdI; rw [if_neg (by omega), if_pos h]
theorem prd_last {xs : List Int} {t : Int} {m : Nat} (hm : xs.length = m + 1) (h : (xs.length : Int) ≤ t) : prdI xs t = bits .and .i64 (xs[m]'(by omega)) 3 := by
  unfold prdI; rw [if_neg (by omega), if_neg (by omega), show xs.length - 1 = m by omega, List.getD_eq_getElem?_getD, List.getElem?_eq_getElem (by omega)]; rfl
theorem predT_bad {xs : List Int} {t : Int} (h : trkB xs = false ∨ t < 0) : predT xs t = -1 := by unfold predT; rw [if_pos h]
theorem predT_good {xs : List Int} {t : Nat} (h : trkB xs = true) : predT xs (t : Int) = prdI xs (t : Int) := by
  unfold predT; rw [if_neg]; rw [h]; simp
end Go.Proofs.Ytgbdpmaajihfdaa
