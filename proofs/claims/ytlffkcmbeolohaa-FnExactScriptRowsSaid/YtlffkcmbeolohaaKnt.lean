/-
  KnownTicks: the contracts of the model and of the program; the laws on TracksOk and KnownTicks. Lists of at most 2^20 tracks and inputs.
-/
import Derived.Test.YtlffkcmbeolohaaTrs
import Derived.Test.YtlffkcmbeolohaaAppI
namespace Go.Proofs.Ytlffkcmbeolohaa
open Go.RowKit
set_option linter.all false
def lens (X : Rowi) : List Int := X.map fun x => (x.length : Int)
theorem lens_len (X : Rowi) : (lens X).length = X.length := by unfold lens; simp
theorem lens_at {X : Rowi} {k : Nat} (h : k < X.length) : (lens X)[k]'(by rw [lens_len]; exact h) = (X[k].length : Int) := by unfold lens; simp
def minN (xs : List Int) : Nat → Int
  | 0 => xs.headD 0
  | k + 1 => if xs.getD k 0 < minN xs k then xs.getD k 0 else minN xs k
theorem minN_one {xs : List Int} (h : 0 < xs.length) : minN xs 1 = xs[0] := by
  match xs, h with
  | x :: l, _ => simp [minN]
theorem minN_lt {xs : List Int} {k : Nat} (hk : k < xs.length) (h : xs[k] < minN xs k) : minN xs (k + 1) = xs[k] := by
  have e : xs.getD k 0 = xs[k] := by rw [List.getD_eq_getElem?_getD, List.getElem?_eq_getElem hk]; rfl
  rw [minN, e, if_pos h]
theorem minN_ge {xs : List Int} {k : Nat} (hk : k < xs.length) (h : ¬ xs[k] < minN xs k) : minN xs (k + 1) = minN xs k := by
  have e : xs.getD k 0 = xs[k] := by rw [List.getD_eq_getElem?_getD, List.getElem?_eq_getElem hk]; rfl
  rw [minN, e, if_neg h]
/-- How many ticks are known of all. -/
def knownI (X : Rowi) : Int := if trksB X then minN (lens X) X.length else 0
theorem known_bad {X : Rowi} (h : trksB X = false) : knownI X = 0 := by unfold knownI; rw [h]; rfl
theorem known_ok {X : Rowi} (h : trksB X = true) : knownI X = minN (lens X) (lens X).length := by unfold knownI; rw [h, lens_len]; rfl
end Go.Proofs.Ytlffkcmbeolohaa
