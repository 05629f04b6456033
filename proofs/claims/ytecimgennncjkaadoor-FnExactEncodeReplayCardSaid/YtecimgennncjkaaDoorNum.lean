/-
  packNumbers; a fresh row of numbers. No condition but on the length.
-/
import Derived.Test.YtecimgennncjkaaDoorPackI
namespace Go.Proofs.YtecimgennncjkaaDoor
open Go.RowKit
set_option linter.all false
theorem packI_len (xs : List Int) : (packI xs).length ≤ 6 * xs.length + 6 := by
  unfold packI
  cases h : packR xs with
  | none => simp
  | some l =>
    have := packR_len xs l h
    have := encI_len (xs.length : Int)
    simp; omega
theorem RdI.fresh {W : World} {xs : List Int} {n : Nat} (C : Array Value) (t : TypeId) (hn : xs.length = n) (hC : C = (xs.map (Value.int .i64)).toArray) : RdI (W.alloc (.cells C t)) (.slice (some ⟨W.heap.size, 0, none⟩) n n) xs := by
  subst hn hC
  refine ⟨_, _, rfl, .inr ⟨_, 0, rfl, fun j hj => ?_⟩⟩
  rw [World.cell?_alloc_mark]; simp [hj]
theorem packNumbers_impl {w : World} {v : Value} {xs : List Int} (h : RdI w v xs) (hn : xs.length ≤ 1099511627776) :
    Calls Tryd.prog 34 #[v] w fun e w' => e = .returned (.string ⟨(packI xs).toArray⟩) ∧ Below w.heap.size w w' := by
  obtain ⟨a, cap, rfl, -⟩ := id h
  go_enter Tryd.func34, Tryd.ntmps34
  go_wp2_with (fail)
  refine (packInts_impl h hn).mono ?_
  rintro e w1 ⟨rfl, hb⟩
  go_wp2_with (fail)
  go_ret
  exact ⟨rfl, hb⟩
end Go.Proofs.YtecimgennncjkaaDoor
