/-
  What FnTrackBytes asks of AddInputs, in plain lists.
-/
import Derived.Test.YtbjbamcpfjlllabAddP
import Derived.Test.YtbjbamcpfjlllabTrs
namespace Go.Proofs.Ytbjbamcpfjlllab
open Go.RowKit
set_option linter.all false
theorem trk_take {x : List Int} (h : trkB x = true) (n : Nat) : trkB (x.take n) = true := by
  obtain ⟨h1, h2⟩ := trkB_facts h
  unfold trkB
  rw [decide_eq_true (show (x.take n).length ≤ 400 by rw [List.length_take]; omega), Bool.true_and]
  refine allW_ok fun k hk => ?_
  rw [List.length_take] at hk
  rw [List.getElem_take]
  exact (inR_iff _ _ _).2 (h2 k (by omega))
theorem tb_all {x : List Int} {n : Nat} (hn : n ≤ x.length) : addAll (x.take n) 0 x = x := by
  unfold addAll
  rw [Nat.sub_zero, List.length_take, Nat.min_eq_left hn, List.take_append_drop]
theorem tb_whole {x : List Int} (h : trkB x = true) {n : Nat} (hn : n ≤ x.length) : addB (x.take n) 0 x = true ∧ addT (x.take n) 0 x = x := by
  have e : addB (x.take n) 0 x = true := addB_good (trk_take h n) ((inR_iff _ _ _).2 ⟨by omega, by omega⟩) (addSame_ok (Nat.zero_le _) fun k hk hl => by simp only [Int.toNat_zero, Nat.zero_add]; rw [List.getElem_take]) (by rw [Int.toNat_zero, tb_all hn]; exact h)
  exact ⟨e, by rw [addT_yes e, Int.toNat_zero, tb_all hn]⟩
theorem tb_again {x : List Int} (h : trkB x = true) {n : Nat} (hn : n ≤ x.length) : addB x (n : Int) (x.drop n) = true ∧ addT x (n : Int) (x.drop n) = x := by
  have ea : addAll x n (x.drop n) = x := by unfold addAll; rw [List.drop_eq_nil_of_le (by rw [List.length_drop]; omega), List.append_nil]
  have e : addB x (n : Int) (x.drop n) = true := addB_good h ((inR_iff _ _ _).2 ⟨by omega, by omega⟩) (addSame_ok (by rw [Int.toNat_natCast]; exact hn) fun k hk hl => by simp only [Int.toNat_natCast]; rw [List.getElem_drop]) (by rw [Int.toNat_natCast, ea]; exact h)
  exact ⟨e, by rw [addT_yes e, Int.toNat_natCast, ea]⟩
theorem tb_gap {x : List Int} {n : Nat} (hn : n ≤ x.length) (ys : List Int) : addB (x.take n) ((n : Int) + 1) ys = false := by
  refine addB_range ?_
  cases e : inR ((n : Int) + 1) 0 ((x.take n).length : Int) with
  | false => rfl
  | true => have := (inR_iff _ _ _).1 e; rw [List.length_take] at this; omega
theorem tb_wrong {x : List Int} {n : Nat} (hn : n < x.length) {y : Int} (hy : y ≠ x[n]) : addB x (n : Int) [y] = false := by
  refine addB_other ?_
  rw [Int.toNat_natCast]
  exact addSame_bad (k := 0) (by simp) (by simpa using hn) (by simpa using fun e => hy e.symm)
end Go.Proofs.Ytbjbamcpfjlllab
