/-
  sameInts of two lists that are the same.
-/
import Derived.Test.YtbjbamcpfjlllabLst
import Derived.BigQuiet
namespace Go.Proofs.Ytbjbamcpfjlllab
open Go.RowKit
set_option linter.all false
set_option maxHeartbeats 400000 in
theorem sameInts_same {w : World} {v v' : Value} {xs : List Int} (h : RdI w v xs) (h' : RdI w v' xs) (hn : xs.length ≤ 1099511627776) :
    Calls Try.prog 16 #[v, v'] w fun e w' => e = .returned (.bool true) ∧ ∃ n, w' = w.drewN n := by
  obtain ⟨a, cap, rfl, h⟩ := h
  obtain ⟨a', cap', rfl, h'⟩ := h'
  by_cases hx : xs = []
  · subst hx
    go_enter Try.func16, Try.ntmps16
    go_wp2
    refine wp_loop_once ?_
    go_wp2
    go_ret
    exact ⟨rfl, 0, rfl⟩
  · obtain ⟨b, off, rfl, hc⟩ := h.resolve_left hx
    obtain ⟨b', off', rfl, hc'⟩ := h'.resolve_left hx
    go_enter Try.func16, Try.ntmps16
    go_wp2
    go_loopw [5] (fun i wr => ∃ k n : Nat, k ≤ xs.length ∧ i = .int .i64 k ∧ wr = w.drewN n) (fun i _ => xs.length - (intOf i).toNat)
    case atStart => exact ⟨0, 0, Nat.zero_le _, rfl, rfl⟩
    case round =>
      obtain ⟨k, n, hk, rfl, rfl⟩ := hrel
      by_cases hkl : k < xs.length
      · have c1 := hc k hkl
        have c2 := hc' k hkl
        have hl1 : (k : Int) < (xs.length : Int) := by omega
        clear h h'
        go_wp2
        go_quiet (fail)
        go_wp2
        go_roundw
        case rel => exact ⟨k + 1, _, by omega, by go_num, rfl⟩
        case measure => simp [intOf]; omega
      · go_wp2
        go_ret
        exact ⟨rfl, n, rfl⟩
end Go.Proofs.Ytbjbamcpfjlllab
