/-
  slices.Clone of a row of ints; slices.Grow of nil; slices.Concat of two rows of ints. Conditions: short rows.
-/
import Derived.Test.YtgbdpmaajihfdaaTrk
import Derived.Test.YtgbdpmaajihfdaaAppI
import Derived.Lib.SliceRun
import Derived.Lib.AppendZeros
import Derived.Test.YtgbdpmaajihfdaaRep0
import Derived.Test.YtgbdpmaajihfdaaRow
namespace Go.Proofs.Ytgbdpmaajihfdaa
open Go.RowKit
set_option linter.all false
theorem OwnR.capd {w : World} {B : Nat} {v : Value} {xs : List Int} (h : OwnR w B v xs) : CapI v := by
  rcases h.2 with ⟨rfl, h0⟩ | ⟨g, cap, cur, rfl, hB, hg, hn, hc, -⟩
  · exact ⟨_, _, _, rfl, Nat.le_refl _⟩
  · exact ⟨_, _, _, rfl, hn⟩
set_option maxHeartbeats 1000000 in
theorem cloneI_any {w : World} {v : Value} {xs : List Int} (h : RdI w v xs) (hn : xs.length ≤ 1099511627776) :
    Calls Try.prog 14 #[v] w (RetOwnC w xs) := by
  obtain ⟨a, cap, rfl, h0⟩ := id h
  have q : ∀ (w : World) (a : Option Addr) (n c n' c' : Nat), (binOp .eql 27 (.slice a n c) (.slice none n' c')).run Try.prog w = .ok (.bool a.isNone) w := fun w a n c n' c' => Lib.run_eql_slice_nil w _ _ a n c n' c' Try.underlying27
  cases a with
  | none =>
    have hx : xs = [] := by
      rcases h0 with h0 | ⟨b, off, h0, -⟩
      · exact h0
      · cases h0
    subst hx
    go_enter Try.func14, Try.ntmps14
    go_wp2_with (fail)
    go_ret
    exact ⟨_, rfl, ⟨none, 0, rfl, .inl rfl⟩, ⟨none, 0, 0, rfl, Nat.le_refl _⟩, Below.refl _ _⟩
  | some ad =>
    have hk := h.keep (below1 w (.cells #[] 3))
    have ho := OwnR.made w #[] w.heap.size (Nat.le_refl _) (by unfold maxLen; simp)
    clear h h0
    go_enter Try.func14, Try.ntmps14
    go_wp2_with (at_builtin; refine app_ints rfl _ _ rfl w.heap.size _ [] rfl ho _ xs rfl hk (by simp; omega) (by simp) ?_; intro v' w1 hown' hb1)
    go_ret
    exact ⟨_, rfl, by simpa using hown'.own, hown'.capd, (below1 w _).trans (hb1.mono (by simp))⟩
set_option maxRecDepth 100000 in
set_option maxHeartbeats 1000000 in
theorem growI_nil (n : Nat) (hn : n ≤ 1099511627776) (w : World) :
    Calls Try.prog 29 #[.slice none 0 0, .int .i64 (n : Int)] w fun e w' => ∃ u, e = .returned u ∧ OwnR w' w.heap.size u [] ∧ Below w.heap.size w w' := by
  have z0 : decide ((n : Int) < 0) = false := by simp
  obtain ⟨i0, hi, hz0, hz1, hz2⟩ := info_parts info_int
  rcases Nat.eq_zero_or_pos n with rfl | hp
  · go_enter Try.func29, Try.ntmps29
    go_wp2_with (fail)
    go_ret
    exact ⟨_, rfl, World.ownsRow_nil _ _ _ _, Below.refl _ _⟩
  · have z1 : decide (0 < (n : Int)) = true := by simp; omega
    have hrun := fun (W : World) => Lib.run_append_nil_zeros (P := Try.prog) W 27 3 27 3 i0 (.int .i64 0) .i64 .i64 Try.underlying27 Try.underlying3 hi hz0 n hp (by omega) (by omega) (by rw [hz2]; omega)
    have hge := grownCap_ge w n 0 3
    have hle := grownCap_le_maxLen w n 0 3 (by unfold maxLen; omega)
    have hrun := hrun w
    generalize grownCap w n 0 3 = c at hrun hge hle
    obtain ⟨C, hC⟩ : ∃ C, Builtin.zeroCells (Value.int .i64 0).cells n ++ Builtin.zeroCells (Value.int .i64 0).cells (c - n) = C := ⟨_, rfl⟩
    have hsz : C.size = c := by
      rw [← hC]
      have hc1 : (Value.int .i64 0).cells = #[.int .i64 0] := rfl
      rw [hc1]; simp [Builtin.zeroCells]; omega
    rw [hC] at hrun
    have hO := OwnR.made w.drew C w.heap.size (Nat.le_refl _) (by rw [hsz]; exact hle)
    rw [hsz] at hO
    have hb : Below w.heap.size w (w.drew.alloc (.cells C 3)) := (belowDrew w 1).alloc (Nat.le_refl _) _
    have hsl := fun W => slice_low W w.heap.size 0 n c 0 (by omega) hge
    obtain ⟨W1, hW1⟩ : ∃ W1, w.drew.alloc (.cells C 3) = W1 := ⟨_, rfl⟩
    have hO : OwnR (w.drew.alloc (.cells C 3)) w.heap.size (.slice (some ⟨w.heap.size, 0, none⟩) 0 c) [] := hO
    rw [hW1] at hrun hO hb
    clear hC hW1 hsz hle hz0 hz1 hz2 hi
    go_enter Try.func29, Try.ntmps29
    go_wp2_with (at_builtin; refine Lib.wpList_append_run w rfl _ _ 27 3 rfl (.slice none 0 0) (.int .i64 (n : Int)) rfl rfl _ W1 hrun ?_)
    go_ret
    exact ⟨_, rfl, hO, hb⟩
theorem totalR_take (X : Rowi) (k : Nat) : totalR (X.take k) ≤ totalR X := by
  have h : totalR X = totalR (X.take k) + totalR (X.drop k) := by
    unfold totalR
    rw [← List.sum_append, ← List.map_append, List.take_append_drop]
  omega
theorem flat_len (X : Rowi) : X.flatten.length = totalR X := by
  unfold totalR; rw [List.length_flatten]
theorem flat_snoc (X : Rowi) (k : Nat) (hk : k < X.length) : (X.take (k + 1)).flatten = (X.take k).flatten ++ X[k] := by
  rw [List.take_succ_eq_append_getElem hk, List.flatten_append]; simp
set_option maxRecDepth 100000 in
set_option maxHeartbeats 2000000 in
theorem concatI_any {w : World} {v : Value} {X : Rowi} (h : RdR w v X) (hn : X.length ≤ 1048576) (hT : totalR X ≤ 1099511627776) :
    Calls Try.prog 26 #[v] w fun e w' => ∃ u, e = .returned u ∧ OwnR w' w.heap.size u X.flatten ∧ Below w.heap.size w w' := by
  obtain ⟨a, cap, rfl, h⟩ := h
  go_enter Try.func26, Try.ntmps26
  go_wp2_with (fail)
  go_loop [3, 11] (fun s i => ∃ k : Nat, k ≤ X.length ∧ i = .int .i64 (k : Int) ∧ s = .int .i64 (totalR (X.take k) : Int)) (fun _ i => X.length - (intOf i).toNat)
  case atStart => exact ⟨0, Nat.zero_le _, rfl, rfl⟩
  case round =>
    obtain ⟨k, hk, rfl, rfl⟩ := hrel
    by_cases hkl : k < X.length
    · obtain ⟨b, off, rfl, hc⟩ := h.resolve_left (by intro e; rw [e] at hkl; simp at hkl)
      obtain ⟨u, c0, r0⟩ := hc k hkl
      have hl1 : (k : Int) < (X.length : Int) := by omega
      have hs := totalR_snoc X k hkl
      have ht := totalR_take X (k + 1)
      obtain ⟨x, hx⟩ : ∃ x, x = X[k] := ⟨_, rfl⟩
      rw [← hx] at r0 hs
      obtain ⟨ax, cx, rfl, -⟩ := id r0
      have hneg : decide ((totalR (X.take k) : Int) + (x.length : Int) < 0) = false := by simp; omega
      have HS := Lib.hid hs
      clear hc h r0 hx
      go_wp2_with (fail)
      go_round
      case rel => exact ⟨k + 1, by omega, by go_num, by rw [HS.out]; go_num⟩
      case measure => simp [intOf]; omega
    · obtain rfl : k = X.length := by omega
      rw [List.take_length]
      go_wp2_with (go_at_call 29; refine (growI_nil (totalR X) hT w).mono ?_; rintro e w1 ⟨u0, rfl, hO, hb⟩)
      go_loopw [6, 27] (fun v i wr => ∃ k : Nat, k ≤ X.length ∧ i = .int .i64 (k : Int) ∧ OwnR wr w.heap.size v (X.take k).flatten ∧ Below w.heap.size w wr) (fun _ i _ => X.length - (intOf i).toNat)
      case atStart => exact ⟨0, Nat.zero_le _, rfl, hO, hb⟩
      case round =>
        obtain ⟨k, hk2, rfl, hown, hbel⟩ := hrel
        have hsz := hbel.size
        by_cases hkl2 : k < X.length
        · obtain ⟨b, off, rfl, hc⟩ := h.resolve_left (by intro e; rw [e] at hkl2; simp at hkl2)
          obtain ⟨u, c0, r0⟩ := hc k hkl2
          have c1 : wr.cell? ⟨b, off + k, none⟩ = some u := (hbel.cell (World.block_lt_of_cell? w _ c0)).trans c0
          have r1 := r0.keep hbel
          have hl1 : (k : Int) < (X.length : Int) := by omega
          have hs := totalR_snoc X k hkl2
          have ht := totalR_take X (k + 1)
          have hfl := flat_len (X.take k)
          have HFS := Lib.hid (flat_snoc X k hkl2)
          obtain ⟨x, hx⟩ : ∃ x, x = X[k] := ⟨_, rfl⟩
          rw [← hx] at r1 hs HFS
          clear hc h r0 hx c0
          go_wp2_with (at_builtin; refine app_ints rfl _ _ rfl w.heap.size _ (X.take k).flatten rfl hown _ x rfl r1 (by rw [hfl]; omega) hsz ?_; intro v3 w3 hown3 hb3)
          go_roundw
          case rel => exact ⟨k + 1, by omega, by go_num, by rw [HFS.out]; exact hown3, hbel.trans hb3⟩
          case measure => simp [intOf]; omega
        · obtain rfl : k = X.length := by omega
          rw [List.take_length] at hown
          go_wp2_with (fail)
          go_ret
          exact ⟨_, rfl, hown, hbel⟩
end Go.Proofs.Ytgbdpmaajihfdaa
