/-
  TracksOk, KnownTicks: the contracts of the model and of the program. Lists of at most 2^20 tracks and inputs.
-/
import Derived.Test.YtgbdpmaajihfdaaTrP
import Derived.Test.YtgbdpmaajihfdaaRowL
namespace Go.Proofs.Ytgbdpmaajihfdaa
open Go.RowKit
set_option linter.all false
def Few (X : Rowi) : Prop := X.length ≤ 1048576 ∧ ∀ x ∈ X, x.length ≤ 1048576
def trksB (X : Rowi) : Bool := X.all trkB && inR (X.length : Int) 1 4
theorem trks_bad {X : Rowi} {k : Nat} (hk : k < X.length) (h : trkB X[k] = false) : trksB X = false := by
  have : X.all trkB = false := by rw [List.all_eq_false]; exact ⟨_, List.getElem_mem hk, by rw [h]; simp⟩
  unfold trksB; rw [this]; rfl
theorem trks_all {X : Rowi} (h : ∀ k (hk : k < X.length), trkB X[k] = true) : trksB X = inR (X.length : Int) 1 4 := by
  have : X.all trkB = true := by
    rw [List.all_eq_true]; intro x hx
    obtain ⟨i, hi, rfl⟩ := List.getElem_of_mem hx
    exact h i hi
  unfold trksB; rw [this]; rfl
theorem trksB_facts {X : Rowi} (h : trksB X = true) : 1 ≤ X.length ∧ X.length ≤ 4 ∧ ∀ x ∈ X, trkB x = true := by
  unfold trksB at h
  rw [Bool.and_eq_true, inR_iff, List.all_eq_true] at h
  exact ⟨by omega, by omega, h.1⟩
set_option maxHeartbeats 1000000 in
theorem tracksOk_impl {w : World} {v : Value} {X : Rowi} (h : RdR w v X) (hf : Few X) :
    Calls Try.prog 12 #[v] w fun e w' => e = .returned (.bool (trksB X)) ∧ Below w.heap.size w w' := by
  obtain ⟨a, cap, rfl, h⟩ := h
  obtain ⟨hn, hi⟩ := hf
  go_enter Try.func12, Try.ntmps12
  go_wp2_with (fail)
  go_loopw [7] (fun i wr => ∃ k : Nat, k ≤ X.length ∧ i = .int .i64 (k : Int) ∧ (∀ j (hj : j < X.length), j < k → trkB X[j] = true) ∧ Below w.heap.size w wr) (fun i _ => X.length - (intOf i).toNat)
  case atStart => exact ⟨0, Nat.zero_le _, rfl, fun _ _ h => by omega, Below.refl _ _⟩
  case round =>
    obtain ⟨k, hk, rfl, hat, hbel⟩ := hrel
    have HA := Lib.hid hat
    clear hat
    by_cases hkl : k < X.length
    · obtain ⟨b, off, rfl, hc⟩ := h.resolve_left (by intro e; rw [e] at hkl; simp at hkl)
      obtain ⟨u, c0, r0⟩ := hc k hkl
      have c1 : wr.cell? ⟨b, off + k, none⟩ = some u := (hbel.cell (World.block_lt_of_cell? w _ c0)).trans c0
      have R := r0.keep hbel
      have hxl := hi X[k] (List.getElem_mem _)
      obtain ⟨x, hx⟩ : ∃ x, x = X[k] := ⟨_, rfl⟩
      rw [← hx] at R hxl
      have HQ := Lib.hid hx
      obtain ⟨ax, cx, rfl, -⟩ := id R
      have hl1 : (k : Int) < (X.length : Int) := by omega
      clear hc h c0 r0 hx
      have R' := R.keep (below1 wr (.cells #[.slice ax x.length cx] 29))
      have cB := rowCells (heap_alloc_new wr (.cells #[.slice ax x.length cx] 29))
      have hgs : (wr.alloc (.cells #[.slice ax x.length cx] 29)).heap.size = wr.heap.size + 1 := by simp
      have hT := trackOk_impl R' (by omega)
      cases hq : trkB x with
      | true =>
        rw [hq] at hT
        have HQ2 : Hid (trkB X[k] = true) := Lib.hid (by rw [← HQ.out]; exact hq)
        clear hq
        go_wp2_with (fail)
        refine hT.mono ?_
        rintro e w1 ⟨rfl, hb1⟩
        go_wp2_with (fail)
        go_roundw
        case rel =>
          refine ⟨k + 1, by omega, by go_num, fun j hj hjk => ?_, (hbel.trans ((below1 _ _).mono hbel.size)).trans (hb1.mono (by have := hbel.size; simp; omega))⟩
          by_cases e : j = k
          · subst e; exact HQ2.out
          · exact HA.out j hj (by omega)
        case measure => simp [intOf]; omega
      | false =>
        rw [hq] at hT
        have HF := Lib.hid (trks_bad hkl (by rw [← HQ.out]; exact hq))
        clear hq
        go_wp2_with (fail)
        refine hT.mono ?_
        rintro e w1 ⟨rfl, hb1⟩
        go_wp2_with (fail)
        go_ret
        exact ⟨by rw [HF.out]; rfl, (hbel.trans ((below1 _ _).mono hbel.size)).trans (hb1.mono (by have := hbel.size; simp; omega))⟩
    · have HF := Lib.hid (trks_all (X := X) (fun j hj => HA.out j hj (by omega)))
      go_wp2_with (go_at_call 13; refine (within_impl _ _ _ _).mono ?_; rintro e w1 ⟨rfl, rfl⟩)
      go_ret
      exact ⟨by rw [HF.out]; rfl, hbel⟩
end Go.Proofs.Ytgbdpmaajihfdaa
