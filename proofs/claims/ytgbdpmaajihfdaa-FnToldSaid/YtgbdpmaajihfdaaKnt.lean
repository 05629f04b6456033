/-
  KnownTicks: the contracts of the model and of the program; the laws on TracksOk and KnownTicks. Lists of at most 2^20 tracks and inputs.
-/
import Derived.Test.YtgbdpmaajihfdaaTrs
import Derived.Test.YtgbdpmaajihfdaaAppI
namespace Go.Proofs.Ytgbdpmaajihfdaa
open Go.RowKit
set_option linter.all false
def lens (X : Rowi) : List Int := X.map fun x => (x.length : Int)
theorem lens_len (X : Rowi) : (lens X).length = X.length := by unfold lens; simp
theorem lens_at {X : Rowi} {k : Nat} (h : k < X.length) : (lens X)[k]'(by rw [lens_len]; exact h) = (X[k].length : Int) := by unfold lens; simp
def minN (xs : List Int) : Nat → Int
  | 0 => xs.headD 0
  | k + 1 => if xs.getD k 0 < minN xs k then xs.getD k 0 else minN xs k
theorem minN_one {xs : List Int} (h : 0 < xs.length) : minN xs 1 = xs[0] := by
  match xs, h with
  | x :: l, _ => simp [minN]
theorem minN_lt {xs : List Int} {k : Nat} (hk : k < xs.length) (h : xs[k] < minN xs k) : minN xs (k + 1) = xs[k] := by
  have e : xs.getD k 0 = xs[k] := by rw [List.getD_eq_getElem?_getD, List.getElem?_eq_getElem hk]; rfl
  rw [minN, e, if_pos h]
theorem minN_ge {xs : List Int} {k : Nat} (hk : k < xs.length) (h : ¬ xs[k] < minN xs k) : minN xs (k + 1) = minN xs k := by
  have e : xs.getD k 0 = xs[k] := by rw [List.getD_eq_getElem?_getD, List.getElem?_eq_getElem hk]; rfl
  rw [minN, e, if_neg h]
/-- How many ticks are known of all. -/
def knownI (X : Rowi) : Int := if trksB X then minN (lens X) X.length else 0
theorem known_bad {X : Rowi} (h : trksB X = false) : knownI X = 0 := by unfold knownI; rw [h]; rfl
theorem known_ok {X : Rowi} (h : trksB X = true) : knownI X = minN (lens X) (lens X).length := by unfold knownI; rw [h, lens_len]; rfl
set_option maxHeartbeats 1000000 in
theorem knownCounts_impl {w : World} {v : Value} {X : Rowi} (h : RdR w v X) (hf : Few X) :
    Calls Try.prog 15 #[v] w (RetOwn w (lens X)) := by
  obtain ⟨a, cap, rfl, h⟩ := h
  obtain ⟨hn, hi⟩ := hf
  have hmk := fun W => run_make_cap W X.length (by omega)
  have hown0 := OwnR.capped w X.length (by omega)
  go_enter Try.func15, Try.ntmps15
  go_wp2_with (fail)
  go_loopw [3, 11] (fun c i wr => ∃ k : Nat, k ≤ X.length ∧ i = .int .i64 (k : Int) ∧ OwnR wr w.heap.size c ((lens X).take k) ∧ Below w.heap.size w wr) (fun _ i _ => X.length - (intOf i).toNat)
  case atStart => exact ⟨0, Nat.zero_le _, rfl, hown0, below1 _ _⟩
  case round =>
    obtain ⟨k, hk, rfl, hown, hbel⟩ := hrel
    by_cases hkl : k < X.length
    · obtain ⟨b, off, rfl, hc⟩ := h.resolve_left (by intro e; rw [e] at hkl; simp at hkl)
      obtain ⟨u, c0, r0⟩ := hc k hkl
      have c1 : wr.cell? ⟨b, off + k, none⟩ = some u := (hbel.cell (World.block_lt_of_cell? w _ c0)).trans c0
      have hkl2 : k < (lens X).length := by rw [lens_len]; exact hkl
      have HT := Lib.hid (List.take_succ_eq_append_getElem hkl2)
      rw [lens_at hkl] at HT
      have htl : ((lens X).take k).length = k := by rw [List.length_take]; omega
      have hl1 : (k : Int) < (X.length : Int) := by omega
      have hsz := hbel.size
      obtain ⟨ax, cx, rfl, -⟩ := id r0
      generalize X[k].length = n at *
      clear hc h c0 r0
      obtain ⟨W1, hW1, hA1, hb1, hS1⟩ := rows1 wr #[.slice ax n cx] 29
      have cA := rowCells hA1
      have hown1 := hown.keep hb1 (Nat.le_refl _)
      have hbel1 := hbel.trans (hb1.mono hsz)
      have HTL := Lib.hid htl
      clear htl hown
      generalize (lens X).take k = acc at *
      go_wp2_with (at_builtin; refine app_int rfl _ _ rfl w.heap.size _ acc rfl hown1 _ rfl (by rw [HTL.out]; omega) (by have := hbel1.size; omega) ?_; intro v' w4 hown' hb')
      go_roundw
      case rel => exact ⟨k + 1, by omega, by go_num, by rw [HT.out]; exact hown', hbel1.trans hb'⟩
      case measure => simp [intOf]; omega
    · have e : (lens X).take k = lens X := List.take_of_length_le (by rw [lens_len]; omega)
      rw [e] at hown
      clear e
      go_wp2_with (fail)
      go_ret
      exact ⟨_, rfl, hown.own, hbel⟩
end Go.Proofs.Ytgbdpmaajihfdaa
