/-
  RowAt: the contracts of the model and of the program. Lists of at most 2^20 tracks and inputs.
-/
import Derived.Test.YteafgghpkohfpabKnt
namespace Go.Proofs.Yteafgghpkohfpab
open Go.RowKit
set_option linter.all false
def rowL (X : Rowi) (t : Int) : List Int := X.map fun x => prdI x t
def rowS (X : Rowi) (t : Int) : List Int := X.map fun x => predT x t
theorem rowL_len (X : Rowi) (t : Int) : (rowL X t).length = X.length := by unfold rowL; simp
theorem rowS_len (X : Rowi) (t : Int) : (rowS X t).length = X.length := by unfold rowS; simp
theorem rowL_at {X : Rowi} {t : Int} {k : Nat} (h : k < X.length) : (rowL X t)[k]'(by rw [rowL_len]; exact h) = prdI X[k] t := by unfold rowL; simp
theorem rowS_at {X : Rowi} {t : Int} {k : Nat} (h : k < X.length) : (rowS X t)[k]'(by rw [rowS_len]; exact h) = predT X[k] t := by unfold rowS; simp
theorem rowS_eq {X : Rowi} {t : Nat} (h : trksB X = true) : rowS X (t : Int) = rowL X (t : Int) := by
  unfold rowS rowL
  refine List.map_congr_left fun x hx => ?_
  exact predT_good ((trksB_facts h).2.2 x hx)
def ratOk (X : Rowi) (t : Int) : Bool := trksB X && decide (0 ≤ t)
def ratL (X : Rowi) (t : Int) : List Int := if ratOk X t then rowL X t else []
def ratB (X : Rowi) (t : Int) : Bool := if ratOk X t then decide (t < knownI X) else false
theorem rat_no {X : Rowi} {t : Int} (h : trksB X = false ∨ t < 0) : ratL X t = [] ∧ ratB X t = false := by
  have : ratOk X t = false := by unfold ratOk; rcases h with h | h; · rw [h]; rfl
                                 · rw [show decide (0 ≤ t) = false by simp; exact h]; simp
  unfold ratL ratB; rw [this]; exact ⟨rfl, rfl⟩
theorem rat_yes {X : Rowi} {t : Nat} (h : trksB X = true) : ratL X (t : Int) = rowL X (t : Int) ∧ ratB X (t : Int) = decide ((t : Int) < knownI X) := by
  have : ratOk X (t : Int) = true := by unfold ratOk; rw [h]; simp
  unfold ratL ratB; rw [this]; exact ⟨rfl, rfl⟩
def RetOwnB (w : World) (xs : List Int) (b : Bool) (e : Ending) (w' : World) : Prop := ∃ v, e = .returned (.tuple #[v, .bool b]) ∧ OwnI w' w.heap.size v xs ∧ Below w.heap.size w w'
theorem OwnI.nil (w : World) (B : Nat) : OwnI w B (.slice none 0 0) [] := ⟨none, 0, rfl, .inl rfl⟩
set_option maxHeartbeats 1000000 in
theorem rowIn_impl {w : World} {v : Value} {X : Rowi} (h : RdR w v X) (hf : Few X) (t : Nat) :
    Calls Try.prog 43 #[v, .int .i64 (t : Int)] w (RetOwn w (rowL X (t : Int))) := by
  obtain ⟨a, cap, rfl, h⟩ := h
  obtain ⟨hn, hi⟩ := hf
  have hmk := fun W => run_make_cap W X.length (by omega)
  have hown0 := OwnR.capped w X.length (by omega)
  go_enter Try.func43, Try.ntmps43
  go_wp2_with (fail)
  go_loopw [5, 13] (fun c i wr => ∃ k : Nat, k ≤ X.length ∧ i = .int .i64 (k : Int) ∧ OwnR wr w.heap.size c ((rowL X (t : Int)).take k) ∧ Below w.heap.size w wr) (fun _ i _ => X.length - (intOf i).toNat)
  case atStart => exact ⟨0, Nat.zero_le _, rfl, hown0, below1 _ _⟩
  case round =>
    obtain ⟨k, hk, rfl, hown, hbel⟩ := hrel
    by_cases hkl : k < X.length
    · obtain ⟨b, off, rfl, hc⟩ := h.resolve_left (by intro e; rw [e] at hkl; simp at hkl)
      obtain ⟨u, c0, r0⟩ := hc k hkl
      have c1 : wr.cell? ⟨b, off + k, none⟩ = some u := (hbel.cell (World.block_lt_of_cell? w _ c0)).trans c0
      have hkl2 : k < (rowL X (t : Int)).length := by rw [rowL_len]; exact hkl
      have HT := Lib.hid (List.take_succ_eq_append_getElem hkl2)
      rw [rowL_at hkl] at HT
      have htl : ((rowL X (t : Int)).take k).length = k := by rw [List.length_take]; omega
      have hl1 : (k : Int) < (X.length : Int) := by omega
      have hsz := hbel.size
      have hxl := hi X[k] (List.getElem_mem _)
      have R := r0.keep hbel
      obtain ⟨ax, cx, rfl, -⟩ := id r0
      generalize X[k] = x at *
      clear hc h c0 r0
      obtain ⟨W1, hW1, hA1, hb1, hS1⟩ := rows1 wr #[.slice ax x.length cx] 29
      have cA := rowCells hA1
      have hown1 := hown.keep hb1 (Nat.le_refl _)
      have hbel1 := hbel.trans (hb1.mono hsz)
      have hP := predictIn_impl (R.keep hb1) (by omega) t
      have HTL := Lib.hid htl
      clear htl hown R
      generalize (rowL X (t : Int)).take k = acc at *
      go_wp2_with (fail)
      try clear hW1
      refine hP.mono ?_
      rintro e w2 ⟨rfl, hb2⟩
      have hown2 := hown1.keep hb2 (Nat.le_refl _)
      have hbel2 := hbel1.trans (hb2.mono hbel1.size)
      have hs2 := hbel2.size
      generalize prdI x (t : Int) = y at *
      go_wp2_with (at_builtin; refine app_int rfl _ _ rfl w.heap.size _ acc rfl hown2 _ rfl (by rw [HTL.out]; omega) hs2 ?_; intro v' w4 hown' hb')
      go_roundw
      case rel => exact ⟨k + 1, by omega, by go_num, by rw [HT.out]; exact hown', hbel2.trans hb'⟩
      case measure => simp [intOf]; omega
    · have e : (rowL X (t : Int)).take k = rowL X (t : Int) := List.take_of_length_le (by rw [rowL_len]; omega)
      rw [e] at hown
      clear e
      go_wp2_with (fail)
      go_ret
      exact ⟨_, rfl, hown.own, hbel⟩
set_option maxHeartbeats 1000000 in
theorem rowAt_impl {w : World} {v : Value} {X : Rowi} (h : RdR w v X) (hf : Few X) (t : Int) :
    Calls Try.prog 15 #[v, .int .i64 t] w (RetOwnB w (ratL X t) (ratB X t)) := by
  have hT := tracksOk_impl h hf
  have hv := h
  obtain ⟨a, cap, rfl, -⟩ := h
  cases hq : trksB X with
  | false =>
    rw [hq] at hT
    obtain ⟨e1, e2⟩ := rat_no (t := t) (.inl hq)
    rw [e1, e2]
    clear hq e1 e2
    go_enter Try.func15, Try.ntmps15
    go_wp2_with (fail)
    refine hT.mono ?_
    rintro e w1 ⟨rfl, hb1⟩
    go_wp2_with (fail)
    go_ret2
    exact ⟨_, rfl, OwnI.nil _ _, hb1⟩
  | true =>
    rw [hq] at hT
    by_cases ht : t < 0
    · obtain ⟨e1, e2⟩ := rat_no (X := X) (.inr ht)
      rw [e1, e2]
      have z1 : decide (t < 0) = true := by simpa using ht
      clear hq e1 e2
      go_enter Try.func15, Try.ntmps15
      go_wp2_with (fail)
      refine hT.mono ?_
      rintro e w1 ⟨rfl, hb1⟩
      go_wp2_with (fail)
      go_ret2
      exact ⟨_, rfl, OwnI.nil _ _, hb1⟩
    · obtain ⟨k, rfl⟩ := Int.eq_ofNat_of_zero_le (show 0 ≤ t by omega)
      obtain ⟨e1, e2⟩ := rat_yes (t := k) hq
      rw [e1, e2]
      have z1 : decide ((k : Int) < 0) = false := by simp
      clear hq e1 e2 ht
      go_enter Try.func15, Try.ntmps15
      go_wp2_with (fail)
      refine hT.mono ?_
      rintro e w1 ⟨rfl, hb1⟩
      have hR := rowIn_impl (hv.keep hb1) hf k
      go_wp2_with (fail)
      refine hR.mono ?_
      rintro e w2 ⟨v2, rfl, ho, hb2⟩
      have hb12 := hb1.trans (hb2.mono hb1.size)
      have hK := knownTicks_impl (hv.keep hb12) hf
      go_wp2_with (fail)
      refine hK.mono ?_
      rintro e w3 ⟨rfl, hb3⟩
      go_wp2_with (fail)
      go_ret2
      exact ⟨_, rfl, (ho.keep hb3).up hb1.size, hb12.trans (hb3.mono hb12.size)⟩
end Go.Proofs.Yteafgghpkohfpab
