/-
  Predict and SameTrack: the contracts of the model and of the program. No condition.
-/
import Derived.Test.YtiidocjpeepheaaGreatDoorTrO
namespace Go.Proofs.YtiidocjpeepheaaGreatDoor
open Go.RowKit
set_option linter.all false
/-- What is foretold of known inputs xs at tick t. -/
def prdI (xs : List Int) (t : Int) : Int := if t < (xs.length : Int) then xs.getD t.toNat 0 else if xs.length = 0 then 0 else bits .and .i64 (xs.getD (xs.length - 1) 0) 3
def predT (xs : List Int) (t : Int) : Int := if trkB xs = false ∨ t < 0 then -1 else prdI xs t
theorem prd_known {xs : List Int} {k : Nat} (h : k < xs.length) : prdI xs (k : Int) = xs[k] := by
  unfold prdI; rw [if_pos (by omega), Int.toNat_natCast, List.getD_eq_getElem?_getD, List.getElem?_eq_getElem h]; rfl
theorem prd_none {xs : List Int} {t : Int} (ht : 0 ≤ t) (h : xs.length = 0) : prdI xs t = 0 := by
  unfold prdI; rw [if_neg (by omega), if_pos h]
theorem prd_last {xs : List Int} {t : Int} {m : Nat} (hm : xs.length = m + 1) (h : (xs.length : Int) ≤ t) : prdI xs t = bits .and .i64 (xs[m]'(by omega)) 3 := by
  unfold prdI; rw [if_neg (by omega), if_neg (by omega), show xs.length - 1 = m by omega, List.getD_eq_getElem?_getD, List.getElem?_eq_getElem (by omega)]; rfl
set_option maxHeartbeats 1000000 in
theorem predictIn_impl {w : World} {v : Value} {xs : List Int} (h : RdI w v xs) (hs : xs.length ≤ 1099511627776) (t : Nat) :
    Calls Tryz.prog 98 #[.agg #[v], .int .i64 (t : Int)] w fun e w' => e = .returned (.int .i64 (prdI xs (t : Int))) ∧ Below w.heap.size w w' := by
  obtain ⟨a, cap, rfl, h0⟩ := id h
  by_cases hz : xs.length = 0
  · obtain rfl := List.eq_nil_of_length_eq_zero hz
    have HF := Lib.hid (prd_none (xs := []) (t := (t : Int)) (by omega) rfl)
    have ht0 : ¬ t < 0 := by omega
    have ht1 : ¬ (t : Int) < 0 := by omega
    have hnn : ([] : List Int).length = 0 := rfl
    rw [hnn] at *
    obtain ⟨W0, hW, hA, hB0, hS0⟩ := rows1 w #[.slice a 0 cap] 66
    have cA := rowCells hA
    clear hz h0 h
    go_enter Tryz.func98, Tryz.ntmps98
    go_wp2_with (fail)
    go_ret
    exact ⟨by rw [HF.out]; rfl, hB0⟩
  obtain ⟨W0, hW, hA, hB0, hS0⟩ := rows1 w #[.slice a xs.length cap] 66
  have cA := rowCells hA
  obtain ⟨b, off, rfl, hc0⟩ := h0.resolve_left (by intro e; rw [e] at hz; simp at hz)
  have hc := fun j hj => (hB0.cell (World.block_lt_of_cell? w _ (hc0 j hj))).trans (hc0 j hj)
  clear h hc0 h0
  have ht1 : ¬ (t : Int) < 0 := by omega
  by_cases hk : t < xs.length
  · have hk' : (t : Int) < (xs.length : Int) := by omega
    have HF := Lib.hid (prd_known hk)
    have c1 := hc t hk
    generalize xs[t] = x at HF c1
    clear hc
    go_enter Tryz.func98, Tryz.ntmps98
    go_wp2_with (fail)
    go_ret
    exact ⟨by rw [HF.out]; rfl, hB0⟩
  · have hk' : ¬ (t : Int) < (xs.length : Int) := by omega
    obtain ⟨m, hm⟩ : ∃ m, xs.length = m + 1 := ⟨xs.length - 1, by omega⟩
    have HF := Lib.hid (prd_last (t := (t : Int)) hm (by omega))
    have hz' : ¬ (xs.length : Int) = 0 := by omega
    have hm' : (xs.length : Int) - 1 = (m : Int) := by omega
    have hml : m < xs.length := by omega
    have hml' : (m : Int) < (xs.length : Int) := by omega
    have c1 := hc m (by omega)
    generalize xs[m]'(by omega) = x at HF c1
    clear hc hm
    go_enter Tryz.func98, Tryz.ntmps98
    go_wp2_with (fail)
    go_ret
    exact ⟨by rw [HF.out]; rfl, hB0⟩
theorem predT_bad {xs : List Int} {t : Int} (h : trkB xs = false ∨ t < 0) : predT xs t = -1 := by unfold predT; rw [if_pos h]
theorem predT_good {xs : List Int} {t : Nat} (h : trkB xs = true) : predT xs (t : Int) = prdI xs (t : Int) := by
  unfold predT; rw [if_neg]; rw [h]; simp
set_option maxHeartbeats 1000000 in
theorem predict_spec {w : World} {v : Value} {xs : List Int} (h : RdI w v xs) (hs : xs.length ≤ 1099511627776) (t : Int) :
    Calls Tryz.prog 74 #[.agg #[v], .int .i64 t] w fun e w' => e = .returned (.int .i64 (predT xs t)) ∧ Below w.heap.size w w' := by
  obtain ⟨a, cap, rfl, h0⟩ := id h
  obtain ⟨W0, hW, hA, hB0, hS0⟩ := rows1 w #[.slice a xs.length cap] 66
  have cA := rowCells hA
  have hT := trackOk_spec (h.keep hB0) (by omega)
  cases hv : trkB xs with
  | false =>
    have HF := Lib.hid (predT_bad (t := t) (.inl hv))
    rw [hv] at hT
    clear hv h h0
    go_enter Tryz.func74, Tryz.ntmps74
    go_wp2_with (fail)
    clear hW
    refine hT.mono ?_
    rintro e w1 ⟨rfl, hb1⟩
    go_wp2_with (fail)
    go_ret
    exact ⟨by rw [HF.out]; rfl, hB0.trans (hb1.mono hB0.size)⟩
  | true =>
    by_cases ht : t < 0
    · have z1 : decide (t < 0) = true := by simpa using ht
      have HF := Lib.hid (predT_bad (xs := xs) (.inr ht))
      rw [hv] at hT
      clear hv h h0
      go_enter Tryz.func74, Tryz.ntmps74
      go_wp2_with (fail)
      clear hW
      refine hT.mono ?_
      rintro e w1 ⟨rfl, hb1⟩
      go_wp2_with (fail)
      go_ret
      exact ⟨by rw [HF.out]; rfl, hB0.trans (hb1.mono hB0.size)⟩
    obtain ⟨k, rfl⟩ := Int.eq_ofNat_of_zero_le (show 0 ≤ t by omega)
    clear ht
    have ht1 : ¬ (k : Int) < 0 := by omega
    have HV := Lib.hid (predT_good (t := k) hv)
    rw [hv] at hT
    by_cases hz : xs.length = 0
    · obtain rfl := List.eq_nil_of_length_eq_zero hz
      have hT := hT
      have hnn : ([] : List Int).length = 0 := rfl
      have HF := Lib.hid (HV.out.trans (prd_none (xs := []) (t := (k : Int)) (by omega) rfl))
      simp only [List.length_nil] at hT hW hA cA
      subst hW
      clear hz h0 h hv HV
      go_enter Tryz.func74, Tryz.ntmps74
      go_wp2_with (fail)
      refine hT.mono ?_
      rintro e w1 ⟨rfl, hb1⟩
      have cA1 := rowCells (keepHeap hb1 hA)
      clear cA hA
      go_wp2_with (fail)
      go_ret
      exact ⟨by rw [HF.out]; rfl, hB0.trans (hb1.mono hB0.size)⟩
    obtain ⟨b, off, rfl, hc0⟩ := h0.resolve_left (by intro e; rw [e] at hz; simp at hz)
    clear h h0 hv
    by_cases hk : k < xs.length
    · have hk' : (k : Int) < (xs.length : Int) := by omega
      have HF := Lib.hid (HV.out.trans (prd_known hk))
      have c1 := hc0 k hk
      have hlt := World.block_lt_of_cell? w _ c1
      generalize xs[k] = x at HF c1
      clear hc0 HV
      go_enter Tryz.func74, Tryz.ntmps74
      go_wp2_with (fail)
      clear hW
      refine hT.mono ?_
      rintro e w1 ⟨rfl, hb1⟩
      have cA1 := rowCells (keepHeap hb1 hA)
      have hb01 := hB0.trans (hb1.mono hB0.size)
      have c2 := (hb01.cell hlt).trans c1
      clear cA hA c1
      go_wp2_with (fail)
      go_ret
      exact ⟨by rw [HF.out]; rfl, hb01⟩
    · have hk' : ¬ (k : Int) < (xs.length : Int) := by omega
      obtain ⟨m, hm⟩ : ∃ m, xs.length = m + 1 := ⟨xs.length - 1, by omega⟩
      have HF := Lib.hid (HV.out.trans (prd_last (t := (k : Int)) hm (by omega)))
      have hz' : ¬ (xs.length : Int) = 0 := by omega
      have hm' : (xs.length : Int) - 1 = (m : Int) := by omega
      have hml : m < xs.length := by omega
      have hml' : (m : Int) < (xs.length : Int) := by omega
      have c1 := hc0 m (by omega)
      have hlt := World.block_lt_of_cell? w _ c1
      generalize xs[m]'(by omega) = x at HF c1
      clear hc0 hm HV
      go_enter Tryz.func74, Tryz.ntmps74
      go_wp2_with (fail)
      clear hW
      refine hT.mono ?_
      rintro e w1 ⟨rfl, hb1⟩
      have cA1 := rowCells (keepHeap hb1 hA)
      have hb01 := hB0.trans (hb1.mono hB0.size)
      have c2 := (hb01.cell hlt).trans c1
      clear cA hA c1
      go_wp2_with (fail)
      go_ret
      exact ⟨by rw [HF.out]; rfl, hb01⟩
end Go.Proofs.YtiidocjpeepheaaGreatDoor
