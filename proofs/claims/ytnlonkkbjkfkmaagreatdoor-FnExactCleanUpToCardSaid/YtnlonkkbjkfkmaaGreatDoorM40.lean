/-
  Texts of this proof: Knt.
-/
import Derived.Test.YtnlonkkbjkfkmaaGreatDoorM38
import Derived.Test.YtnlonkkbjkfkmaaGreatDoorM39
namespace Go.Proofs.YtnlonkkbjkfkmaaGreatDoor
open Go.RowKit
set_option linter.all false
def lens (X : Rowi) : List Int := X.map fun x => (x.length : Int)
theorem lens_len (X : Rowi) : (lens X).length = X.length := by unfold lens; simp
theorem lens_at {X : Rowi} {k : Nat} (h : k < X.length) : (lens X)[k]'(by rw [lens_len]; exact h) = (X[k].length : Int) := by unfold lens; simp
def minN (xs : List Int) : Nat → Int
 | 0 => xs.headD 0
 | k + 1 => if xs.getD k 0 < minN xs k then xs.getD k 0 else minN xs k
theorem minN_one {xs : List Int} (h : 0 < xs.length) : minN xs 1 = xs[0] := by
 match xs, h with
 | x :: l, _ => simp [minN]
theorem minN_lt {xs : List Int} {k : Nat} (hk : k < xs.length) (h : xs[k] < minN xs k) : minN xs (k + 1) = xs[k] := by
 have e : xs.getD k 0 = xs[k] := by rw [List.getD_eq_getElem?_getD, List.getElem?_eq_getElem hk]; rfl
 rw [minN, e, if_pos h]
theorem minN_ge {xs : List Int} {k : Nat} (hk : k < xs.length) (h : ¬ xs[k] < minN xs k) : minN xs (k + 1) = minN xs k := by
 have e : xs.getD k 0 = xs[k] := by rw [List.getD_eq_getElem?_getD, List.getElem?_eq_getElem hk]; rfl
 rw [minN, e, if_neg h]
def knownI (X : Rowi) : Int := if trksB X then minN (lens X) X.length else 0
theorem known_bad {X : Rowi} (h : trksB X = false) : knownI X = 0 := by unfold knownI; rw [h]; rfl
theorem known_ok {X : Rowi} (h : trksB X = true) : knownI X = minN (lens X) (lens X).length := by unfold knownI; rw [h, lens_len]; rfl
set_option maxHeartbeats 1000000 in
theorem minI_any {w : World} {v : Value} {xs : List Int} (h : RdI w v xs) (h0 : 0 < xs.length) (hs : xs.length ≤ 1048576) :
  Calls Tryz.prog 198 #[v] w fun e w' => e = .returned (.int .i64 (minN xs xs.length)) ∧ w = w' := by
 obtain ⟨a, cap, rfl, h⟩ := h
 obtain ⟨b, off, rfl, hc⟩ := h.resolve_left (by intro e; rw [e] at h0; simp at h0)
 have c0 : w.cell? ⟨b, off, none⟩ = some (.int .i64 xs[0]) := hc 0 h0
 have hl0 : 1 ≤ (xs.length : Int) := by omega
 have z0 : decide ((xs.length : Int) < 1) = false := by simp; omega
 have HM1 := Lib.hid (minN_one h0)
 generalize xs[0] = x0 at c0 HM1
 have HC := Lib.hid hc
 clear hc h
 go_enter Tryz.func198, Tryz.ntmps198
 go_wp2_with (fail)
 go_loop [3, 4] (fun m i => ∃ k : Nat, 1 ≤ k ∧ k ≤ xs.length ∧ i = .int .i64 (k : Int) ∧ m = .int .i64 (minN xs k)) (fun _ i => xs.length - (intOf i).toNat)
 case atStart => exact ⟨1, Nat.le_refl _, h0, rfl, by rw [HM1.out]⟩
 case round =>
  obtain ⟨k, hk1, hk, rfl, rfl⟩ := hrel
  by_cases hkl : k < xs.length
  ·have c1 := HC.out k hkl
   have hl1 : (k : Int) < (xs.length : Int) := by omega
   have HL := Lib.hid (fun h => minN_lt hkl h)
   have HG := Lib.hid (fun h => minN_ge hkl h)
   generalize xs[k] = x at c1 HL HG
   have HX := Lib.hid (rfl : minN xs k = minN xs k)
   obtain ⟨m, hm⟩ : ∃ m, m = minN xs k := ⟨_, rfl⟩
   rw [← hm] at HL HG ⊢
   clear hm HX
   by_cases hlt : x < m
   ·have HN := Lib.hid (HL.out hlt)
    have hle : ¬ m ≤ x := by omega
    have hmn : min m x = x := by omega
    go_wp2_with (fail)
    go_round
    case rel => exact ⟨k + 1, by omega, by omega, by go_num, by rw [HN.out]⟩
    case measure => simp [intOf]; omega
   ·have HN := Lib.hid (HG.out hlt)
    have hle : m ≤ x := by omega
    have hmn : min m x = m := by omega
    go_wp2_with (fail)
    go_round
    case rel => exact ⟨k + 1, by omega, by omega, by go_num, by rw [HN.out]⟩
    case measure => simp [intOf]; omega
  ·have e : k = xs.length := by omega
   subst e
   go_wp2_with (fail)
   go_ret
   exact ⟨rfl, rfl⟩
set_option maxHeartbeats 1000000 in
theorem knownCounts_impl {w : World} {v : Value} {X : Rowi} (h : RdR w v X) (hf : Few X) :
  Calls Tryz.prog 196 #[v] w (RetOwn w (lens X)) := by
 obtain ⟨a, cap, rfl, h⟩ := h
 obtain ⟨hn, hi⟩ := hf
 have hmk := fun W => run_make_cap W X.length (by omega)
 have hown0 := OwnR.capped w X.length (by omega)
 go_enter Tryz.func196, Tryz.ntmps196
 go_wp2_with (fail)
 go_loopw [3, 11] (fun c i wr => ∃ k : Nat, k ≤ X.length ∧ i = .int .i64 (k : Int) ∧ OwnR wr w.heap.size c ((lens X).take k) ∧ Below w.heap.size w wr) (fun _ i _ => X.length - (intOf i).toNat)
 case atStart => exact ⟨0, Nat.zero_le _, rfl, hown0, below1 _ _⟩
 case round =>
  obtain ⟨k, hk, rfl, hown, hbel⟩ := hrel
  by_cases hkl : k < X.length
  ·obtain ⟨b, off, rfl, hc⟩ := h.resolve_left (by intro e; rw [e] at hkl; simp at hkl)
   obtain ⟨u, c0, r0⟩ := hc k hkl
   have c1 : wr.cell? ⟨b, off + k, none⟩ = some u := (hbel.cell (World.block_lt_of_cell? w _ c0)).trans c0
   have hkl2 : k < (lens X).length := by rw [lens_len]; exact hkl
   have HT := Lib.hid (List.take_succ_eq_append_getElem hkl2)
   rw [lens_at hkl] at HT
   have htl : ((lens X).take k).length = k := by rw [List.length_take]; omega
   have hl1 : (k : Int) < (X.length : Int) := by omega
   have hsz := hbel.size
   obtain ⟨ax, cx, rfl, -⟩ := id r0
   generalize X[k].length = n at *
   clear hc h c0 r0
   obtain ⟨W1, hW1, hA1, hb1, hS1⟩ := rows1 wr #[.slice ax n cx] 118
   have cA := rowCells hA1
   have hown1 := hown.keep hb1 (Nat.le_refl _)
   have hbel1 := hbel.trans (hb1.mono hsz)
   have HTL := Lib.hid htl
   clear htl hown
   generalize (lens X).take k = acc at *
   go_wp2_with (at_builtin; refine app_int rfl _ _ rfl w.heap.size _ acc rfl hown1 _ rfl (by rw [HTL.out]; omega) (by have := hbel1.size; omega) ?_; intro v' w4 hown' hb')
   go_roundw
   case rel => exact ⟨k + 1, by omega, by go_num, by rw [HT.out]; exact hown', hbel1.trans hb'⟩
   case measure => simp [intOf]; omega
  ·have e : (lens X).take k = lens X := List.take_of_length_le (by rw [lens_len]; omega)
   rw [e] at hown
   clear e
   go_wp2_with (fail)
   go_ret
   exact ⟨_, rfl, hown.own, hbel⟩
set_option maxHeartbeats 1000000 in
theorem knownTicks_impl {w : World} {v : Value} {X : Rowi} (h : RdR w v X) (hf : Few X) :
  Calls Tryz.prog 126 #[v] w fun e w' => e = .returned (.int .i64 (knownI X)) ∧ Below w.heap.size w w' := by
 have hT := tracksOk_impl h hf
 have hv := h
 obtain ⟨a, cap, rfl, -⟩ := h
 cases hq : trksB X with
 | false =>
  rw [hq] at hT
  have HF := Lib.hid (known_bad hq)
  clear hq
  go_enter Tryz.func126, Tryz.ntmps126
  go_wp2_with (fail)
  refine hT.mono ?_
  rintro e w1 ⟨rfl, hb1⟩
  go_wp2_with (fail)
  go_ret
  exact ⟨by rw [HF.out]; rfl, hb1⟩
 | true =>
  rw [hq] at hT
  have HF := Lib.hid (known_ok hq)
  have hx1 := (trksB_facts hq).1
  have hx4 := (trksB_facts hq).2.1
  clear hq
  go_enter Tryz.func126, Tryz.ntmps126
  go_wp2_with (fail)
  refine hT.mono ?_
  rintro e w1 ⟨rfl, hb1⟩
  have hC := knownCounts_impl (hv.keep hb1) hf
  go_wp2_with (fail)
  refine hC.mono ?_
  rintro e w2 ⟨v2, rfl, ho, hb2⟩
  have hM := minI_any ho.rd (by rw [lens_len]; omega) (by rw [lens_len]; omega)
  go_wp2_with (fail)
  refine hM.mono ?_
  rintro e w3 ⟨rfl, rfl⟩
  go_wp2_with (fail)
  go_ret
  exact ⟨by rw [HF.out]; rfl, hb1.trans (hb2.mono hb1.size)⟩
set_option maxHeartbeats 1000000 in
theorem knownTicks_spec {w : World} {v : Value} {X : Rowi} (h : RdR w v X) (hf : Few X) :
  Calls Tryz.prog 125 #[v] w fun e w' => e = .returned (.int .i64 (knownI X)) ∧ Below w.heap.size w w' := by
 have hT := tracksOk_spec h hf
 obtain ⟨hn, hi⟩ := hf
 obtain ⟨a, cap, rfl, h⟩ := h
 cases hq : trksB X with
 | false =>
  rw [hq] at hT
  have HF := Lib.hid (known_bad hq)
  clear hq
  go_enter Tryz.func125, Tryz.ntmps125
  go_wp2_with (fail)
  refine hT.mono ?_
  rintro e w1 ⟨rfl, hb1⟩
  go_wp2_with (fail)
  go_ret
  exact ⟨by rw [HF.out]; rfl, hb1⟩
 | true =>
  rw [hq] at hT
  have HF := Lib.hid (known_ok hq)
  have hx1 := (trksB_facts hq).1
  have hx4 := (trksB_facts hq).2.1
  obtain ⟨b, off, rfl, hc⟩ := h.resolve_left (by intro e; rw [e] at hx1; simp at hx1)
  have hlen := lens_len X
  obtain ⟨u0, d0, s0⟩ := hc 0 (by omega)
  have d0 : w.cell? ⟨b, off, none⟩ = some u0 := d0
  have HM1 := Lib.hid (minN_one (xs := lens X) (by omega))
  rw [lens_at (show 0 < X.length by omega)] at HM1
  obtain ⟨a0, c0, rfl, -⟩ := id s0
  have hn0 := hi X[0] (List.getElem_mem _)
  generalize X[0].length = n0 at d0 HM1 hn0
  have HC := Lib.hid hc
  have hl0 : 0 < X.length := by omega
  have hl0' : 0 < (X.length : Int) := by omega
  have hlt := World.block_lt_of_cell? w _ d0
  clear hq hc h s0
  go_enter Tryz.func125, Tryz.ntmps125
  go_wp2_with (fail)
  refine hT.mono ?_
  rintro e w1 ⟨rfl, hb1⟩
  have d1 := (hb1.cell hlt).trans d0
  go_wp2_with (fail)
  go_loop [3, 4] (fun m i => ∃ k : Nat, 1 ≤ k ∧ k ≤ X.length ∧ i = .int .i64 (k : Int) ∧ m = .int .i64 (minN (lens X) k)) (fun _ i => X.length - (intOf i).toNat)
  case atStart => exact ⟨1, Nat.le_refl _, hl0, rfl, by rw [HM1.out]⟩
  case round =>
   obtain ⟨k, hk1, hk, rfl, rfl⟩ := hrel
   by_cases hkl : k < X.length
   ·obtain ⟨u, e0, r0⟩ := HC.out k hkl
    have c1 := (hb1.cell (World.block_lt_of_cell? w _ e0)).trans e0
    obtain ⟨ax, cx, rfl, -⟩ := id r0
    have hl1 : (k : Int) < (X.length : Int) := by omega
    have hk2 : k < (lens X).length := by omega
    have HL := Lib.hid (fun h => minN_lt hk2 h)
    have HG := Lib.hid (fun h => minN_ge hk2 h)
    rw [lens_at hkl] at HL HG
    have hxn := hi X[k] (List.getElem_mem _)
    clear e0 r0
    generalize X[k].length = x at c1 HL HG hxn
    obtain ⟨m, hm⟩ : ∃ m, m = minN (lens X) k := ⟨_, rfl⟩
    rw [← hm] at HL HG ⊢
    clear hm
    by_cases hlt : (x : Int) < m
    ·have HN := Lib.hid (HL.out hlt)
     have hle : ¬ m ≤ (x : Int) := by omega
     have hmn : min m (x : Int) = (x : Int) := by omega
     go_wp2_with (fail)
     go_round
     case rel => exact ⟨k + 1, by omega, by omega, by go_num, by rw [HN.out]⟩
     case measure => simp [intOf]; omega
    ·have HN := Lib.hid (HG.out hlt)
     have hle : m ≤ (x : Int) := by omega
     have hmn : min m (x : Int) = m := by omega
     go_wp2_with (fail)
     go_round
     case rel => exact ⟨k + 1, by omega, by omega, by go_num, by rw [HN.out]⟩
     case measure => simp [intOf]; omega
   ·have e : k = X.length := by omega
    subst e
    have HLL := Lib.hid hlen
    go_wp2_with (fail)
    go_ret
    exact ⟨by rw [HF.out, HLL.out]; rfl, hb1⟩
end Go.Proofs.YtnlonkkbjkfkmaaGreatDoor
