/-
  Texts of this proof: LvIm.
-/
import Derived.Test.YtnlonkkbjkfkmaaGreatDoorM17
namespace Go.Proofs.YtnlonkkbjkfkmaaGreatDoor
open Go.RowKit
set_option linter.all false
def openC (row : List UInt8) : Int := if row.dropWhile (· == 35) = [] then -1 else (row.length : Int) - ((row.dropWhile (· == 35)).length : Int)
theorem dropWhile_len (row : List UInt8) (p : UInt8 → Bool) : (row.dropWhile p).length ≤ row.length := by
 induction row with
 | nil => simp
 | cons a l ih => rw [List.dropWhile_cons]; split <;> simp <;> omega
theorem dropWhile_nil (row : List UInt8) : row.dropWhile (· == 35) = [] ↔ row.all (· == 35) = true := by
 induction row with
 | nil => simp
 | cons a l ih =>
  rw [List.dropWhile_cons, List.all_cons]
  by_cases h : (a == 35) = true
  ·rw [if_pos h, h, ih]; simp
  ·rw [if_neg h]; simp at h ⊢; intro e; exact absurd e h
theorem openC_neg (row : List UInt8) : decide (openC row < 0) = row.all (· == 35) := by
 unfold openC
 have hl := dropWhile_len row (· == 35)
 split
 ·rename_i h; rw [(dropWhile_nil row).1 h]; simp
 ·rename_i h
  have : row.all (· == 35) ≠ true := fun e => h ((dropWhile_nil row).2 e)
  rw [Bool.eq_false_iff.2 this]; simp; omega
theorem openColumn_any (row : List UInt8) (hl : row.length ≤ 9223372036854775807) (w : World) :
  Calls Tryz.prog 216 #[.string ⟨row.toArray⟩] w fun e w' => e = .returned (.int .i64 (openC row)) ∧ w = w' := by
 have hT := fun W => Tryz.strings_TrimLeft_one ⟨row.toArray⟩ 35 (by decide) W
 have hd := dropWhile_len row (· == 35)
 have hlc : (row.length : Int) ≤ 9223372036854775807 := by omega
 have hdc : ((row.dropWhile (· == 35)).length : Int) ≤ (row.length : Int) := by omega
 have HF : Hid (openC row = if row.dropWhile (· == 35) = [] then -1 else (row.length : Int) - ((row.dropWhile (· == 35)).length : Int)) := Lib.hid rfl
 unfold Lib.trimLeftB at hT
 simp only at hT
 generalize row.dropWhile (· == 35) = d at hT hd hdc HF
 by_cases h : d = []
 ·subst h
  have z1 : ((row.length : Int) - 0 == (row.length : Int)) = true := bq (by omega)
  go_enter Tryz.func216, Tryz.ntmps216
  go_wp2_with (go_at_call 251; refine (hT _).mono ?_; rintro e w1 ⟨rfl, rfl⟩)
  go_ret
  exact ⟨by rw [HF.out]; rfl, rfl⟩
 ·have hpos : 0 < d.length := List.length_pos_iff.2 h
  have z1 : ((row.length : Int) - (d.length : Int) == (row.length : Int)) = false := bqn (by omega)
  have HG := Lib.hid h
  clear h
  go_enter Tryz.func216, Tryz.ntmps216
  go_wp2_with (go_at_call 251; refine (hT _).mono ?_; rintro e w1 ⟨rfl, rfl⟩)
  go_ret
  exact ⟨by rw [HF.out, if_neg HG.out]; rfl, rfl⟩
set_option maxHeartbeats 2000000 in
theorem shapeOk_any {w : World} {v : Value} {L : Rowz} (h : RdS w v L) (hs : Sane L) :
  Calls Tryz.prog 155 #[v] w fun e w' => e = .returned (.bool (shapeB L)) ∧ w = w' := by
 obtain ⟨a, cap, rfl, h0⟩ := id h
 have hlc : (L.length : Int) ≤ 9223372036854775807 := by have := hs.1; omega
 by_cases h1 : 3 ≤ L.length ∧ L.length ≤ 12
 ·have Q := Lib.hid (show inR (L.length : Int) 3 12 = true by rw [inR_iff]; omega)
  obtain ⟨b, off, rfl, hc⟩ := h0.resolve_left (by intro e; rw [e] at h1; simp at h1)
  have c0 := hc 0 (by omega)
  rw [Nat.add_zero] at c0
  have HW := Lib.hid (show (L[0]'(by omega)).length = wd L by unfold wd; rw [headD_eq (by omega)])
  have hx3 := hs.2 _ (List.getElem_mem (h := by omega) : L[0]'(by omega) ∈ L)
  have HC := Lib.hid hc
  obtain ⟨row0, hrow0⟩ : ∃ x, x = L[0]'(by omega) := ⟨_, rfl⟩
  rw [← hrow0] at c0 hx3 HW
  have hrc : (row0.length : Int) ≤ 9223372036854775807 := by omega
  have HN := Lib.hid h1
  have hn12 : (L.length : Int) ≤ 12 := by omega
  have hpos : 0 < L.length := by omega
  clear h h0 hc hrow0 h1
  by_cases hq : 4 ≤ row0.length ∧ row0.length ≤ 20
  ·have Q2 := Lib.hid (show inR (row0.length : Int) 4 20 = true by rw [inR_iff]; omega)
   have HQ := Lib.hid hq
   clear hq
   go_enter Tryz.func155, Tryz.ntmps155
   go_wp2_with (go_at_call 69; refine (within_impl _ _ _ _).mono ?_; rintro e w1 ⟨rfl, rfl⟩; first | rw [Q.out] | rw [Q2.out])
   go_loop [19] (fun i => ∃ k : Nat, k ≤ L.length ∧ i = .int .i64 (k : Int) ∧ ∀ j (hj : j < L.length), j < k → L[j].length = row0.length) (fun i => L.length - (intOf i).toNat)
   case atStart => exact ⟨0, Nat.zero_le _, rfl, by omega⟩
   case round =>
    obtain ⟨k, hk, rfl, hall⟩ := hrel
    have HA := Lib.hid hall
    clear hall
    by_cases hkl : k < L.length
    ·obtain ⟨row, hrow⟩ : ∃ x, x = L[k] := ⟨_, rfl⟩
     have c1 : w.cell? ⟨b, off + k, none⟩ = some (.string ⟨row.toArray⟩) := by rw [hrow]; exact HC.out k hkl
     have hrl : row.length ≤ 9223372036854775807 := by rw [hrow]; exact hs.2 _ (List.getElem_mem _)
     have hrlc : (row.length : Int) ≤ 9223372036854775807 := by omega
     have hkl' : (k : Int) < (L.length : Int) := by omega
     have HR := Lib.hid hrow
     clear hrow
     by_cases hl : row.length = row0.length
     ·have z1 : ((row.length : Int) != (row0.length : Int)) = false := nqn (by omega)
      have HL := Lib.hid hl
      clear hl
      go_wp2_with (fail)
      try go_quiet (fail)
      try go_wp2_with (fail)
      go_round
      case rel =>
       refine ⟨k + 1, by omega, by go_num, fun j hj hjk => ?_⟩
       by_cases e : j = k
       ·subst e; rw [← HR.out]; exact HL.out
       ·exact HA.out j hj (by omega)
      case measure => simp [intOf]; omega
     ·have z1 : ((row.length : Int) != (row0.length : Int)) = true := nq (by omega)
      have HF := Lib.hid (shapeB_no (L := L) (fun hh => hl (by rw [HW.out, HR.out]; exact hh.2.2.2.2 _ (List.getElem_mem _))))
      clear hl
      go_wp2_with (fail)
      try go_quiet (fail)
      try go_wp2_with (fail)
      go_ret
      exact ⟨by rw [HF.out]; rfl, rfl⟩
    ·have e : k = L.length := by omega
     subst e
     have HF := Lib.hid ((shapeB_iff L).2 ⟨HN.out.1, HN.out.2, by rw [← HW.out]; exact HQ.out.1, by rw [← HW.out]; exact HQ.out.2, fun row hrow => by
      obtain ⟨i, hi, rfl⟩ := List.mem_iff_getElem.1 hrow
      rw [← HW.out]; exact HA.out i hi hi⟩)
     go_wp2_with (fail)
     go_ret
     exact ⟨by rw [HF.out]; rfl, rfl⟩
  ·have Q2 := Lib.hid (show inR (row0.length : Int) 4 20 = false by rw [Bool.eq_false_iff]; intro e; rw [inR_iff] at e; omega)
   have HF := Lib.hid (shapeB_no (L := L) (fun hh => hq (by rw [HW.out]; exact ⟨hh.2.2.1, hh.2.2.2.1⟩)))
   clear hq
   go_enter Tryz.func155, Tryz.ntmps155
   go_wp2_with (go_at_call 69; refine (within_impl _ _ _ _).mono ?_; rintro e w1 ⟨rfl, rfl⟩; first | rw [Q.out] | rw [Q2.out])
   go_ret
   exact ⟨by rw [HF.out]; rfl, rfl⟩
 ·have Q := Lib.hid (show inR (L.length : Int) 3 12 = false by rw [Bool.eq_false_iff]; intro e; rw [inR_iff] at e; omega)
  have HF := Lib.hid (shapeB_no (L := L) (fun hh => h1 ⟨hh.1, hh.2.1⟩))
  clear h1 h0 h
  go_enter Tryz.func155, Tryz.ntmps155
  go_wp2_with (go_at_call 69; refine (within_impl _ _ _ _).mono ?_; rintro e w1 ⟨rfl, rfl⟩; rw [Q.out])
  go_ret
  exact ⟨by rw [HF.out]; rfl, rfl⟩
theorem borderB_row {L : Rowz} {k : Nat} (hk : k < L.length) (h : ¬ (L[k].headD 0 = 35 ∧ L[k].getD (wd L - 1) 0 = 35)) : borderB L = false := by
 rw [Bool.eq_false_iff]
 intro e
 unfold borderB at e
 simp only [Bool.and_eq_true, List.all_eq_true, beq_iff_eq] at e
 exact h (e.1 L[k] (List.getElem_mem _))
theorem borderB_rows {L : Rowz} (h : ∀ k (hk : k < L.length), L[k].headD 0 = 35 ∧ L[k].getD (wd L - 1) 0 = 35) : borderB L = ((L.headD []).all (· == 35) && (L.getLastD []).all (· == 35)) := by
 unfold borderB
 have : (L.all fun row => row.headD 0 == 35 && row.getD (wd L - 1) 0 == 35) = true := by
  simp only [Bool.and_eq_true, List.all_eq_true, beq_iff_eq]
  intro row hrow
  obtain ⟨i, hi, rfl⟩ := List.mem_iff_getElem.1 hrow
  exact h i hi
 rw [this, Bool.true_and]
theorem getD_of {row : List UInt8} {k : Nat} (h : k < row.length) : row.getD k 0 = row[k] := by rw [List.getD_eq_getElem?_getD, List.getElem?_eq_getElem h, Option.getD_some]
theorem headD_of {row : List UInt8} (h : 0 < row.length) : row.headD 0 = row[0] := by
 cases row with
 | nil => simp at h
 | cons a l => rfl
set_option maxHeartbeats 2000000 in
theorem borderOk_any {w : World} {v : Value} {L : Rowz} (h : RdS w v L) (hsh : shapeB L = true) :
  Calls Tryz.prog 156 #[v] w fun e w' => e = .returned (.bool (borderB L)) ∧ w = w' := by
 obtain ⟨hn3, hn12, hw4, hw20, hall⟩ := (shapeB_iff L).1 hsh
 obtain ⟨a, cap, rfl, h0⟩ := id h
 obtain ⟨b, off, rfl, hc⟩ := h0.resolve_left (by intro e; rw [e] at hn3; simp at hn3)
 have hlen : ∀ i (hi : i < L.length), L[i].length = wd L := fun i hi => hall _ (List.getElem_mem _)
 have c0 := hc 0 (by omega)
 rw [Nat.add_zero] at c0
 have hl0 := hlen 0 (by omega)
 have hcz := hc (L.length - 1) (by omega)
 have hlz := hlen (L.length - 1) (by omega)
 have hhd := headD_eq (L := L) (by omega)
 have hls := getLastD_eq (L := L) (r := L.length - 1) (by omega) (by omega)
 obtain ⟨row0, hrow0⟩ : ∃ x, x = L[0]'(by omega) := ⟨_, rfl⟩
 obtain ⟨rowz, hrowz⟩ : ∃ x, x = L[L.length - 1]'(by omega) := ⟨_, rfl⟩
 rw [← hrow0] at c0 hl0 hhd
 rw [← hrowz] at hcz hlz hls
 obtain ⟨m, hm⟩ : ∃ m, m = wd L := ⟨_, rfl⟩
 have hnl : (L.length : Int) - 1 = ((L.length - 1 : Nat) : Int) := by omega
 have HLEN := Lib.hid hlen
 have HC := Lib.hid hc
 have HM := Lib.hid hm
 have H0 := Lib.hid (hl0.trans hm.symm)
 have HZ := Lib.hid (hlz.trans hm.symm)
 have HH := Lib.hid hhd
 have HLS := Lib.hid hls
 have hrc : (row0.length : Int) ≤ 20 := by omega
 have hr4 : 4 ≤ (row0.length : Int) := by omega
 have hrl0 : row0.length ≤ 9223372036854775807 := by omega
 have hrlz : rowz.length ≤ 9223372036854775807 := by omega
 have hnc : (L.length : Int) ≤ 12 := by omega
 have hpos : 0 < L.length := by omega
 have hm20 : m ≤ 20 := by omega
 have hm4 : 4 ≤ m := by omega
 have hrm : (row0.length : Int) - 1 = ((m - 1 : Nat) : Int) := by omega
 obtain ⟨m1, hm1⟩ : ∃ m1, m1 = m - 1 := ⟨_, rfl⟩
 obtain ⟨n1, hn1⟩ : ∃ n1, n1 = L.length - 1 := ⟨_, rfl⟩
 rw [← hm1] at hrm
 rw [← hn1] at hnl hcz
 have hn1l : n1 < L.length := by omega
 have hn1c : (n1 : Int) < (L.length : Int) := by omega
 have HM1 := Lib.hid hm1
 clear h h0 hc hlen hall hl0 hlz hhd hls hrow0 hrowz hm hm1 hn1 hsh hw4 hw20 hn3 hn12
 go_enter Tryz.func156, Tryz.ntmps156
 go_wp2_with (fail)
 go_loop [13] (fun i => ∃ k : Nat, k ≤ L.length ∧ i = .int .i64 (k : Int) ∧ ∀ j (hj : j < L.length), j < k → L[j].headD 0 = 35 ∧ L[j].getD (wd L - 1) 0 = 35) (fun i => L.length - (intOf i).toNat)
 case atStart => exact ⟨0, Nat.zero_le _, rfl, by omega⟩
 case round =>
  obtain ⟨k, hk, rfl, hall⟩ := hrel
  have HA := Lib.hid hall
  clear hall
  by_cases hkl : k < L.length
  ·obtain ⟨row, hrow⟩ : ∃ x, x = L[k] := ⟨_, rfl⟩
   have c1 : w.cell? ⟨b, off + k, none⟩ = some (.string ⟨row.toArray⟩) := by rw [hrow]; exact HC.out k hkl
   have hrl : row.length = m := by rw [hrow, HM.out]; exact HLEN.out k hkl
   have hkl' : (k : Int) < (L.length : Int) := by omega
   have hp0 : 0 < row.length := by omega
   have hp1 : m1 < row.length := by have := HM1.out; omega
   obtain ⟨x, hx⟩ : ∃ x, x = row[0] := ⟨_, rfl⟩
   obtain ⟨y, hy⟩ : ∃ y, y = row[m1] := ⟨_, rfl⟩
   have hi0 := fun W => run_at (l := row) (k := 0) (c := x) W hp0 hx.symm
   have hi1 := fun W => run_at (l := row) (k := m1) (c := y) W hp1 hy.symm
   have hbd : L[k].headD 0 = x ∧ L[k].getD (wd L - 1) 0 = y := by
    rw [← hrow, headD_of hp0, ← HM.out, ← HM1.out, getD_of hp1]; exact ⟨hx.symm, hy.symm⟩
   have HBD := Lib.hid hbd
   have hix0 : ∀ W, (Instr.index 9 (.string ⟨row.toArray⟩) (.int .i64 0)).run Tryz.prog W = .ok (.int .u8 (x.toNat : Int)) W := hi0
   clear hrow hx hy hbd hi0
   by_cases tx : x.toNat = 35
   ·have z1 : ((x.toNat : Int) != 35) = false := nqn (by omega)
    by_cases ty : y.toNat = 35
    ·have z2 : ((y.toNat : Int) != 35) = false := nqn (by omega)
     have HX : Hid (x = 35 ∧ y = 35) := Lib.hid ⟨by rw [← UInt8.toNat_inj]; exact tx, by rw [← UInt8.toNat_inj]; exact ty⟩
     have HRL := Lib.hid hrl
     clear tx ty hrl
     go_wp2_with (fail)
     go_round
     case rel =>
      refine ⟨k + 1, by omega, by go_num, fun j hj hjk => ?_⟩
      by_cases e : j = k
      ·subst e; have h1 := HBD.out; have h2 := HX.out; rw [h1.1, h1.2]; exact h2
      ·exact HA.out j hj (by omega)
     case measure => simp [intOf]; omega
    ·have z2 : ((y.toNat : Int) != 35) = true := nq (by omega)
     have HF := Lib.hid (borderB_row hkl (fun hh => ty (by have h1 := HBD.out; rw [h1.2] at hh; rw [hh.2]; rfl)))
     have HRL := Lib.hid hrl
     clear tx ty hrl
     go_wp2_with (fail)
     go_ret
     exact ⟨by rw [HF.out]; rfl, rfl⟩
   ·have z1 : ((x.toNat : Int) != 35) = true := nq (by omega)
    have HF := Lib.hid (borderB_row hkl (fun hh => tx (by have h1 := HBD.out; rw [h1.1] at hh; rw [hh.1]; rfl)))
    have HRL := Lib.hid hrl
    clear tx hrl
    go_wp2_with (fail)
    go_ret
    exact ⟨by rw [HF.out]; rfl, rfl⟩
  ·have e : k = L.length := by omega
   subst e
   have hB := borderB_rows (L := L) (fun k hk => HA.out k hk hk)
   rw [HH.out, HLS.out, ← openC_neg, ← openC_neg] at hB
   have HB := Lib.hid hB
   clear hB
   cases zo : decide (openC row0 < 0)
   ·rw [zo] at HB
    go_wp2_with (go_at_call 216; refine (openColumn_any _ hrl0 _).mono ?_; rintro e w1 ⟨rfl, rfl⟩)
    go_ret
    exact ⟨by rw [HB.out]; rfl, rfl⟩
   ·rw [zo] at HB
    go_wp2_with (fail)
    refine (openColumn_any _ hrl0 _).mono ?_
    rintro e w1 ⟨rfl, rfl⟩
    go_wp2_with (fail)
    refine (openColumn_any _ hrlz _).mono ?_
    rintro e w1 ⟨rfl, rfl⟩
    go_wp2_with (fail)
    go_ret
    exact ⟨by rw [HB.out]; rfl, rfl⟩
end Go.Proofs.YtnlonkkbjkfkmaaGreatDoor
