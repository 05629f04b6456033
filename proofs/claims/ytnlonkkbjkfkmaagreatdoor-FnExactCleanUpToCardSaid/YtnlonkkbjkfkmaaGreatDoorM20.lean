/-
  Texts of this proof: Solid.
-/
import Derived.Test.YtnlonkkbjkfkmaaGreatDoorM19
namespace Go.Proofs.YtnlonkkbjkfkmaaGreatDoor
open Go.RowKit
set_option linter.all false
theorem belowN {B : Nat} {w W : World} (h : Below B w W) (n : Nat) : Below B w (W.drewN n) := ⟨h.os, h.tape, h.output, h.size, h.block⟩
def Good (L : Rowz) : Prop := 3 ≤ L.length ∧ L.length ≤ 12 ∧ 4 ≤ wd L ∧ wd L ≤ 20 ∧ ∀ row ∈ L, row.length = wd L
theorem Good.row {L : Rowz} (h : Good L) {r : Nat} (hr : r < L.length) : L[r].length = wd L := h.2.2.2.2 _ (List.getElem_mem _)
theorem Good.sane {L : Rowz} (h : Good L) : Sane L := ⟨by have := h.2.1; omega, fun s hs => by have := h.2.2.2.2 s hs; have := h.2.2.2.1; omega⟩
def cellN (L : Rowz) (r c : Nat) : Bool := decide (L.length ≤ r) || (decide (wd L ≤ c) || (((atL L r c).toNat : Int) == 35))
def blockN (L : Rowz) (X Y S : Nat) : Bool := cellN L (Y / 16) (X / 16) || (cellN L (Y / 16) ((X + S - 1) / 16) || (cellN L ((Y + S - 1) / 16) (X / 16) || cellN L ((Y + S - 1) / 16) ((X + S - 1) / 16)))
def blockB (L : Rowz) (x y s : Int) : Bool := decide (x < 0) || (decide (y < 0) || blockN L x.toNat y.toNat s.toNat)
theorem cellN_out {L : Rowz} {r c : Nat} (h : L.length ≤ r ∨ wd L ≤ c) : cellN L r c = true := by
 unfold cellN; rcases h with h | h <;> simp [h]
theorem cellN_in {L : Rowz} {r c : Nat} (h : Good L) (hr : r < L.length) (hc : c < wd L) : cellN L r c = (((L[r][c]'(by rw [h.row hr]; exact hc)).toNat : Int) == 35) := by
 unfold cellN
 rw [decide_eq_false (by omega), decide_eq_false (by omega), atL_eq hr (by rw [h.row hr]; exact hc)]
 rfl
theorem blockB_neg {L : Rowz} {x y s : Int} (h : x < 0 ∨ y < 0) : blockB L x y s = true := by
 unfold blockB; rcases h with h | h <;> simp [h]
theorem blockB_nat {L : Rowz} (X Y S : Nat) : blockB L (X : Int) (Y : Int) (S : Int) = blockN L X Y S := by
 unfold blockB
 rw [decide_eq_false (by omega), decide_eq_false (by omega)]; simp
theorem blockN_hit {L : Rowz} {X Y S r c : Nat} (hr : r = Y / 16 ∨ r = (Y + S - 1) / 16) (hc : c = X / 16 ∨ c = (X + S - 1) / 16) (h : cellN L r c = true) : blockN L X Y S = true := by
 unfold blockN
 rcases hr with rfl | rfl <;> rcases hc with rfl | rfl <;> rw [h] <;> simp
theorem blockN_no {L : Rowz} {X Y S : Nat} (h : ∀ r c, (r = Y / 16 ∨ r = (Y + S - 1) / 16) → (c = X / 16 ∨ c = (X + S - 1) / 16) → cellN L r c = false) : blockN L X Y S = false := by
 unfold blockN
 rw [h _ _ (.inl rfl) (.inl rfl), h _ _ (.inl rfl) (.inr rfl), h _ _ (.inr rfl) (.inl rfl), h _ _ (.inr rfl) (.inr rfl)]; rfl
set_option maxRecDepth 100000 in
set_option maxHeartbeats 4000000 in
theorem solid_spec {w : World} {v : Value} {L : Rowz} (h : RdS w v L) (hg : Good L) (x y : Int) (S : Nat) (hs1 : 1 ≤ S) (hs2 : S ≤ 16) (hx1 : x ≤ 9223372036854775807) (hy1 : y ≤ 9223372036854775807) (hx0 : -9223372036854775808 ≤ x) (hy0 : -9223372036854775808 ≤ y) :
  Calls Tryz.prog 241 #[.agg #[v], .int .i64 x, .int .i64 y, .int .i64 (S : Int)] w fun e w' => e = .returned (.bool (blockB L x y (S : Int))) ∧ Below w.heap.size w w' := by
 obtain ⟨a, cap, rfl, h0⟩ := id h
 obtain ⟨hn3, hn12, hw4, hw20, -⟩ := id hg
 have hbx : Below w.heap.size w (w.alloc (.cells #[.slice a L.length cap] 26)) := below1 _ _
 by_cases hin : (0 ≤ x ∧ x ≤ 1000) ∧ (0 ≤ y ∧ y ≤ 1000)
 ·obtain ⟨⟨hx2, hx3⟩, hy2, hy3⟩ := hin
  obtain ⟨X, rfl⟩ := Int.eq_ofNat_of_zero_le hx2
  obtain ⟨Y, rfl⟩ := Int.eq_ofNat_of_zero_le hy2
  rw [blockB_nat]
  obtain ⟨b, off, rfl, hc⟩ := h0.resolve_left (by intro e; rw [e] at hn3; simp at hn3)
  have hlt := World.block_lt_of_cell? w _ (hc 0 (by omega))
  obtain ⟨W0, hW, hA, hB0⟩ : ∃ W0, w.alloc (.cells #[.slice (some ⟨b, off, none⟩) L.length cap] 26) = W0 ∧ W0.heap[w.heap.size]? = some (.cells #[.slice (some ⟨b, off, none⟩) L.length cap] 26 (0, 0)) ∧ Below w.heap.size w W0 := ⟨_, rfl, heap_alloc_new w _, below1 _ _⟩
  have cA := rowCells hA
  have HC := Lib.hid (fun r (hr : r < L.length) => (hB0.cell (p := ⟨b, off + r, none⟩) hlt).trans (hc r hr))
  obtain ⟨r0, hr0⟩ : ∃ r0, r0 = Y / 16 := ⟨_, rfl⟩
  obtain ⟨r1, hr1⟩ : ∃ r1, r1 = (Y + S - 1) / 16 := ⟨_, rfl⟩
  obtain ⟨c0, hc0⟩ : ∃ c0, c0 = X / 16 := ⟨_, rfl⟩
  obtain ⟨c1, hc1⟩ : ∃ c1, c1 = (X + S - 1) / 16 := ⟨_, rfl⟩
  have e1 : (Y : Int) / 16 = (r0 : Int) := by omega
  have e2 : ((Y : Int) + (S : Int) - 1) / 16 = (r1 : Int) := by omega
  have e3 : (X : Int) / 16 = (c0 : Int) := by omega
  have e4 : ((X : Int) + (S : Int) - 1) / 16 = (c1 : Int) := by omega
  have hr01 : r0 ≤ r1 ∧ r1 ≤ r0 + 1 := by omega
  have hc01 : c0 ≤ c1 ∧ c1 ≤ c0 + 1 := by omega
  have hr63 : r1 ≤ 63 := by omega
  have hc63 : c1 ≤ 63 := by omega
  have hsc : (S : Int) ≤ 16 := by omega
  have hsc1 : 1 ≤ (S : Int) := by omega
  have hnc : (L.length : Int) ≤ 12 := by omega
  have Q1 := Lib.hid (show inR (X : Int) 0 1000 = true by rw [inR_iff]; omega)
  have Q2 := Lib.hid (show inR (Y : Int) 0 1000 = true by rw [inR_iff]; omega)
  have HH := Lib.hid (fun r c h1 h2 h3 => blockN_hit (L := L) (X := X) (Y := Y) (S := S) (r := r) (c := c) h1 h2 h3)
  have HNo := Lib.hid (fun h => blockN_no (L := L) (X := X) (Y := Y) (S := S) h)
  rw [← hr0, ← hr1, ← hc0, ← hc1] at HNo
  have HH2 : Hid (∀ r c, (r = r0 ∨ r = r1) → (c = c0 ∨ c = c1) → cellN L r c = true → blockN L X Y S = true) := Lib.hid (fun r c h1 h2 h3 => HH.out r c (by rw [← hr0, ← hr1]; exact h1) (by rw [← hc0, ← hc1]; exact h2) h3)
  clear HH hr0 hr1 hc0 hc1 hbx h h0 hc
  obtain ⟨hr01, hr02⟩ := hr01
  obtain ⟨hc01, hc02⟩ := hc01
  go_enter Tryz.func241, Tryz.ntmps241
  go_wp2_with (first
   | (go_at_call_of 88 (Value.int .i64 (X : Int)); refine (in_spec _ _ _ _).mono ?_; rintro e w1 ⟨rfl, rfl⟩; rw [Q1.out])
   | (go_at_call_of 88 (Value.int .i64 (Y : Int)); refine (in_spec _ _ _ _).mono ?_; rintro e w1 ⟨rfl, rfl⟩; rw [Q2.out]))
  clear hW
  go_loop [9] (fun i => ∃ r : Nat, r0 ≤ r ∧ r ≤ r1 + 1 ∧ i = .int .i64 (r : Int) ∧ ∀ r' c, r0 ≤ r' → r' < r → c0 ≤ c → c ≤ c1 → cellN L r' c = false) (fun i => r1 + 1 - (intOf i).toNat)
  case atStart => exact ⟨r0, Nat.le_refl _, by omega, rfl, by omega⟩
  case round =>
   obtain ⟨r, hr1, hr2, rfl, hall⟩ := hrel
   have HA := Lib.hid hall
   clear hall
   by_cases hrr : r ≤ r1
   ·have z0 : decide ((r : Int) ≤ (r1 : Int)) = true := by simp; omega
    have hrc : (r : Int) ≤ 63 := by omega
    go_wp2_with (fail)
    go_loop [10] (fun j => ∃ c : Nat, c0 ≤ c ∧ c ≤ c1 + 1 ∧ j = .int .i64 (c : Int) ∧ ∀ c', c0 ≤ c' → c' < c → cellN L r c' = false) (fun j => c1 + 1 - (intOf j).toNat)
    case atStart => exact ⟨c0, Nat.le_refl _, by omega, rfl, by omega⟩
    case round =>
     obtain ⟨c, hd1, hd2, rfl, hall⟩ := hrel
     have HB := Lib.hid hall
     clear hall
     by_cases hcc : c ≤ c1
     ·have z1 : decide ((c : Int) ≤ (c1 : Int)) = true := by simp; omega
      have hcl : (c : Int) ≤ 63 := by omega
      by_cases hrn : r < L.length
      ·have z2 : decide ((L.length : Int) ≤ (r : Int)) = false := by simp; omega
       have hrn' : (r : Int) < (L.length : Int) := by omega
       obtain ⟨row, hrow⟩ : ∃ x, x = L[r] := ⟨_, rfl⟩
       have cr := HC.out r hrn
       have hrl := hg.row hrn
       rw [← hrow] at cr hrl
       by_cases hcw : c < row.length
       ·have z3 : decide ((row.length : Int) ≤ (c : Int)) = false := by simp; omega
        have hcw' : (c : Int) < (row.length : Int) := by omega
        obtain ⟨t, ht⟩ : ∃ t, t = row[c] := ⟨_, rfl⟩
        have hix : (ByteArray.mk row.toArray)[c]'hcw = t := ht.symm
        have hidx := fun W => run_at W hcw hix
        have HE := Lib.hid (cellN_in hg hrn (c := c) (by rw [← hrl]; exact hcw))
        have htt : (L[r][c]'(by rw [← hrow]; exact hcw)) = t := by rw [ht]; congr 1; exact hrow.symm
        rw [htt] at HE
        have HRL := Lib.hid hrl
        clear hix ht htt hrow hrl
        cases z4 : (((t.toNat : Nat) : Int) == 35) with
        | true =>
         rw [z4] at HE
         have HF := Lib.hid (HH2.out r c (by omega) (by omega) HE.out)
         go_wp2_with (fail)
         go_ret
         exact ⟨by rw [HF.out]; rfl, hB0⟩
        | false =>
         rw [z4] at HE
         go_wp2_with (fail)
         go_round
         case rel =>
          refine ⟨c + 1, by omega, by omega, by go_num, fun c' h1 h2 => ?_⟩
          by_cases e : c' = c
          ·subst e; exact HE.out
          ·exact HB.out c' h1 (by omega)
         case measure => simp [intOf]; omega
       ·have z3 : decide ((row.length : Int) ≤ (c : Int)) = true := by simp; omega
        have HF := Lib.hid (HH2.out r c (by omega) (by omega) (cellN_out (.inr (by rw [← hrl]; omega))))
        have HRL := Lib.hid hrl
        clear hrow hrl
        go_wp2_with (fail)
        go_ret
        exact ⟨by rw [HF.out]; rfl, hB0⟩
      ·have z2 : decide ((L.length : Int) ≤ (r : Int)) = true := by simp; omega
       have HF := Lib.hid (HH2.out r c (by omega) (by omega) (cellN_out (.inl (by omega))))
       go_wp2_with (fail)
       go_ret
       exact ⟨by rw [HF.out]; rfl, hB0⟩
     ·have z1 : decide ((c : Int) ≤ (c1 : Int)) = false := by simp; omega
      go_wp2_with (fail)
      go_round
      case rel =>
       refine ⟨r + 1, by omega, by omega, by go_num, fun r' c' h1 h2 h3 h4 => ?_⟩
       by_cases e : r' = r
       ·subst e; exact HB.out c' h3 (by omega)
       ·exact HA.out r' c' h1 (by omega) h3 h4
      case measure => simp [intOf]; omega
   ·have z0 : decide ((r : Int) ≤ (r1 : Int)) = false := by simp; omega
    have HF := Lib.hid (HNo.out (fun r' c' h1 h2 => HA.out r' c' (by omega) (by omega) (by omega) (by omega)))
    go_wp2_with (fail)
    go_ret
    exact ⟨by rw [HF.out]; rfl, hB0⟩
 ·have HF := Lib.hid (show blockB L x y (S : Int) = true by
   by_cases hn : x < 0 ∨ y < 0
   ·exact blockB_neg hn
   ·obtain ⟨X, rfl⟩ := Int.eq_ofNat_of_zero_le (a := x) (by omega)
    obtain ⟨Y, rfl⟩ := Int.eq_ofNat_of_zero_le (a := y) (by omega)
    rw [blockB_nat]
    exact blockN_hit (.inl rfl) (.inl rfl) (cellN_out (by omega)))
  cases q1 : inR x 0 1000 with
  | false =>
   have Q1 := Lib.hid q1
   clear q1 hin
   go_enter Tryz.func241, Tryz.ntmps241
   go_wp2_with (go_at_call 88; refine (in_spec _ _ _ _).mono ?_; rintro e w1 ⟨rfl, rfl⟩; rw [Q1.out])
   go_ret
   exact ⟨by rw [HF.out]; rfl, hbx⟩
  | true =>
   have Q1 := Lib.hid q1
   have q2 : inR y 0 1000 = false := by
    rw [Bool.eq_false_iff]; intro e; rw [inR_iff] at e q1; exact hin ⟨q1, e⟩
   have Q2 := Lib.hid q2
   clear q1 q2 hin
   go_enter Tryz.func241, Tryz.ntmps241
   go_wp2_with (fail)
   refine (in_spec _ _ _ _).mono ?_
   rintro e w1 ⟨rfl, rfl⟩
   rw [Q1.out]
   go_wp2_with (fail)
   refine (in_spec _ _ _ _).mono ?_
   rintro e w1 ⟨rfl, rfl⟩
   rw [Q2.out]
   go_wp2_with (fail)
   go_ret
   exact ⟨by rw [HF.out]; rfl, hbx⟩
theorem blockN_far {L : Rowz} {X Y S : Nat} (hS : 1 ≤ S) (h : 16 * wd L < X + S ∨ 16 * L.length < Y + S) : blockN L X Y S = true := by
 rcases h with h | h
 ·exact blockN_hit (r := Y / 16) (c := (X + S - 1) / 16) (.inl rfl) (.inr rfl) (cellN_out (by omega))
 ·exact blockN_hit (r := (Y + S - 1) / 16) (c := X / 16) (.inr rfl) (.inl rfl) (cellN_out (by omega))
set_option maxRecDepth 100000 in
set_option maxHeartbeats 4000000 in
theorem blocked_impl {w : World} {v : Value} {L : Rowz} (h : RdS w v L) (hg : Good L) (x y : Int) (S : Nat) (hs1 : 1 ≤ S) (hs2 : S ≤ 16) (hx1 : x ≤ 9223372036854775807) (hy1 : y ≤ 9223372036854775807) (hx0 : -9223372036854775808 ≤ x) (hy0 : -9223372036854775808 ≤ y) :
  Calls Tryz.prog 213 #[.agg #[v], .int .i64 x, .int .i64 y, .int .i64 (S : Int)] w fun e w' => e = .returned (.bool (blockB L x y (S : Int))) ∧ Below w.heap.size w w' := by
 obtain ⟨a, cap, rfl, h0⟩ := id h
 obtain ⟨hn3, hn12, hw4, hw20, -⟩ := id hg
 obtain ⟨b, off, rfl, hc⟩ := h0.resolve_left (by intro e; rw [e] at hn3; simp at hn3)
 have hlt := World.block_lt_of_cell? w _ (hc 0 (by omega))
 obtain ⟨W0, hW, hA, hB0⟩ : ∃ W0, w.alloc (.cells #[.slice (some ⟨b, off, none⟩) L.length cap] 26) = W0 ∧ W0.heap[w.heap.size]? = some (.cells #[.slice (some ⟨b, off, none⟩) L.length cap] 26 (0, 0)) ∧ Below w.heap.size w W0 := ⟨_, rfl, heap_alloc_new w _, below1 _ _⟩
 have cA := rowCells hA
 have HC := Lib.hid (fun r (hr : r < L.length) => (hB0.cell (p := ⟨b, off + r, none⟩) hlt).trans (hc r hr))
 have cz := HC.out 0 (by omega)
 rw [Nat.add_zero] at cz
 have hrz := hg.row (r := 0) (by omega)
 obtain ⟨row0, hrow0⟩ : ∃ x, x = L[0]'(by omega) := ⟨_, rfl⟩
 rw [← hrow0] at cz hrz
 have HRZ := Lib.hid hrz
 have hz20 : (row0.length : Int) ≤ 20 := by omega
 have hz4 : 4 ≤ (row0.length : Int) := by omega
 have hnc : (L.length : Int) ≤ 12 := by omega
 have hnc3 : 3 ≤ (L.length : Int) := by omega
 have hpos : 0 < L.length := by omega
 have hsc : (S : Int) ≤ 16 := by omega
 have hsc1 : 1 ≤ (S : Int) := by omega
 have hwz : wd L = row0.length := hrz.symm
 have HWZ := Lib.hid hwz
 have hw16 : IntKind.i64.wrap (16 * (row0.length : Int)) = 16 * (row0.length : Int) := IntWalk.i64_in _ (by omega)
 have hn16 : IntKind.i64.wrap (16 * (L.length : Int)) = 16 * (L.length : Int) := IntWalk.i64_in _ (by omega)
 clear h h0 hc hrow0 hrz hwz
 by_cases k1 : x < 0
 ·have HF := Lib.hid (blockB_neg (L := L) (s := (S : Int)) (y := y) (.inl k1))
  have z1 : decide (x < 0) = true := by simpa using k1
  clear k1
  go_enter Tryz.func213, Tryz.ntmps213
  go_wp2_with (fail)
  go_quiet (fail)
  go_wp2_with (fail)
  go_ret
  exact ⟨by rw [HF.out]; rfl, belowN hB0 _⟩
 ·have z1 : decide (x < 0) = false := by simpa using k1
  by_cases k2 : y < 0
  ·have HF := Lib.hid (blockB_neg (L := L) (s := (S : Int)) (x := x) (.inr k2))
   have z2 : decide (y < 0) = true := by simpa using k2
   clear k1 k2
   go_enter Tryz.func213, Tryz.ntmps213
   go_wp2_with (fail)
   go_quiet (fail)
   go_wp2_with (fail)
   go_ret
   exact ⟨by rw [HF.out]; rfl, belowN hB0 _⟩
  ·have z2 : decide (y < 0) = false := by simpa using k2
   obtain ⟨X, rfl⟩ := Int.eq_ofNat_of_zero_le (a := x) (by omega)
   obtain ⟨Y, rfl⟩ := Int.eq_ofNat_of_zero_le (a := y) (by omega)
   rw [blockB_nat]
   by_cases k3 : 16 * wd L < X + S
   ·have HF := Lib.hid (blockN_far (L := L) (X := X) (Y := Y) (S := S) hs1 (.inl k3))
    have z3 : decide (16 * (row0.length : Int) - (S : Int) < (X : Int)) = true := by have := HWZ.out; simp; omega
    clear k1 k2 k3
    go_enter Tryz.func213, Tryz.ntmps213
    go_wp2_with (fail)
    go_quiet (fail)
    go_wp2_with (fail)
    go_ret
    exact ⟨by rw [HF.out]; rfl, belowN hB0 _⟩
   ·have z3 : decide (16 * (row0.length : Int) - (S : Int) < (X : Int)) = false := by have := HWZ.out; simp; omega
    by_cases k4 : 16 * L.length < Y + S
    ·have HF := Lib.hid (blockN_far (L := L) (X := X) (Y := Y) (S := S) hs1 (.inr k4))
     have z4 : decide (16 * (L.length : Int) - (S : Int) < (Y : Int)) = true := by simp; omega
     clear k1 k2 k3 k4
     go_enter Tryz.func213, Tryz.ntmps213
     go_wp2_with (fail)
     go_quiet (fail)
     go_wp2_with (fail)
     go_ret
     exact ⟨by rw [HF.out]; rfl, belowN hB0 _⟩
    ·have z4 : decide (16 * (L.length : Int) - (S : Int) < (Y : Int)) = false := by simp; omega
     obtain ⟨r0, hr0⟩ : ∃ r0, r0 = Y / 16 := ⟨_, rfl⟩
     obtain ⟨r1, hr1⟩ : ∃ r1, r1 = (Y + S - 1) / 16 := ⟨_, rfl⟩
     obtain ⟨c0, hc0⟩ : ∃ c0, c0 = X / 16 := ⟨_, rfl⟩
     obtain ⟨c1, hc1⟩ : ∃ c1, c1 = (X + S - 1) / 16 := ⟨_, rfl⟩
     have e1 : (Y : Int) / 16 = (r0 : Int) := by omega
     have e2 : ((Y : Int) + (S : Int) - 1) / 16 = (r1 : Int) := by omega
     have e3 : (X : Int) / 16 = (c0 : Int) := by omega
     have e4 : ((X : Int) + (S : Int) - 1) / 16 = (c1 : Int) := by omega
     have hxb : (X : Int) ≤ 320 := by have := HWZ.out; omega
     have hyb : (Y : Int) ≤ 192 := by omega
     have hr0n : r0 < L.length := by omega
     have hr1n : r1 < L.length := by omega
     have hc0w : c0 < wd L := by omega
     have hc1w : c1 < wd L := by omega
     have HBN := Lib.hid (show blockN L X Y S = (cellN L r0 c0 || (cellN L r0 c1 || (cellN L r1 c0 || cellN L r1 c1))) by rw [hr0, hr1, hc0, hc1]; rfl)
     have q00 := cellN_in hg hr0n hc0w
     have q01 := cellN_in hg hr0n hc1w
     have q10 := cellN_in hg hr1n hc0w
     have q11 := cellN_in hg hr1n hc1w
     have cr0 := HC.out r0 hr0n
     have cr1 := HC.out r1 hr1n
     have hl0 := hg.row hr0n
     have hl1 := hg.row hr1n
     have hi00 := fun W => run_at (l := L[r0]) (k := c0) (c := L[r0][c0]'(by rw [hl0]; exact hc0w)) W (by rw [hl0]; exact hc0w) rfl
     have hi01 := fun W => run_at (l := L[r0]) (k := c1) (c := L[r0][c1]'(by rw [hl0]; exact hc1w)) W (by rw [hl0]; exact hc1w) rfl
     have hi10 := fun W => run_at (l := L[r1]) (k := c0) (c := L[r1][c0]'(by rw [hl1]; exact hc0w)) W (by rw [hl1]; exact hc0w) rfl
     have hi11 := fun W => run_at (l := L[r1]) (k := c1) (c := L[r1][c1]'(by rw [hl1]; exact hc1w)) W (by rw [hl1]; exact hc1w) rfl
     obtain ⟨t00, ht00⟩ : ∃ t : Int, t = ((L[r0][c0]'(by rw [hl0]; exact hc0w)).toNat : Int) := ⟨_, rfl⟩
     obtain ⟨t01, ht01⟩ : ∃ t : Int, t = ((L[r0][c1]'(by rw [hl0]; exact hc1w)).toNat : Int) := ⟨_, rfl⟩
     obtain ⟨t10, ht10⟩ : ∃ t : Int, t = ((L[r1][c0]'(by rw [hl1]; exact hc0w)).toNat : Int) := ⟨_, rfl⟩
     obtain ⟨t11, ht11⟩ : ∃ t : Int, t = ((L[r1][c1]'(by rw [hl1]; exact hc1w)).toNat : Int) := ⟨_, rfl⟩
     rw [← ht00] at hi00 q00
     rw [← ht01] at hi01 q01
     rw [← ht10] at hi10 q10
     rw [← ht11] at hi11 q11
     have HQ := Lib.hid (show blockN L X Y S = ((t00 == 35) || ((t01 == 35) || ((t10 == 35) || (t11 == 35)))) by rw [HBN.out, q00, q01, q10, q11])
     obtain ⟨R0, hR0⟩ : ∃ R, R = L[r0] := ⟨_, rfl⟩
     obtain ⟨R1, hR1⟩ : ∃ R, R = L[r1] := ⟨_, rfl⟩
     rw [← hR0] at hi00 hi01 cr0 hl0
     rw [← hR1] at hi10 hi11 cr1 hl1
     have hr0c : (r0 : Int) < (L.length : Int) := by omega
     have hr1c : (r1 : Int) < (L.length : Int) := by omega
     clear HBN q00 q01 q10 q11 ht00 ht01 ht10 ht11 hR0 hR1 hr0 hr1 hc0 hc1 hl0 hl1 k1 k2 k3 k4
     cases w1 : (t00 == 35)
     case' true => skip
     case' false => cases w2 : (t01 == 35)
     case' false.false => cases w3 : (t10 == 35)
     case' false.false.false => cases w4 : (t11 == 35)
     all_goals
      go_enter Tryz.func213, Tryz.ntmps213
      go_wp2_with (fail)
      go_quiet (fail)
      go_wp2_with (fail)
      go_quiet (fail)
      go_wp2_with (fail)
      go_ret
      exact ⟨by rw [HQ.out]; (try rw [w1]); (try rw [w2]); (try rw [w3]); (try rw [w4]); rfl, belowN hB0 _⟩
end Go.Proofs.YtnlonkkbjkfkmaaGreatDoor
