/-
  Contracts of FormatInt: the digits one by one. No condition but that the number is an int.
-/
import Derived.Test.YtiidocjpeepheaaDoorHex
import Derived.Lib.ItoaLen
namespace Go.Proofs.YtiidocjpeepheaaDoor
open Go.RowKit
set_option linter.all false

def ddL (m : Nat) : List UInt8 := if m = 0 then [] else Lib.decDigits m
def FmtAt (n m : Nat) (l : List UInt8) : Prop := ddL m ++ l = Lib.decDigits n
theorem FmtAt.start {n : Nat} (h : 0 < n) : FmtAt n n [] := by unfold FmtAt ddL; rw [if_neg (by omega)]; simp
theorem FmtAt.done {n : Nat} {l : List UInt8} (h : FmtAt n 0 l) : l = Lib.decDigits n := by unfold FmtAt ddL at h; simpa using h
theorem FmtAt.next {n m : Nat} {l : List UInt8} (h : FmtAt n m l) (hm : 0 < m) : FmtAt n (m / 10) (hexD (m % 10) :: l) := by
  have hd : hexD (m % 10) = UInt8.ofNat (48 + m % 10) := by unfold hexD; rw [if_pos (by omega)]
  unfold FmtAt ddL at h ⊢
  rw [if_neg (by omega)] at h
  rw [← h, hd]
  by_cases h10 : m < 10
  · rw [if_pos (by omega), Lib.decDigits_one h10, Nat.mod_eq_of_lt h10]; rfl
  · rw [if_neg (by omega)]
    conv => rhs; rw [Lib.decDigits, dif_neg h10]
    simp
theorem FmtAt.len {n m : Nat} {l : List UInt8} (h : FmtAt n m l) (hn : n ≤ 9223372036854775808) : l.length ≤ 20 := by
  have h2 : (Lib.decDigits n).length ≤ 20 := by rw [Lib.decDigits_length]; exact Lib.nDigits_le20 n (by omega)
  unfold FmtAt at h
  rw [← h, List.length_append] at h2
  omega
theorem conv_one (n : Nat) (hn : n < 256) (W : World) : (convert 125 9 (.slice (some ⟨W.heap.size, 0, none⟩) 1 1)).run Tryd.prog (W.alloc (.cells #[.int .u8 (n : Int)] 5)) = .ok (.string ⟨[UInt8.ofNat n].toArray⟩) (W.alloc (.cells #[.int .u8 (n : Int)] 5)) := by
  refine run_convert_bytes_back _ _ _ 5 ⟨W.heap.size, 0, none⟩ 1 [UInt8.ofNat n] Tryd.underlying125 Tryd.underlying5 Tryd.underlying9 fun j hj => ?_
  obtain rfl : j = 0 := by simpa using hj
  have := one_cell W (.int .u8 (n : Int)) 5 0 _ rfl
  rw [this]
  simp; omega
/-- A digit is made, laid ahead of what there is. -/
theorem cons_cat (c : UInt8) (l : List UInt8) : (ByteArray.mk [c].toArray) ++ (ByteArray.mk l.toArray) = ByteArray.mk (c :: l).toArray := by rw [ByteArray.mk_append_mk]; simp
set_option maxHeartbeats 1000000 in
theorem formatInt_spec (n : Int) (w : World) (h0 : -9223372036854775808 ≤ n) (h1 : n ≤ 9223372036854775807) :
    Calls Tryd.prog 59 #[.int .i64 n] w fun e w' => e = .returned (.string ⟨(Lib.itoa n).toArray⟩) ∧ Below w.heap.size w w' := by
  rcases Int.lt_trichotomy n 0 with hn | hn | hn
  · obtain ⟨N, rfl⟩ : ∃ N : Nat, n = -(N : Int) := ⟨n.natAbs, by omega⟩
    have HF := Lib.hid (Lib.itoa_neg N (by omega))
    have z0 : (-(N : Int) == 0) = false := by simp; omega
    have zl : decide (-(N : Int) < 0) = true := by simp; omega
    have hN : 0 < N := by omega
    have hN2 : N ≤ 9223372036854775808 := by omega
    clear h0 h1 hn
    go_enter Tryd.func59, Tryd.ntmps59
    go_wp2_with (fail)
    go_loopw [0, 4] (fun v s wr => ∃ (m : Nat) (l : List UInt8), m ≤ N ∧ FmtAt N m l ∧ v = .int .i64 (-(m : Int)) ∧ s = .string ⟨l.toArray⟩ ∧ Below w.heap.size w wr) (fun v _ _ => (intOf v).natAbs)
    case atStart => exact ⟨N, [], Nat.le_refl _, FmtAt.start hN, rfl, rfl, Below.refl _ _⟩
    case round =>
      obtain ⟨m, l, hm, hat, rfl, rfl, hbel⟩ := hrel
      have hB := hbel.size
      have hl := hat.len hN2
      by_cases hm0 : m = 0
      · subst hm0
        have HD := Lib.hid hat.done
        clear hat
        go_wp2_with (fail)
        go_ret
        exact ⟨by rw [HF.out, ← HD.out, ← cons_cat]; rfl, hbel⟩
      · have hat2 := hat.next (by omega)
        obtain ⟨d, hd⟩ : ∃ d, d = m % 10 := ⟨_, rfl⟩
        obtain ⟨q, hq⟩ : ∃ q, q = m / 10 := ⟨_, rfl⟩
        rw [← hd, ← hq] at hat2
        have HN := Lib.hid hat2
        clear hat hat2
        have hd10 : d < 10 := by omega
        have hqm : q < m := by omega
        have e1 : (m : Int) % 10 = (d : Int) := by omega
        have e2 : (m : Int) / 10 = (q : Int) := by omega
        have zm : (-(m : Int) != 0) = true := by simp; omega
        have hm9 : (m : Int) ≤ 9223372036854775808 := by omega
        have hcv := conv_one (hexD d).toNat (hexD d).toNat_lt
        rw [UInt8.ofNat_toNat] at hcv
        have HG := Lib.hid (figure_any d (by omega) (d : Int) rfl)
        clear hd hq hm0
        by_cases hz : d = 0
        · subst hz
          have HG := Lib.hid (figure_any 0 (by omega) 0 rfl)
          go_wp2_with (go_at_call 93; (with_reducible refine (HG.out _).mono ?_); rintro e w2 ⟨rfl, rfl⟩)
          go_roundw
          case rel => exact ⟨q, _, by omega, HN.out, by go_num, by rw [cons_cat], hbel.alloc hB _⟩
          case measure => simp [intOf]; omega
        · have zd : decide (0 < (d : Int)) = true := by simp; omega
          go_wp2_with (go_at_call 93; (with_reducible refine (HG.out _).mono ?_); rintro e w2 ⟨rfl, rfl⟩)
          go_roundw
          case rel => exact ⟨q, _, by omega, HN.out, by go_num, by rw [cons_cat], hbel.alloc hB _⟩
          case measure => simp [intOf]; omega
  · subst hn
    go_enter Tryd.func59, Tryd.ntmps59
    go_wp2
    go_ret
    exact ⟨by rw [show Lib.itoa 0 = [48] by decide +kernel]; rfl, Below.refl _ _⟩
  · obtain ⟨N, rfl⟩ : ∃ N : Nat, n = (N : Int) := ⟨n.natAbs, by omega⟩
    have HF := Lib.hid (Lib.itoa_nonneg N)
    have z0 : ((N : Int) == 0) = false := by simp; omega
    have zl : decide ((N : Int) < 0) = false := by simp
    have hN : 0 < N := by omega
    have hN2 : N ≤ 9223372036854775807 := by omega
    clear h0 h1 hn
    go_enter Tryd.func59, Tryd.ntmps59
    go_wp2_with (fail)
    go_loopw [0, 4] (fun v s wr => ∃ (m : Nat) (l : List UInt8), m ≤ N ∧ FmtAt N m l ∧ v = .int .i64 (m : Int) ∧ s = .string ⟨l.toArray⟩ ∧ Below w.heap.size w wr) (fun v _ _ => (intOf v).natAbs)
    case atStart => exact ⟨N, [], Nat.le_refl _, FmtAt.start hN, rfl, rfl, Below.refl _ _⟩
    case round =>
      obtain ⟨m, l, hm, hat, rfl, rfl, hbel⟩ := hrel
      have hB := hbel.size
      have hl := hat.len (by omega)
      by_cases hm0 : m = 0
      · subst hm0
        have HD := Lib.hid hat.done
        clear hat
        go_wp2_with (fail)
        go_ret
        exact ⟨by rw [HF.out, ← HD.out]; rfl, hbel⟩
      · have hat2 := hat.next (by omega)
        obtain ⟨d, hd⟩ : ∃ d, d = m % 10 := ⟨_, rfl⟩
        obtain ⟨q, hq⟩ : ∃ q, q = m / 10 := ⟨_, rfl⟩
        rw [← hd, ← hq] at hat2
        have HN := Lib.hid hat2
        clear hat hat2
        have hd10 : d < 10 := by omega
        have hqm : q < m := by omega
        have e1 : (m : Int) % 10 = (d : Int) := by omega
        have e2 : (m : Int) / 10 = (q : Int) := by omega
        have zm : ((m : Int) != 0) = true := by simp; omega
        have hm9 : (m : Int) ≤ 9223372036854775807 := by omega
        have hcv := conv_one (hexD d).toNat (hexD d).toNat_lt
        rw [UInt8.ofNat_toNat] at hcv
        have HG := Lib.hid (figure_any d (by omega) (d : Int) rfl)
        clear hd hq hm0
        go_wp2_with (go_at_call 93; (with_reducible refine (HG.out _).mono ?_); rintro e w2 ⟨rfl, rfl⟩)
        go_roundw
        case rel => exact ⟨q, _, by omega, HN.out, by go_num, by rw [cons_cat], hbel.alloc hB _⟩
        case measure => simp [intOf]; omega
end Go.Proofs.YtiidocjpeepheaaDoor
