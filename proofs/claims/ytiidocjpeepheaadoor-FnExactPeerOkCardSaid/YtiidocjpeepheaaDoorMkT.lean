/-
  The laws' marks on strings: markText.
-/
import Derived.Test.YtiidocjpeepheaaDoorFmt
import Derived.Deep.RegionHeld3
import Derived.Deep.RegionWith
namespace Go.Proofs.YtiidocjpeepheaaDoor
open Go.RowKit
set_option linter.all false
/-- The mark of a number. -/
def mkT (k : Nat) : List UInt8 := 109 :: Lib.decDigits k
def marksT (k : Nat) : Nat → List (List UInt8)
  | 0 => []
  | n + 1 => mkT k :: marksT (k + 1) n
theorem marksT_len (n : Nat) : ∀ k, (marksT k n).length = n := by
  induction n with
  | zero => intro k; rfl
  | succ n ih => intro k; simp [marksT, ih]
theorem marksT_at (n : Nat) : ∀ k j (h : j < (marksT k n).length), (marksT k n)[j] = mkT (k + j) := by
  induction n with
  | zero => intro k j h; simp [marksT] at h
  | succ n ih =>
    intro k j h
    match j with
    | 0 => simp [marksT]
    | j + 1 =>
      simp only [marksT, List.getElem_cons_succ]
      rw [ih]; congr 1; omega
set_option maxHeartbeats 1000000 in
theorem markText_any (K : Nat) (hK : 0 < K) (hK2 : K ≤ 9223372036854775807) (w : World) :
    Calls Tryd.prog 63 #[.int .i64 (K : Int)] w fun e w' => e = .returned (.string ⟨(mkT K).toArray⟩) ∧ Below w.heap.size w w' := by
  have z0 : decide ((K : Int) ≤ 0) = false := by simp; omega
  go_enter Tryd.func63, Tryd.ntmps63
  go_wp2_with (fail)
  go_loopw [0, 3] (fun v s wr => ∃ (m : Nat) (l : List UInt8), m ≤ K ∧ FmtAt K m l ∧ v = .int .i64 (m : Int) ∧ s = .string ⟨l.toArray⟩ ∧ Below w.heap.size w wr) (fun v _ _ => (intOf v).natAbs)
  case atStart => exact ⟨K, [], Nat.le_refl _, FmtAt.start hK, rfl, rfl, Below.refl _ _⟩
  case round =>
    obtain ⟨m, l, hm, hat, rfl, rfl, hbel⟩ := hrel
    have hB := hbel.size
    have hl := hat.len (by omega)
    by_cases hm0 : m = 0
    · subst hm0
      have HD := Lib.hid hat.done
      clear hat
      go_wp2_with (fail)
      go_ret
      exact ⟨by unfold mkT; rw [← HD.out, ← cons_cat]; rfl, hbel⟩
    · have hat2 := hat.next (by omega)
      obtain ⟨d, hd⟩ : ∃ d, d = m % 10 := ⟨_, rfl⟩
      obtain ⟨q, hq⟩ : ∃ q, q = m / 10 := ⟨_, rfl⟩
      rw [← hd, ← hq] at hat2
      have HN := Lib.hid hat2
      clear hat hat2
      have hd10 : d < 10 := by omega
      have hqm : q < m := by omega
      have e1 : (m : Int) % 10 = (d : Int) := by omega
      have e2 : (m : Int) / 10 = (q : Int) := by omega
      have zm : decide (0 < (m : Int)) = true := by simp; omega
      have hm9 : (m : Int) ≤ 9223372036854775807 := by omega
      have hxd : (hexD d).toNat = 48 + d := by unfold hexD; rw [if_pos hd10]; simp; omega
      have hcv := conv_one (hexD d).toNat (hexD d).toNat_lt
      rw [UInt8.ofNat_toNat, hxd] at hcv
      have hcv2 : ∀ W : World, (convert 125 9 (.slice (some ⟨W.heap.size, 0, none⟩) 1 1)).run Tryd.prog (W.alloc (.cells #[.int .u8 (48 + (d : Int))] 5)) = .ok (.string ⟨[hexD d].toArray⟩) (W.alloc (.cells #[.int .u8 (48 + (d : Int))] 5)) := fun W => by
        have := hcv W
        rw [show ((48 + d : Nat) : Int) = 48 + (d : Int) by omega] at this
        exact this
      have hw1 : IntKind.u8.wrap (48 + (d : Int)) = 48 + (d : Int) := by rw [IntKind.wrap_u8']; omega
      clear hd hq hm0 hcv hxd
      go_wp2_with (fail)
      go_roundw
      case rel => exact ⟨q, _, by omega, HN.out, by go_num, by rw [cons_cat], hbel.alloc hB _⟩
      case measure => simp [intOf]; omega
theorem mkT_len (K : Nat) (h : K ≤ 9223372036854775807) : (mkT K).length ≤ 21 := by
  unfold mkT; rw [List.length_cons, Lib.decDigits_length]; have := Lib.nDigits_le20 K (by omega); omega
end Go.Proofs.YtiidocjpeepheaaDoor
