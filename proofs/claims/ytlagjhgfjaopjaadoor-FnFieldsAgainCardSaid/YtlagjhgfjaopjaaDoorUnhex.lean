/-
  Contracts of DecodeHex, and the law on it. Strings of at most maxLen bytes, as every string is.
-/
import Derived.Test.YtlagjhgfjaopjaaDoorHex
import Derived.Test.YtlagjhgfjaopjaaDoorShelf
namespace Go.Proofs.YtlagjhgfjaopjaaDoor
open Go.RowKit
set_option linter.all false

def valH (c : UInt8) : Int := if 48 ≤ c.toNat ∧ c.toNat ≤ 57 then (c.toNat : Int) - 48 else if 97 ≤ c.toNat ∧ c.toNat ≤ 102 then (c.toNat : Int) - 97 + 10 else -1
theorem valH_bd (c : UInt8) : -1 ≤ valH c ∧ valH c ≤ 15 := by unfold valH; split <;> (try split) <;> omega
def hexB (a b : UInt8) : UInt8 := UInt8.ofNat (16 * valH a + valH b).toNat
def unhex : List UInt8 → Option (List UInt8)
  | [] => some []
  | [_] => none
  | a :: b :: l => if valH a < 0 ∨ valH b < 0 then none else (unhex l).map (hexB a b :: ·)
def decHex (l : List UInt8) : Option (List UInt8) := if l.length % 2 ≠ 0 ∨ 40000 < l.length then none else unhex l
def UnAt (l : List UInt8) (k : Nat) (acc : List UInt8) : Prop := (unhex (l.drop (2 * k))).map (acc ++ ·) = unhex l ∧ acc.length = k
theorem UnAt.zero (l : List UInt8) : UnAt l 0 [] := ⟨by simp, rfl⟩
theorem drop_two {l : List UInt8} {k : Nat} (h : k + 1 < l.length) : l.drop k = l[k] :: l[k + 1] :: l.drop (k + 2) := by
  rw [List.drop_eq_getElem_cons (by omega), List.drop_eq_getElem_cons h]
theorem UnAt.bad {l acc : List UInt8} {k : Nat} (h : UnAt l k acc) (hk : 2 * k + 1 < l.length) (hb : valH (l[2 * k]'(by omega)) < 0 ∨ valH l[2 * k + 1] < 0) : unhex l = none := by
  rw [← h.1, drop_two hk, unhex, if_pos hb]; rfl
theorem UnAt.next {l acc : List UInt8} {k : Nat} (h : UnAt l k acc) (hk : 2 * k + 1 < l.length) (hb : ¬ (valH (l[2 * k]'(by omega)) < 0 ∨ valH l[2 * k + 1] < 0)) : UnAt l (k + 1) (acc ++ [hexB (l[2 * k]'(by omega)) l[2 * k + 1]]) := by
  refine ⟨?_, by simp [h.2]⟩
  rw [← h.1, drop_two hk, unhex, if_neg hb, show 2 * (k + 1) = 2 * k + 2 by omega]
  cases unhex (l.drop (2 * k + 2)) <;> simp
theorem UnAt.done {l acc : List UInt8} {k : Nat} (h : UnAt l k acc) (hk : l.length ≤ 2 * k) : unhex l = some acc := by
  rw [← h.1, List.drop_eq_nil_of_le hk]; simp [unhex]
theorem hexB_cast {a b : UInt8} (ha : ¬ valH a < 0) (hb : ¬ valH b < 0) : 16 * valH a + valH b = ((hexB a b).toNat : Int) := by
  have := valH_bd a; have := valH_bd b
  unfold hexB; simp; omega
theorem index_all : ∀ n : Fin 256, Lib.indexByte [48, 49, 50, 51, 52, 53, 54, 55, 56, 57, 97, 98, 99, 100, 101, 102] (UInt8.ofNat n.val) = valH (UInt8.ofNat n.val) := by decide +kernel
theorem indexHex (c : UInt8) (w : World) : Calls Tryd.prog 25 #[.string ⟨#[48, 49, 50, 51, 52, 53, 54, 55, 56, 57, 97, 98, 99, 100, 101, 102]⟩, .int .u8 (c.toNat : Int)] w fun e w' => e = .returned (.int .i64 (valH c)) ∧ w = w' := by
  refine (Tryd.strings_IndexByte _ _ w).mono ?_
  rintro e w' ⟨rfl, rfl⟩
  refine ⟨ret_int ?_, rfl⟩
  have := index_all ⟨c.toNat, c.toNat_lt⟩
  have hc : UInt8.ofNat c.toNat = c := by simp
  simp only [hc] at this
  rw [← this, Int.toNat_natCast]
  congr 1
set_option maxHeartbeats 1000000 in
theorem decodeHex_impl (l : List UInt8) (w : World) (hs : l.length ≤ 9223372036854775807) :
    Calls Tryd.prog 11 #[.string ⟨l.toArray⟩] w fun e w' => e = .returned (retOptS (decHex l)) ∧ Below w.heap.size w w' := by
  by_cases h1 : (l.length : Int) % 2 = 0
  · have b1 : ((l.length : Int) % 2 != 0) = false := by simpa using h1
    by_cases h2 : 40000 < l.length
    · have HF := Lib.hid (show decHex l = none by unfold decHex; rw [if_pos (Or.inr h2)])
      have b2 : decide (20000 < (l.length : Int) / 2) = true := by simp; omega
      clear h1
      go_enter Tryd.func11, Tryd.ntmps11
      go_wp2
      go_ret2
      exact ⟨by rw [HF.out]; rfl, Below.refl _ _⟩
    · have HF := Lib.hid (show decHex l = unhex l by unfold decHex; rw [if_neg (by omega)])
      have b2 : decide (20000 < (l.length : Int) / 2) = false := by simp; omega
      have HE := Lib.hid h1
      have hd0 : 0 ≤ (l.length : Int) / 2 := by omega
      clear h1
      obtain ⟨i0, hi, hz0, hz1, hz2⟩ := info_parts info_u8
      obtain ⟨cn, hcn⟩ : ∃ cn : Nat, (l.length : Int) / 2 = (cn : Int) := ⟨((l.length : Int) / 2).toNat, by omega⟩
      have hmk : ∀ W, (Instr.makeSlice 22 (.int .i64 0) (.int .i64 ((l.length : Int) / 2))).run Tryd.prog W = .ok (.slice (some ⟨W.heap.size, 0, none⟩) 0 cn) (W.alloc (.cells (madeCells #[.int .u8 0] cn) 5)) := fun W => by
        have := run_make (P := Tryd.prog) W 22 5 i0 (.int .u8 0) Tryd.underlying22 hi hz0 .i64 .i64 0 ((l.length : Int) / 2) (by omega) (by omega) (by rw [hz2]; omega) (by omega)
        rw [this, hz1, Nat.mul_one, hcn, Int.toNat_natCast]; rfl
      have hcn2 : cn ≤ 20000 := by omega
      clear hi hz0 hz1 hz2 hcn
      go_enter Tryd.func11, Tryd.ntmps11
      go_wp2
      go_loopw [4, 5] (fun v i wr => ∃ (k : Nat) (acc : List UInt8), 2 * k ≤ l.length ∧ i = .int .i64 ((2 * k : Nat) : Int) ∧ UnAt l k acc ∧ OwnB wr w.heap.size v acc ∧ Below w.heap.size w wr) (fun _ i _ => l.length - (intOf i).toNat)
      case atStart =>
        have := OwnB.made w (madeCells #[.int .u8 0] cn) w.heap.size (Nat.le_refl _) (by rw [size_madeCells]; unfold maxLen; omega)
        rw [size_madeCells] at this
        exact ⟨0, [], by omega, rfl, UnAt.zero l, this, (Below.refl _ _).alloc (Nat.le_refl _) _⟩
      case round =>
        obtain ⟨k, acc, hk, rfl, hun, hown, hbel⟩ := hrel
        have hB := hbel.size
        have hal := hun.2
        have hacc : acc.length ≤ 20000 := by omega
        clear hal
        by_cases hkl : 2 * k + 1 < l.length
        · obtain ⟨p, hp⟩ : ∃ p, p = 2 * k := ⟨_, rfl⟩
          obtain ⟨a, ha⟩ : ∃ a, a = l[2 * k]'(by omega) := ⟨_, rfl⟩
          obtain ⟨b, hb⟩ : ∃ b, b = l[2 * k + 1] := ⟨_, rfl⟩
          have hx1 : ∀ W, (Instr.index 9 (.string ⟨l.toArray⟩) (.int .i64 (p : Int))).run Tryd.prog W = .ok (.int .u8 (a.toNat : Int)) W := fun W => run_idx (l := l) (k := p) W (by omega) (by subst hp; exact ha.symm)
          have hx2 : ∀ W, (Instr.index 9 (.string ⟨l.toArray⟩) (.int .i64 ((p : Int) + 1))).run Tryd.prog W = .ok (.int .u8 (b.toNat : Int)) W := fun W => by
            have := run_idx (l := l) (c := b) (k := p + 1) W (by omega) (by subst hp; exact hb.symm)
            rwa [show ((p + 1 : Nat) : Int) = (p : Int) + 1 by omega] at this
          have ba := valH_bd a
          have bb := valH_bd b
          obtain ⟨ba1, ba2⟩ := ba
          obtain ⟨bb1, bb2⟩ := bb
          have hpl : (p : Int) < (l.length : Int) := by omega
          by_cases hbad : valH a < 0 ∨ valH b < 0
          · have HN := Lib.hid (hun.bad hkl (by rw [← ha, ← hb]; exact hbad))
            rw [← hp]
            clear hun ha hb hp
            by_cases hna : valH a < 0
            · have c1 : decide (valH a < 0) = true := by simpa using hna
              go_wp2_with (go_at_call 25; refine (indexHex _ _).mono ?_; rintro e w' ⟨rfl, rfl⟩)
              go_ret2
              exact ⟨by rw [HF.out, HN.out]; rfl, hbel⟩
            · have c1 : decide (valH a < 0) = false := by simpa using hna
              have c2 : decide (valH b < 0) = true := by simp; omega
              clear hbad hna
              go_wp2_with (go_at_call 25; refine (indexHex _ _).mono ?_; rintro e w' ⟨rfl, rfl⟩)
              go_ret2
              exact ⟨by rw [HF.out, HN.out]; rfl, hbel⟩
          · have HN := Lib.hid (hun.next hkl (by rw [← ha, ← hb]; exact hbad))
            rw [← ha, ← hb] at HN
            have c1 : decide (valH a < 0) = false := by simp; omega
            have c2 : decide (valH b < 0) = false := by simp; omega
            have ba0 : 0 ≤ valH a := by omega
            have bb0 : 0 ≤ valH b := by omega
            have HB := Lib.hid (hexB_cast (a := a) (b := b) (by omega) (by omega))
            rw [← hp]
            have HP := Lib.hid hp
            clear hun ha hb hp hbad
            go_wp2_with (first
              | (go_at_call 25; refine (indexHex _ _).mono ?_; rintro e w' ⟨rfl, rfl⟩)
              | (at_builtin; refine app_byte rfl _ _ rfl w.heap.size _ acc rfl hown _ rfl (hexB a b) HB.out (by omega) hB ?_; intro v' w1 hown' hb'))
            go_roundw
            case rel => exact ⟨k + 1, _, by have := HP.out; omega, by have := HP.out; go_num, HN.out, hown', hbel.trans hb'⟩
            case measure => simp [intOf]; omega
        · have hev := HE.out
          have HN := Lib.hid (hun.done (by omega))
          have hge : ¬ ((2 * k : Nat) : Int) < (l.length : Int) := by omega
          have hcv := run_str_own (P := Tryd.prog) Tryd.underlying22 Tryd.underlying5 Tryd.underlying9 hown
          clear hun hev
          go_wp2
          go_ret2
          exact ⟨by rw [HF.out, HN.out]; rfl, hbel⟩
  · have HF := Lib.hid (show decHex l = none by unfold decHex; rw [if_pos (Or.inl (by omega))])
    have b1 : ((l.length : Int) % 2 != 0) = true := by simpa using h1
    clear h1
    go_enter Tryd.func11, Tryd.ntmps11
    go_wp2
    go_ret2
    exact ⟨by rw [HF.out]; rfl, Below.refl _ _⟩
end Go.Proofs.YtlagjhgfjaopjaaDoor
