/-
  SnapshotOf: the model, the program, the law; with the texts that WorldBytes needs. No condition.
-/
import Derived.Test.YtiidocjpeepheaaGreatDoorPrO
import Derived.Test.YtiidocjpeepheaaGreatDoorBase
import Derived.Test.YtiidocjpeepheaaGreatDoorOwn
import Derived.Test.YtiidocjpeepheaaGreatDoorShelf
import Derived.Test.YtiidocjpeepheaaGreatDoorPure
import Derived.Test.YtiidocjpeepheaaGreatDoorLst
import Derived.Test.YtiidocjpeepheaaGreatDoorWdO
import Derived.Test.YtiidocjpeepheaaGreatDoorAppI
import Derived.Deep.RegionHeld3
import Derived.Deep.WholeRow
import Derived.Great.Walk
namespace Go.Proofs.YtiidocjpeepheaaGreatDoor
open Go.RowKit
set_option linter.all false

def inB (x lo hi : Int) : Bool := decide (lo ≤ x ∧ x ≤ hi)
theorem l01In_any (x lo hi : Int) (w : World) :
    Calls Tryz.prog 59 #[.int .i64 x, .int .i64 lo, .int .i64 hi] w fun e w' => e = .returned (.bool (inB x lo hi)) ∧ w = w' := by
  by_cases h1 : lo ≤ x
  · have g1 : decide (lo ≤ x) = true := by simpa using h1
    go_enter Tryz.func59, Tryz.ntmps59
    go_wp2
    go_ret
    exact ⟨by simp [inB, h1], rfl⟩
  · have g1 : decide (lo ≤ x) = false := by simpa using h1
    go_enter Tryz.func59, Tryz.ntmps59
    go_wp2
    go_ret
    exact ⟨by simp [inB]; omega, rfl⟩
theorem inB_true {x lo hi : Int} (h1 : lo ≤ x) (h2 : x ≤ hi) : inB x lo hi = true := by simp [inB, h1, h2]
theorem inB_false {x lo hi : Int} (h : x < lo ∨ hi < x) : inB x lo hi = false := by simp [inB]; omega
def signlessI (n : Int) : Int := if n < -549755813888 ∨ 549755813887 < n then -1 else if n < 0 then -2 * n - 1 else 2 * n
theorem signless_impl (n : Int) (w : World) :
    Calls Tryz.prog 105 #[.int .i64 n] w fun e w' => e = .returned (.int .i64 (signlessI n)) ∧ w = w' := by
  by_cases h1 : n < -549755813888
  · have g1 : decide (n < -549755813888) = true := by simpa using h1
    go_enter Tryz.func105, Tryz.ntmps105
    go_wp2
    go_ret
    exact ⟨ret_int (by unfold signlessI; repeat' split <;> omega), rfl⟩
  · have g1 : decide (n < -549755813888) = false := by simpa using h1
    by_cases h2 : 549755813887 < n
    · have g2 : decide (549755813887 < n) = true := by simpa using h2
      go_enter Tryz.func105, Tryz.ntmps105
      go_wp2
      go_ret
      exact ⟨ret_int (by unfold signlessI; repeat' split <;> omega), rfl⟩
    · have g2 : decide (549755813887 < n) = false := by simpa using h2
      by_cases h3 : n < 0
      · go_enter Tryz.func105, Tryz.ntmps105
        go_wp2
        go_ret
        exact ⟨ret_int (by unfold signlessI; repeat' split <;> omega), rfl⟩
      · go_enter Tryz.func105, Tryz.ntmps105
        go_wp2
        go_ret
        exact ⟨ret_int (by unfold signlessI; repeat' split <;> omega), rfl⟩
theorem signless_spec (n : Int) (w : World) :
    Calls Tryz.prog 100 #[.int .i64 n] w fun e w' => e = .returned (.int .i64 (signlessI n)) ∧ w = w' := by
  by_cases h1 : n < -549755813888 ∨ 549755813887 < n
  · have g1 := inB_false h1
    go_enter Tryz.func100, Tryz.ntmps100
    go_wp2_with (go_at_call 59; refine (l01In_any _ _ _ _).mono ?_; rintro e w' ⟨rfl, rfl⟩)
    go_ret
    exact ⟨ret_int (by unfold signlessI; repeat' split <;> omega), rfl⟩
  · have g1 : inB n (-549755813888) 549755813887 = true := inB_true (by omega) (by omega)
    have h1a : -549755813888 ≤ n := by omega
    have h1b : n ≤ 549755813887 := by omega
    clear h1
    by_cases h3 : 0 ≤ n
    · go_enter Tryz.func100, Tryz.ntmps100
      go_wp2_with (go_at_call 59; refine (l01In_any _ _ _ _).mono ?_; rintro e w' ⟨rfl, rfl⟩)
      go_ret
      exact ⟨ret_int (by unfold signlessI; repeat' split <;> omega), rfl⟩
    · go_enter Tryz.func100, Tryz.ntmps100
      go_wp2_with (go_at_call 59; refine (l01In_any _ _ _ _).mono ?_; rintro e w' ⟨rfl, rfl⟩)
      go_ret
      exact ⟨ret_int (by unfold signlessI; repeat' split <;> omega), rfl⟩
end Go.Proofs.YtiidocjpeepheaaGreatDoor
namespace Go.Proofs.YtiidocjpeepheaaGreatDoor
open Go.RowKit
set_option linter.all false

/-- Seven bits a byte, the lowest ones first. -/
def encV (n : Nat) : List UInt8 := if n < 128 then [UInt8.ofNat n] else UInt8.ofNat (n % 128 + 128) :: encV (n / 128)
termination_by n
decreasing_by omega
theorem encV_lo {n : Nat} (h : n < 128) : encV n = [UInt8.ofNat n] := by rw [encV, if_pos h]
theorem encV_hi {n : Nat} (h : ¬ n < 128) : encV n = UInt8.ofNat (n % 128 + 128) :: encV (n / 128) := by rw [encV, if_neg h]
theorem encV_len : ∀ (k n : Nat), n < 128 ^ (k + 1) → (encV n).length ≤ k + 1
  | 0, n, h => by rw [encV_lo (by simpa using h)]; simp
  | k + 1, n, h => by
    by_cases h1 : n < 128
    · rw [encV_lo h1]; simp
    · rw [encV_hi h1]
      have := encV_len k (n / 128) (Nat.div_lt_of_lt_mul (by rw [Nat.pow_succ] at h; omega))
      simp; omega
theorem encV_len6 {n : Nat} (h : n ≤ 1099511627775) : (encV n).length ≤ 6 := encV_len 5 n (by omega)
theorem encV_pos (n : Nat) : 0 < (encV n).length := by
  by_cases h : n < 128
  · rw [encV_lo h]; simp
  · rw [encV_hi h]; simp
/-- What EncodeVarint returns. -/
def encI (n : Int) : List UInt8 := if n < 0 ∨ 1099511627775 < n then [] else encV n.toNat
theorem hi_byte (n : Nat) : ((UInt8.ofNat (n % 128 + 128)).toNat : Int) = (n : Int) % 128 + 128 := by
  simp; omega
theorem lo_byte {n : Nat} (h : n < 128) : ((UInt8.ofNat n).toNat : Int) = (n : Int) := by
  simp; omega
theorem encV_step {pre : List UInt8} {m n : Nat} (h : pre ++ encV m = encV n) (hm : ¬ m < 128) : (pre ++ [UInt8.ofNat (m % 128 + 128)]) ++ encV (m / 128) = encV n := by
  rw [← h, encV_hi hm]; simp

set_option maxHeartbeats 400000 in
theorem encodeVarint_impl (n : Int) (w : World) :
    Calls Tryz.prog 104 #[.int .i64 n] w fun e w' => e = .returned (.string ⟨(encI n).toArray⟩) ∧ Below w.heap.size w w' := by
  by_cases h1 : n < 0
  · have g1 : decide (n < 0) = true := by simpa using h1
    have hf := Lib.hid (show encI n = [] by unfold encI; rw [if_pos (by omega)])
    go_enter Tryz.func104, Tryz.ntmps104
    go_wp2
    go_ret
    exact ⟨by rw [hf.out]; rfl, Below.refl _ _⟩
  · have g1 : decide (n < 0) = false := by simpa using h1
    by_cases h2 : 1099511627775 < n
    · have g2 : decide (1099511627775 < n) = true := by simpa using h2
      have hf := Lib.hid (show encI n = [] by unfold encI; rw [if_pos (by omega)])
      go_enter Tryz.func104, Tryz.ntmps104
      go_wp2
      go_ret
      exact ⟨by rw [hf.out]; rfl, Below.refl _ _⟩
    · have g2 : decide (1099511627775 < n) = false := by simpa using h2
      have hf := Lib.hid (show encI n = encV n.toNat by unfold encI; rw [if_neg (by omega)])
      have hmk : ∀ w, (Instr.makeSlice 128 (.int .i64 0) (.int .i64 6)).run Tryz.prog w = .ok (.slice (some ⟨w.heap.size, 0, none⟩) 0 6) (w.alloc (.cells #[.int .u8 0, .int .u8 0, .int .u8 0, .int .u8 0, .int .u8 0, .int .u8 0] 5)) := fun _ => by kernel_rfl
      go_enter Tryz.func104, Tryz.ntmps104
      go_wp2
      go_loopw [0, 3] (fun x v wr => ∃ (m : Nat) (pre : List UInt8), x = .int .i64 m ∧ m ≤ 1099511627775 ∧ pre ++ encV m = encV n.toNat ∧ OwnB wr w.heap.size v pre ∧ Below w.heap.size w wr) (fun x _ _ => (intOf x).toNat)
      case atStart =>
        exact ⟨n.toNat, [], by rw [Int.toNat_of_nonneg (by omega)], by omega, rfl, OwnB.made w _ _ (Nat.le_refl _) (by decide), (Below.refl _ _).alloc (Nat.le_refl _) _⟩
      case round =>
        obtain ⟨m, pre, rfl, hm, hpre, hown, hbel⟩ := hrel
        have hl6 : pre.length + 1 ≤ 6 := by
          have a := congrArg List.length hpre
          have b := encV_len6 (n := n.toNat) (by omega)
          have c := encV_pos m
          simp at a; omega
        have HP := Lib.hid hpre; clear hpre
        have HB := hbel.size
        by_cases hlt : 127 < m
        · go_wp2_with (first
            | (at_builtin; refine app_byte rfl _ _ rfl w.heap.size _ pre rfl hown _ rfl (UInt8.ofNat (m % 128 + 128)) (hi_byte m).symm (by omega) HB ?_; intro v' w1 hown' hb'))
          go_roundw
          case rel => exact ⟨m / 128, _, by go_num, by omega, encV_step HP.out (by omega), hown', hbel.trans hb'⟩
          case measure => simp [intOf]; omega
        · go_wp2_with (first
            | (at_builtin; refine app_byte rfl _ _ rfl w.heap.size _ pre rfl hown _ rfl (UInt8.ofNat m) (lo_byte (by omega)).symm (by omega) HB ?_; intro v' w1 hown' hb'; have hcv := run_str_own (P := Tryz.prog) Tryz.underlying128 Tryz.underlying5 Tryz.underlying9 hown'))
          go_ret
          exact ⟨by rw [hf.out, ← HP.out, encV_lo (by omega)]; rfl, hbel.trans hb'⟩
theorem and_or_128 (m : Nat) (h : m ≤ 1099511627775) : bits .or .i64 (bits .and .i64 (m : Int) 127) 128 = (m : Int) % 128 + 128 := by
  rw [i64_and127]
  have := i64_or_nat (m % 128) 128 (by omega) (by omega)
  rw [show (((m % 128 : Nat) : Int)) = (m : Int) % 128 by omega, show ((128 : Nat) : Int) = 128 from rfl] at this
  rw [this, Nat.or_comm, nat_join 7 128 (m % 128) (by decide) (by omega)]; omega
set_option maxHeartbeats 400000 in
theorem encodeVarint_spec (n : Int) (w : World) :
    Calls Tryz.prog 99 #[.int .i64 n] w fun e w' => e = .returned (.string ⟨(encI n).toArray⟩) ∧ Below w.heap.size w w' := by
  by_cases h1 : n < 0 ∨ 1099511627775 < n
  · have g1 := inB_false h1
    have hf := Lib.hid (show encI n = [] by unfold encI; rw [if_pos (by omega)])
    clear h1
    go_enter Tryz.func99, Tryz.ntmps99
    go_wp2_with (go_at_call 59; refine (l01In_any _ _ _ _).mono ?_; rintro e w' ⟨rfl, rfl⟩)
    go_ret
    exact ⟨by rw [hf.out]; rfl, Below.refl _ _⟩
  · have g1 : inB n 0 1099511627775 = true := inB_true (by omega) (by omega)
    have hf := Lib.hid (show encI n = encV n.toNat by unfold encI; rw [if_neg (by omega)])
    have h1a : 0 ≤ n := by omega
    have h1b : n ≤ 1099511627775 := by omega
    clear h1
    go_enter Tryz.func99, Tryz.ntmps99
    go_wp2_with (go_at_call 59; refine (l01In_any _ _ _ _).mono ?_; rintro e w' ⟨rfl, rfl⟩)
    go_loopw [0, 3] (fun x v wr => ∃ (m : Nat) (pre : List UInt8), x = .int .i64 m ∧ m ≤ 1099511627775 ∧ pre ++ encV m = encV n.toNat ∧ OwnB wr w.heap.size v pre ∧ Below w.heap.size w wr) (fun x _ _ => (intOf x).toNat)
    case atStart =>
      exact ⟨n.toNat, [], by rw [Int.toNat_of_nonneg (by omega)], by omega, rfl, OwnB.made w _ _ (Nat.le_refl _) (by decide), (Below.refl _ _).alloc (Nat.le_refl _) _⟩
    case round =>
      obtain ⟨m, pre, rfl, hm, hpre, hown, hbel⟩ := hrel
      have hl6 : pre.length + 1 ≤ 6 := by
        have a := congrArg List.length hpre
        have b := encV_len6 (n := n.toNat) (by omega)
        have c := encV_pos m
        simp at a; omega
      have HP := Lib.hid hpre; clear hpre
      have HB := hbel.size
      have hbo := and_or_128 m hm
      by_cases hlt : 127 < m
      · go_wp2_with (first
          | (at_builtin; refine app_byte rfl _ _ rfl w.heap.size _ pre rfl hown _ rfl (UInt8.ofNat (m % 128 + 128)) (hi_byte m).symm (by omega) HB ?_; intro v' w1 hown' hb'))
        go_roundw
        case rel => exact ⟨m / 128, _, by go_num, by omega, encV_step HP.out (by omega), hown', hbel.trans hb'⟩
        case measure => simp [intOf]; omega
      · go_wp2_with (first
          | (at_builtin; refine app_byte rfl _ _ rfl w.heap.size _ pre rfl hown _ rfl (UInt8.ofNat m) (lo_byte (by omega)).symm (by omega) HB ?_; intro v' w1 hown' hb'; have hcv := run_str_own (P := Tryz.prog) Tryz.underlying128 Tryz.underlying5 Tryz.underlying9 hown'))
        go_ret
        exact ⟨by rw [hf.out, ← HP.out, encV_lo (by omega)]; rfl, hbel.trans hb'⟩
end Go.Proofs.YtiidocjpeepheaaGreatDoor
namespace Go.Proofs.YtiidocjpeepheaaGreatDoor
open Go.RowKit
set_option linter.all false

/-- The builder in block b (from block B on) holds the bytes l. -/
def Bld (w : World) (B b : Nat) (l : List UInt8) : Prop := Lib.IsBuilderF 130 5 B b (Lib.byteCells l) w
theorem bld_size : (Tryz.prog.info? 130).map (·.size) = some 2 := by kernel_rfl
theorem bld_lies : liesAt Tryz.prog Tryz.prog.depth 130 (2 / Tryz.prog.cellsOf 130) 0 130 1 = true := by kernel_rfl
theorem Bld.fresh (w : World) : Bld (w.alloc (.cells #[.pointer none, .slice none 0 0] 130)) w.heap.size w.heap.size [] :=
  Lib.IsBuilderF.of (Lib.fresh_isBuilder 130 5 w)
theorem Bld.alloc {w : World} {B b : Nat} {l : List UInt8} (h : Bld w B b l) (o : Obj) : Bld (w.alloc o) B b l := Lib.IsBuilderF.alloc h o
/-- What a write leaves of all other blocks: they stand, but for rows of bytes. -/
abbrev Kept (b : Nat) (w w' : World) : Prop := Lib.OthersKept 5 (some b) w w'
theorem Bld.keep {w w' : World} {B b : Nat} {l : List UInt8} (h : Bld w B b l) (hb : Below w.heap.size w w') : Bld w' B b l := by
  have key : ∀ p, Lib.BuilderAtF 130 5 B b p (Lib.byteCells l) w → Lib.BuilderAtF 130 5 B b p (Lib.byteCells l) w' := by
    rintro p ⟨hB, v, hbk, hown, hne⟩
    have hlt : b < w.heap.size := by
      rcases Nat.lt_or_ge b w.heap.size with h' | h'
      · exact h'
      · simp [Array.getElem?_eq_none h'] at hbk
    exact ⟨hB, v, by rw [hb.block b hlt]; exact hbk, hown.kept (row := none) ⟨hb.os, hb.tape, hb.output, hb.size, fun k hk _ => hb.block k hk⟩ (by cases v.ownBlock <;> simp), hne⟩
  rcases h with h | h
  · exact .inl (key _ h)
  · exact .inr (key _ h)
theorem Bld.drewN {w : World} {B b : Nat} {l : List UInt8} (h : Bld w B b l) (n : Nat) : Bld (w.drewN n) B b l := h.keep ⟨rfl, rfl, rfl, Nat.le_refl _, fun _ _ => rfl⟩
theorem copyCheck_used (b : Nat) (w : World) (h0 : w.cell? ⟨b, 0, none⟩ = some (.pointer (some ⟨b, 0, none⟩))) :
    Calls Tryz.prog 117 #[.pointer (some ⟨b, 0, none⟩)] w fun e w' => e = .returned (.tuple #[]) ∧ w = w' := by
  obtain ⟨j, hj, _⟩ := Option.map_eq_some_iff.1 bld_size
  have hne := Lib.run_neq_ptr_same (P := Tryz.prog) w (tp := 127) ⟨b, 0, none⟩ Tryz.underlying127 hj
  go_enter Tryz.func117, Tryz.ntmps117
  go_wp2
  go_end0
  exact ⟨rfl, rfl⟩
theorem copyCheck_fresh (b : Nat) (w : World) (h0 : w.cell? ⟨b, 0, none⟩ = some (.pointer none)) (hsh : w.shape? b = some (130, 2)) (hfz : w.frozen? ⟨b, 0, none⟩ = false) :
    Calls Tryz.prog 117 #[.pointer (some ⟨b, 0, none⟩)] w fun e w' => e = .returned (.tuple #[]) ∧ w.setCell ⟨b, 0, none⟩ (.pointer (some ⟨b, 0, none⟩)) = w' := by
  obtain ⟨j, hj, hjs⟩ := Option.map_eq_some_iff.1 bld_size
  have k1 := Lib.run_to_unsafe (P := Tryz.prog) w (src := 127) (dst := 156) ⟨b, 0, none⟩ Tryz.underlying127 Tryz.underlying156 hj (by rw [hjs]; decide) hsh (Nat.zero_lt_succ 1)
  have k2 : ∀ W x, (callFunc 119 #[x]).run Tryz.prog W = .ok (.value x) W := by
    intro W x
    rw [run_callFunc_extern Tryz.func119 (by kernel_rfl) (by kernel_rfl) (by kernel_rfl) (e := Extern.AbiNoEscape.same) (by kernel_rfl), Lib.run_noEscape]
    rfl
  have k3 := Lib.run_from_unsafe (P := Tryz.prog) w (src := 156) (dst := 127) ⟨b, 0, none⟩ Tryz.underlying156 Tryz.underlying127 hj hsh bld_lies
  go_enter Tryz.func117, Tryz.ntmps117
  go_wp2
  go_end0
  exact ⟨rfl, rfl⟩
theorem copyCheck_any {w : World} {B b : Nat} {bs : List Value} (h : Lib.IsBuilderF 130 5 B b bs w) :
    Calls Tryz.prog 117 #[.pointer (some ⟨b, 0, none⟩)] w fun e w' => e = .returned (.tuple #[]) ∧ (Lib.BuilderAtF 130 5 B b (.pointer (some ⟨b, 0, none⟩)) bs w' ∧ Below B w w' ∧ Kept b w w') := by
  rcases h with h | h
  · refine (copyCheck_fresh b w h.cell0 h.shape h.frozen0).mono ?_
    rintro e w' ⟨rfl, rfl⟩
    exact ⟨rfl, h.used _, (Below.refl B w).setCell (p := ⟨b, 0, none⟩) h.1 _, (Lib.OthersKept.refl _ _ w).setCell ⟨b, 0, none⟩ rfl _⟩
  · refine (copyCheck_used b w h.cell0).mono ?_
    rintro e w' ⟨rfl, rfl⟩
    exact ⟨rfl, h, Below.refl B _, Lib.OthersKept.refl _ _ _⟩
set_option maxHeartbeats 400000 in
/-- WriteString, as the builder's bytes go. -/
theorem bld_write {w : World} {B b : Nat} {l : List UInt8} (h : Bld w B b l) (x : List UInt8) (hlen : l.length + x.length ≤ 140737488355328) (hB : B ≤ w.heap.size) :
    Calls Tryz.prog 103 #[.pointer (some ⟨b, 0, none⟩), .string ⟨x.toArray⟩] w fun e w' => e = .returned (.tuple #[.int .i64 (x.length : Int), .nilIface]) ∧ Bld w' B b (l ++ x) ∧ Below B w w' ∧ Kept b w w' := by
  obtain ⟨i0, hi, hz0, hz1, hz2⟩ := info_parts info_u8
  go_enter Tryz.func103, Tryz.ntmps103
  go_wp2_with (go_at_call 117; refine (copyCheck_any h).mono ?_)
  rintro e w1 ⟨rfl, h1, hb1, hk1⟩
  obtain ⟨hBb, v, hbk, hown, hne⟩ := h1
  have c0 : w1.cell? ⟨b, 0, none⟩ = some (.pointer (some ⟨b, 0, none⟩)) := by rw [Lib.cell_of_heap hbk]; rfl
  have c1 : w1.cell? ⟨b, 1, none⟩ = some v := by rw [Lib.cell_of_heap hbk]; rfl
  have hs1 := hb1.size
  rw [Lib.byteCells_length] at hown
  have hxs : (ByteArray.mk x.toArray).size = x.length := by simp [ByteArray.size]
  go_wp2_with (at_builtin; refine Lib.wpList_append_own_stringF _ rfl _ _ 128 9 rfl B 5 i0 Tryz.underlying128 Tryz.underlying9 hi hz0 hz1 hz2 _ _ _ rfl hown ⟨x.toArray⟩ rfl ?c3 ?c4 ?c5 ?_)
  case c3 => rw [hxs]; unfold maxLen; omega
  case c4 => rw [hxs]; omega
  case c5 => omega
  intro v' w2 hown' hgrow _
  have hlt : b < w1.heap.size := by
    rcases Nat.lt_or_ge b w1.heap.size with h' | h'
    · exact h'
    · simp [Array.getElem?_eq_none h'] at hbk
  have hb2 : w2.heap[b]? = some (.cells #[.pointer (some ⟨b, 0, none⟩), v] 130 (0, 0)) := by
    rw [hgrow.block b hlt (fun e => hne e.symm)]
    exact hbk
  have d0 : w2.cell? ⟨b, 0, none⟩ = some (.pointer (some ⟨b, 0, none⟩)) := by rw [Lib.cell_of_heap hb2]; rfl
  have d1 : w2.cell? ⟨b, 1, none⟩ = some v := by rw [Lib.cell_of_heap hb2]; rfl
  have f1 : w2.frozen? ⟨b, 1, none⟩ = false := Lib.frozen_of_heap hb2 1
  obtain ⟨ao, n', cap, hv⟩ : ∃ ao n' cap, v' = .slice ao n' cap := by
    rcases hown'.2 with ⟨hv, _⟩ | ⟨g, cap, cur, fz, hv, _⟩
    · exact ⟨_, _, _, hv⟩
    · exact ⟨_, _, _, hv⟩
  subst hv
  clear hxs
  go_wp2
  go_ret2
  refine ⟨rfl, ?_, ?_, (hk1.grown hgrow (Lib.ownsRowF_kind hown)).setCell ⟨b, 1, none⟩ rfl _⟩
  · have := Lib.BuilderAtF.put (T := 130) (e := 5) hBb hb2 (bs' := Lib.byteCells l ++ Lib.strCells ⟨x.toArray⟩) (by simpa [Lib.strCells_length, Lib.byteCells_length, ByteArray.size] using hown') (by decide)
    refine Or.inr ?_
    rw [Lib.byteCells_append]
    exact this
  · exact (hb1.grown hgrow (by omega) (fun k hk => (hown.lt k hk).1)).setCell (p := ⟨b, 1, none⟩) hBb _
theorem bld_string {w : World} {B b : Nat} {l : List UInt8} (h : Bld w B b l) (hB : B ≤ w.heap.size) :
    Calls Tryz.prog 106 #[.pointer (some ⟨b, 0, none⟩)] w fun e w' => e = .returned (.string ⟨l.toArray⟩) ∧ Bld w' B b l ∧ Below B w w' ∧ Kept b w w' :=
  Tryz.Builder_String_any_k B b l w h hB
end Go.Proofs.YtiidocjpeepheaaGreatDoor
namespace Go.Proofs.YtiidocjpeepheaaGreatDoor
open Go.RowKit
set_option linter.all false

end Go.Proofs.YtiidocjpeepheaaGreatDoor
namespace Go.Proofs.YtiidocjpeepheaaGreatDoor
open Go.RowKit
set_option linter.all false

/-- The numbers of a list, one after the other; none if one is out of range. -/
def packR : List Int → Option (List UInt8)
  | [] => some []
  | x :: xs => if signlessI x < 0 then none else (packR xs).map (encI (signlessI x) ++ ·)
def packI (xs : List Int) : List UInt8 := match packR xs with | none => [] | some l => encI (xs.length : Int) ++ l
theorem encI_len (n : Int) : (encI n).length ≤ 6 := by
  unfold encI; split
  · simp
  · exact encV_len6 (by omega)
theorem packI_none {xs : List Int} (h : packR xs = none) : packI xs = [] := by unfold packI; rw [h]
theorem packI_some {xs : List Int} {l : List UInt8} (h : packR xs = some l) : packI xs = encI (xs.length : Int) ++ l := by unfold packI; rw [h]
theorem packR_len : ∀ (xs : List Int) (l : List UInt8), packR xs = some l → l.length ≤ 6 * xs.length
  | [], l, h => by simp [packR] at h; subst h; simp
  | x :: xs, l, h => by
    rw [packR] at h
    split at h
    · cases h
    · cases hp : packR xs with
      | none => rw [hp] at h; simp at h
      | some r =>
        rw [hp] at h; simp at h; subst h
        have := packR_len xs r hp
        have := encI_len (signlessI x)
        simp; omega
/-- What k numbers have left: the bytes so far, and the rest. -/
def PackAt (xs : List Int) (k : Nat) (pre : List UInt8) : Prop := packR xs = (packR (xs.drop k)).map (pre ++ ·) ∧ pre.length ≤ 6 * k
theorem PackAt.zero (xs : List Int) : PackAt xs 0 [] := ⟨by simp, by simp⟩
theorem PackAt.bad {xs : List Int} {k : Nat} {pre : List UInt8} (h : PackAt xs k pre) (hk : k < xs.length) (hs : signlessI xs[k] < 0) : packI xs = [] := by
  apply packI_none
  rw [h.1, List.drop_eq_getElem_cons hk, packR, if_pos hs]; rfl
theorem PackAt.next {xs : List Int} {k : Nat} {pre : List UInt8} (h : PackAt xs k pre) (hk : k < xs.length) (hs : ¬ signlessI xs[k] < 0) : PackAt xs (k + 1) (pre ++ encI (signlessI xs[k])) := by
  refine ⟨?_, ?_⟩
  · rw [h.1, List.drop_eq_getElem_cons hk, packR, if_neg hs]
    cases packR (List.drop (k + 1) xs) <;> simp
  · have := encI_len (signlessI xs[k])
    have := h.2
    simp; omega
theorem PackAt.done {xs : List Int} {k : Nat} {pre : List UInt8} (h : PackAt xs k pre) (hk : xs.length ≤ k) : packI xs = encI (xs.length : Int) ++ pre := by
  apply packI_some
  rw [h.1, List.drop_eq_nil_of_le hk]; simp [packR]
theorem signlessI_bd (n : Int) : -1 ≤ signlessI n ∧ signlessI n ≤ 1099511627775 := by unfold signlessI; split <;> (try split) <;> omega
set_option maxHeartbeats 1000000 in
theorem packInts_impl {w : World} {v : Value} {xs : List Int} (h : RdI w v xs) (hn : xs.length ≤ 1099511627776) :
    Calls Tryz.prog 84 #[v] w fun e w' => e = .returned (.string ⟨(packI xs).toArray⟩) ∧ Below w.heap.size w w' := by
  obtain ⟨a, cap, rfl, h⟩ := h
  by_cases hx : xs = []
  · subst hx
    have HF := Lib.hid (packI_some (xs := []) rfl)
    clear h
    have he := encI_len 0
    go_enter Tryz.func84, Tryz.ntmps84
    go_wp2_with (go_at_call 104; refine (encodeVarint_impl _ _).mono ?_)
    rintro e w1 ⟨rfl, hb1⟩
    have hbld1 : Bld w1 w.heap.size w.heap.size [] := (Bld.fresh w).keep (by simpa using hb1)
    have hs1 : w.heap.size + 1 ≤ w1.heap.size := by have := hb1.size; simpa using this
    go_wp2_with (go_at_call 103; refine (bld_write hbld1 _ (by simp; omega) (by omega)).mono ?_)
    rintro e w2 ⟨rfl, hbld2, hb2, hk2⟩
    have hs2 := hb2.size
    go_wp2_with (fail)
    refine wp_loop_once ?_
    go_wp2_with (go_at_call 106; refine (bld_string hbld2 (by omega)).mono ?_; rintro e w3 ⟨rfl, hbld3, hb3, hk3⟩)
    go_ret
    exact ⟨by rw [HF.out, List.append_nil]; rfl, (((Below.refl _ _).alloc (Nat.le_refl _) _).trans (hb1.mono (by simp))).trans (hb2.trans hb3)⟩
  · obtain ⟨b, off, rfl, hc⟩ := h.resolve_left hx
    have hpos : 0 < xs.length := List.length_pos_iff.2 hx
    have hlt := World.block_lt_of_cell? w _ (hc 0 hpos)
    have he := encI_len (xs.length : Int)
    clear h hx
    go_enter Tryz.func84, Tryz.ntmps84
    go_wp2_with (go_at_call 104; refine (encodeVarint_impl _ _).mono ?_)
    rintro e w1 rfl hb1
    have hbld1 : Bld w1 w.heap.size w.heap.size [] := (Bld.fresh w).keep (by simpa using hb1)
    have hs1 : w.heap.size + 1 ≤ w1.heap.size := by have := hb1.size; simpa using this
    go_wp2_with (go_at_call 103; refine (bld_write hbld1 _ (by simp; omega) (by omega)).mono ?_)
    rintro e w2 ⟨rfl, hbld2, hb2, hk2⟩
    have hs2 := hb2.size
    have hB : Below w.heap.size w w2 := (((Below.refl _ _).alloc (Nat.le_refl _) _).trans (hb1.mono (by omega))).trans hb2
    go_wp2_with (fail)
    go_loopw [13] (fun i wr => ∃ (k : Nat) (pre : List UInt8), k ≤ xs.length ∧ i = .int .i64 k ∧ PackAt xs k pre ∧ Bld wr w.heap.size w.heap.size (encI (xs.length : Int) ++ pre) ∧ Below w.heap.size w wr ∧ w.heap.size < wr.heap.size) (fun i _ => xs.length - (intOf i).toNat)
    case atStart => exact ⟨0, [], Nat.zero_le _, rfl, PackAt.zero xs, by simpa using hbld2, hB, by omega⟩
    case round =>
      obtain ⟨k, pre, hk, rfl, hpk, hbl, hbel, hsz⟩ := hrel
      have hpl := hpk.2
      by_cases hkl : k < xs.length
      · obtain ⟨x, hxk⟩ : ∃ x, x = xs[k] := ⟨_, rfl⟩
        have c1 : wr.cell? ⟨b, off + k, none⟩ = some (.int .i64 x) := by rw [hxk]; exact (hbel.cell hlt).trans (hc k hkl)
        have hsb := (signlessI_bd x).1
        have hsb2 := (signlessI_bd x).2
        by_cases hneg : signlessI x < 0
        · have HF := Lib.hid (hpk.bad hkl (by rw [← hxk]; exact hneg))
          clear hpk hxk
          go_wp2_with (go_at_call 105; refine (signless_impl _ _).mono ?_; rintro e w' ⟨rfl, rfl⟩)
          go_ret
          exact ⟨by rw [HF.out]; rfl, hbel⟩
        · have HN := Lib.hid (hpk.next hkl (by rw [← hxk]; exact hneg))
          rw [← hxk] at HN
          have hel := encI_len (signlessI x)
          clear hpk hxk
          go_wp2_with (first
            | (go_at_call 105; refine (signless_impl _ _).mono ?_; rintro e w' ⟨rfl, rfl⟩)
            | (go_at_call 104; refine (encodeVarint_impl _ _).mono ?_; rintro e w3 ⟨rfl, hb3⟩; have hbl3 := hbl.keep hb3; have hs3 := hb3.size)
            | (go_at_call 103; refine (bld_write hbl3 _ (by simp; omega) (by omega)).mono ?_; rintro e w4 ⟨rfl, hbl4, hb4, hk4⟩; have hs4 := hb4.size))
          go_roundw
          case rel => exact ⟨k + 1, _, by omega, by go_num, HN.out, by rw [← List.append_assoc]; exact hbl4, (hbel.trans (hb3.mono (by omega))).trans hb4, by omega⟩
          case measure => simp [intOf]; omega
      · have HF := Lib.hid (hpk.done (by omega))
        clear hpk
        go_wp2_with (go_at_call 106; refine (bld_string hbl (by omega)).mono ?_; rintro e w3 ⟨rfl, hbld3, hb3, hk3⟩)
        go_ret
        exact ⟨by rw [HF.out]; rfl, hbel.trans hb3⟩
set_option maxHeartbeats 1000000 in
theorem packInts_spec {w : World} {v : Value} {xs : List Int} (h : RdI w v xs) (hn : xs.length ≤ 1099511627776) :
    Calls Tryz.prog 81 #[v] w fun e w' => e = .returned (.string ⟨(packI xs).toArray⟩) ∧ Below w.heap.size w w' := by
  obtain ⟨a, cap, rfl, h⟩ := h
  by_cases hx : xs = []
  · subst hx
    have HF := Lib.hid (packI_some (xs := []) rfl)
    clear h
    go_enter Tryz.func81, Tryz.ntmps81
    go_wp2_with (go_at_call 99; refine (encodeVarint_spec _ _).mono ?_; rintro e w1 ⟨rfl, hb1⟩)
    refine wp_loop_once ?_
    go_wp2_with (fail)
    go_ret
    exact ⟨by rw [HF.out, List.append_nil]; rfl, hb1⟩
  · obtain ⟨b, off, rfl, hc⟩ := h.resolve_left hx
    have hpos : 0 < xs.length := List.length_pos_iff.2 hx
    have hlt := World.block_lt_of_cell? w _ (hc 0 hpos)
    have he := encI_len (xs.length : Int)
    clear h hx
    go_enter Tryz.func81, Tryz.ntmps81
    go_wp2_with (go_at_call 99; refine (encodeVarint_spec _ _).mono ?_; rintro e w1 ⟨rfl, hb1⟩)
    go_loopw [3, 4] (fun s i wr => ∃ (k : Nat) (pre : List UInt8), k ≤ xs.length ∧ i = .int .i64 k ∧ PackAt xs k pre ∧ s = .string ⟨(encI (xs.length : Int) ++ pre).toArray⟩ ∧ Below w.heap.size w wr) (fun _ i _ => xs.length - (intOf i).toNat)
    case atStart => exact ⟨0, [], Nat.zero_le _, rfl, PackAt.zero xs, by simp, hb1⟩
    case round =>
      obtain ⟨k, pre, hk, rfl, hpk, rfl, hbel⟩ := hrel
      have hpl := hpk.2
      by_cases hkl : k < xs.length
      · obtain ⟨x, hxk⟩ : ∃ x, x = xs[k] := ⟨_, rfl⟩
        have c1 : wr.cell? ⟨b, off + k, none⟩ = some (.int .i64 x) := by rw [hxk]; exact (hbel.cell hlt).trans (hc k hkl)
        have hsb := (signlessI_bd x).1
        have hsb2 := (signlessI_bd x).2
        by_cases hneg : signlessI x < 0
        · have HF := Lib.hid (hpk.bad hkl (by rw [← hxk]; exact hneg))
          clear hpk hxk
          go_wp2_with (go_at_call 100; refine (signless_spec _ _).mono ?_; rintro e w' ⟨rfl, rfl⟩)
          go_ret
          exact ⟨by rw [HF.out]; rfl, hbel⟩
        · have HN := Lib.hid (hpk.next hkl (by rw [← hxk]; exact hneg))
          rw [← hxk] at HN
          have hel := encI_len (signlessI x)
          clear hpk hxk
          go_wp2_with (first
            | (go_at_call 100; refine (signless_spec _ _).mono ?_; rintro e w' ⟨rfl, rfl⟩)
            | (go_at_call 99; refine (encodeVarint_spec _ _).mono ?_; rintro e w3 ⟨rfl, hb3⟩))
          go_roundw
          case rel => exact ⟨k + 1, _, by omega, by go_num, HN.out, by rw [ByteArray.mk_append_mk, ← List.append_assoc], hbel.trans (hb3.mono hbel.size)⟩
          case measure => simp [intOf]; omega
      · have HF := Lib.hid (hpk.done (by omega))
        clear hpk
        go_wp2_with (fail)
        go_ret
        exact ⟨by rw [HF.out]; rfl, hbel⟩
end Go.Proofs.YtiidocjpeepheaaGreatDoor
namespace Go.Proofs.YtiidocjpeepheaaGreatDoor
open Go.RowKit
set_option linter.all false
theorem blkLt {w : World} {k : Nat} {o : Obj} (h : w.heap[k]? = some o) : k < w.heap.size := (Array.getElem?_eq_some_iff.1 h).1
theorem OwnR.lit {w : World} {B n : Nat} {xs : List Int} (C : Array Value) (hB : B ≤ w.heap.size) (hn : xs.length = n) (hm : n ≤ 1048576) (hC : C = (xs.map (Value.int .i64)).toArray) : OwnR (w.alloc (.cells C 3)) B (.slice (some ⟨w.heap.size, 0, none⟩) n n) xs := by
  subst hn hC
  have := World.ownsRow_lit (base := B) (e := 3) (size := 1) w (xs.map (Value.int .i64)).toArray xs.length hB (by unfold maxLen; omega) (by simp)
  simpa [OwnR] using this
/-- The numbers up to body k. -/
def wdK (x : Wd) (k : Nat) : List Int := [x.tick, x.seed, (x.scores.length : Int)] ++ x.scores ++ ((x.bods.take k).map bdN).flatten
theorem wdK_zero (x : Wd) : wdK x 0 = [x.tick, x.seed, (x.scores.length : Int)] ++ x.scores := by unfold wdK; simp
theorem wdK_next (x : Wd) {k : Nat} (hk : k < x.bods.length) : wdK x (k + 1) = wdK x k ++ bdN x.bods[k] := by
  unfold wdK; rw [List.take_succ_eq_append_getElem hk, List.map_append, List.flatten_append]; simp
theorem wdK_all (x : Wd) : wdK x x.bods.length = wdN x := by unfold wdK wdN; rw [List.take_length]; simp
theorem flat9 : ∀ l : List Bd, (l.map bdN).flatten.length = 9 * l.length
  | [] => rfl
  | b :: r => by rw [List.map_cons, List.flatten_cons, List.length_append, flat9 r, List.length_cons]; show 9 + _ = _; omega
theorem wdK_len (x : Wd) (k : Nat) : (wdK x k).length ≤ 3 + x.scores.length + 9 * x.bods.length := by
  unfold wdK
  rw [List.length_append, List.length_append, flat9, List.length_take]
  simp; omega
def wbL (x : Wd) : List UInt8 := if worldB x then packI (wdN x) else []
theorem wbL_no {x : Wd} (h : worldB x = false) : wbL x = [] := by unfold wbL; rw [h]; rfl
theorem wbL_yes {x : Wd} (h : worldB x = true) : wbL x = packI (wdN x) := by unfold wbL; rw [h]; rfl
theorem bdN_len (b : Bd) : (bdN b).length = 9 := rfl
theorem numbersOf_impl (b : Bd) (w : World) : Calls Tryz.prog 83 #[.agg #[.int .i64 b.kind, .int .i64 b.owner, .int .i64 b.x, .int .i64 b.y, .int .i64 b.vx, .int .i64 b.vy, .int .i64 b.aim, .int .i64 b.life, .int .i64 b.timer]] w fun e w' => ∃ u, e = .returned u ∧ RdI w' u (bdN b) ∧ Below w.heap.size w w' := by
  obtain ⟨W0, hW, hA, hB0, hS0⟩ := rows1 w #[.int .i64 b.kind, .int .i64 b.owner, .int .i64 b.x, .int .i64 b.y, .int .i64 b.vx, .int .i64 b.vy, .int .i64 b.aim, .int .i64 b.life, .int .i64 b.timer] 113
  have cA := rowCells hA
  go_enter Tryz.func83, Tryz.ntmps83
  go_wp2_with (fail)
  try rw [hW]
  clear hW
  go_ret
  exact ⟨_, rfl, (OwnR.lit (n := 9) (w := W0) (B := W0.heap.size) (xs := bdN b) #[.int .i64 b.kind, .int .i64 b.owner, .int .i64 b.x, .int .i64 b.y, .int .i64 b.vx, .int .i64 b.vy, .int .i64 b.aim, .int .i64 b.life, .int .i64 b.timer] (Nat.le_refl _) rfl (by decide) rfl).own.rd, hB0.trans ((below1 W0 _).mono hB0.size)⟩
set_option maxRecDepth 100000 in
set_option maxHeartbeats 4000000 in
theorem worldBytes_impl {w : World} {x : Wd} {vl vs vb : Value} (h : RdW w x vl vs vb) (hs : x.sane) :
    Calls Tryz.prog 50 #[.agg (wdC x vl vs vb)] w fun e w' => e = .returned (.string ⟨(wbL x).toArray⟩) ∧ Below w.heap.size w w' := by
  have h0 := h
  have hok := fun {W : World} (h1 : RdW W x vl vs vb) => worldOk_impl h1 hs
  obtain ⟨al, cl, rfl, -⟩ := id h.1
  obtain ⟨aq, cq, rfl, -⟩ := id h.2.1
  obtain ⟨ab, cb, rfl, hb9⟩ := id h.2.2
  unfold wdC at hok ⊢
  obtain ⟨W0, hW, hA, hB0, hS0⟩ := rows1 w #[.slice al x.rows.length cl, .int .i64 x.tick, .int .i64 x.seed, .slice aq x.scores.length cq, .slice ab x.bods.length cb] 42
  have cA := rowCells hA
  go_enter Tryz.func50, Tryz.ntmps50
  go_wp2_with (fail)
  try rw [hW]
  clear hW
  refine (hok (h0.keep hB0)).mono ?_
  rintro e w1 ⟨rfl, hb1⟩
  have hA1 := keepHeap hb1 hA
  have hb01 := hB0.trans (hb1.mono hB0.size)
  have cA1 := rowCells hA1
  have hs01 := hb01.size
  clear cA hA
  cases ql : worldB x with
  | false =>
    have HF := Lib.hid (wbL_no ql)
    clear ql
    go_wp2_with (fail)
    go_ret
    exact ⟨by rw [HF.out]; rfl, hb01⟩
  | true =>
  have HF := Lib.hid (wbL_yes ql)
  obtain ⟨-, -, -, q4, q5, -, -⟩ := wd_facts ql
  have hn4 := (inR_iff _ _ _).1 q4
  have hm24 := (inR_iff _ _ _).1 q5
  have hq4 : x.scores.length ≤ 4 := by omega
  have hb24 : x.bods.length ≤ 24 := by omega
  have hlk := wdK_len x
  have hr1 := h0.2.1.keep hb01
  have hown0 := OwnR.lit (n := 3) (w := w1) (B := w1.heap.size) (xs := [x.tick, x.seed, (x.scores.length : Int)]) #[.int .i64 x.tick, .int .i64 x.seed, .int .i64 (x.scores.length : Int)] (Nat.le_refl _) rfl (by decide) rfl
  have hrq := hr1.keep (below1 w1 (.cells #[.int .i64 x.tick, .int .i64 x.seed, .int .i64 (x.scores.length : Int)] 3))
  have hAq := keepHeap (below1 w1 (.cells #[.int .i64 x.tick, .int .i64 x.seed, .int .i64 (x.scores.length : Int)] 3)) hA1
  have cAq := rowCells hAq
  have hz := below1 w1 (.cells #[.int .i64 x.tick, .int .i64 x.seed, .int .i64 (x.scores.length : Int)] 3)
  clear ql q4 q5 hr1
  go_wp2_with (at_builtin; refine app_ints rfl _ _ rfl w1.heap.size _ [x.tick, x.seed, (x.scores.length : Int)] rfl hown0 _ x.scores rfl hrq (by simp; omega) hz.size ?_; intro v2 w2 hown2 hb2; have hA2 := (hb2.block w.heap.size (blkLt hA1)).trans hAq; have cA2 := rowCells hA2)
  rw [← wdK_zero] at hown2
  have hbw : Below w1.heap.size w1 w2 := hz.trans hb2
  clear hown0 hrq hAq cAq hz hb2 cA1
  go_loopw [3, 24] (fun v i wr => ∃ k : Nat, k ≤ x.bods.length ∧ i = .int .i64 (k : Int) ∧ OwnR wr w1.heap.size v (wdK x k) ∧ Below w1.heap.size w1 wr) (fun _ i _ => x.bods.length - (intOf i).toNat)
  case atStart => exact ⟨0, Nat.zero_le _, rfl, hown2, hbw⟩
  case round =>
    obtain ⟨k, hk, rfl, hown, hbel⟩ := hrel
    have hb0r := hb01.trans (hbel.mono hs01)
    by_cases hkl : k < x.bods.length
    · obtain ⟨bb, off, rfl, hc⟩ := hb9.resolve_left (by intro e; rw [e] at hkl; simp at hkl)
      have c0 := hc k hkl
      have c1 := rangeKeep c0 hb0r (rangeLt c0)
      have HN := Lib.hid (wdK_next x hkl)
      obtain ⟨b, hb⟩ : ∃ b, b = x.bods[k] := ⟨_, rfl⟩
      rw [← hb] at c1 HN
      have hkk : (k : Int) < (x.bods.length : Int) := by omega
      have hlk' := hlk k
      have hszr := hbel.size
      clear hc c0 hb hlk
      obtain ⟨d0, d1, d2, d3, d4, d5, d6, d7, d8⟩ := cells9 c1
      obtain ⟨W5, hW5, hP5, hb5⟩ : ∃ W, wr.alloc (.cells #[.int .i64 b.kind, .int .i64 b.owner, .int .i64 b.x, .int .i64 b.y, .int .i64 b.vx, .int .i64 b.vy, .int .i64 b.aim, .int .i64 b.life, .int .i64 b.timer] 113) = W ∧ W.heap[wr.heap.size]? = some (.cells #[.int .i64 b.kind, .int .i64 b.owner, .int .i64 b.x, .int .i64 b.y, .int .i64 b.vx, .int .i64 b.vy, .int .i64 b.aim, .int .i64 b.life, .int .i64 b.timer] 113 (0, 0)) ∧ Below wr.heap.size wr W := ⟨_, rfl, heap_alloc_new _ _, below1 _ _⟩
      have cP5 := rowCells hP5
      have hown5 := hown.keep hb5 (Nat.le_refl _)
      have hbel5 := hbel.trans (hb5.mono hszr)
      clear c1 hown
      go_wp2_with (fail)
      try rw [hW5]
      clear hW5
      refine (numbersOf_impl b _).mono ?_
      rintro e w6 ⟨u6, rfl, hr6, hb6⟩
      have hown6 := hown5.keep hb6 (Nat.le_refl _)
      have hbel6 := hbel5.trans (hb6.mono hbel5.size)
      have hl9 := bdN_len b
      clear cP5 hown5
      go_wp2_with (at_builtin; refine app_ints rfl _ _ rfl w1.heap.size _ (wdK x k) rfl hown6 _ (bdN b) rfl hr6 (by omega) hbel6.size ?_; intro v7 w7 hown7 hb7)
      rw [← HN.out] at hown7
      go_roundw
      case rel => exact ⟨k + 1, by omega, by go_num, hown7, hbel6.trans hb7⟩
      case measure => simp [intOf]; omega
    · obtain rfl : k = x.bods.length := by omega
      rw [wdK_all] at hown
      have hll := hlk x.bods.length
      rw [wdK_all] at hll
      clear hlk
      obtain ⟨a3, c3, rfl, -⟩ := id hown.own.rd
      have hpk := packInts_impl hown.own.rd (by omega)
      generalize wdN x = L at *
      go_wp2_with (fail)
      refine hpk.mono ?_
      rintro e w6 ⟨rfl, hb6⟩
      go_wp2_with (fail)
      go_ret
      exact ⟨by rw [HF.out]; rfl, hb0r.trans (hb6.mono hb0r.size)⟩
set_option maxRecDepth 100000 in
set_option maxHeartbeats 4000000 in
theorem worldBytes_spec {w : World} {x : Wd} {vl vs vb : Value} (h : RdW w x vl vs vb) (hs : x.sane) :
    Calls Tryz.prog 49 #[.agg (wdC x vl vs vb)] w fun e w' => e = .returned (.string ⟨(wbL x).toArray⟩) ∧ Below w.heap.size w w' := by
  have h0 := h
  have hok := fun {W : World} (h1 : RdW W x vl vs vb) => worldOk_spec h1 hs
  obtain ⟨al, cl, rfl, -⟩ := id h.1
  obtain ⟨aq, cq, rfl, -⟩ := id h.2.1
  obtain ⟨ab, cb, rfl, hb9⟩ := id h.2.2
  unfold wdC at hok ⊢
  obtain ⟨W0, hW, hA, hB0, hS0⟩ := rows1 w #[.slice al x.rows.length cl, .int .i64 x.tick, .int .i64 x.seed, .slice aq x.scores.length cq, .slice ab x.bods.length cb] 42
  have cA := rowCells hA
  go_enter Tryz.func49, Tryz.ntmps49
  go_wp2_with (fail)
  try rw [hW]
  clear hW
  refine (hok (h0.keep hB0)).mono ?_
  rintro e w1 ⟨rfl, hb1⟩
  have hA1 := keepHeap hb1 hA
  have hb01 := hB0.trans (hb1.mono hB0.size)
  have cA1 := rowCells hA1
  have hs01 := hb01.size
  clear cA hA
  cases ql : worldB x with
  | false =>
    have HF := Lib.hid (wbL_no ql)
    clear ql
    go_wp2_with (fail)
    go_ret
    exact ⟨by rw [HF.out]; rfl, hb01⟩
  | true =>
  have HF := Lib.hid (wbL_yes ql)
  obtain ⟨-, -, -, q4, q5, -, -⟩ := wd_facts ql
  have hn4 := (inR_iff _ _ _).1 q4
  have hm24 := (inR_iff _ _ _).1 q5
  have hq4 : x.scores.length ≤ 4 := by omega
  have hb24 : x.bods.length ≤ 24 := by omega
  have hlk := wdK_len x
  have hr1 := h0.2.1.keep hb01
  have hown0 := OwnR.lit (n := 3) (w := w1) (B := w1.heap.size) (xs := [x.tick, x.seed, (x.scores.length : Int)]) #[.int .i64 x.tick, .int .i64 x.seed, .int .i64 (x.scores.length : Int)] (Nat.le_refl _) rfl (by decide) rfl
  have hrq := hr1.keep (below1 w1 (.cells #[.int .i64 x.tick, .int .i64 x.seed, .int .i64 (x.scores.length : Int)] 3))
  have hAq := keepHeap (below1 w1 (.cells #[.int .i64 x.tick, .int .i64 x.seed, .int .i64 (x.scores.length : Int)] 3)) hA1
  have cAq := rowCells hAq
  have hz := below1 w1 (.cells #[.int .i64 x.tick, .int .i64 x.seed, .int .i64 (x.scores.length : Int)] 3)
  clear ql q4 q5 hr1
  go_wp2_with (at_builtin; refine app_ints rfl _ _ rfl w1.heap.size _ [x.tick, x.seed, (x.scores.length : Int)] rfl hown0 _ x.scores rfl hrq (by simp; omega) hz.size ?_; intro v2 w2 hown2 hb2; have hA2 := (hb2.block w.heap.size (blkLt hA1)).trans hAq; have cA2 := rowCells hA2)
  rw [← wdK_zero] at hown2
  have hbw : Below w1.heap.size w1 w2 := hz.trans hb2
  clear hown0 hrq hAq cAq hz hb2 cA1
  go_loopw [3, 4] (fun v i wr => ∃ k : Nat, k ≤ x.bods.length ∧ i = .int .i64 (k : Int) ∧ OwnR wr w1.heap.size v (wdK x k) ∧ Below w1.heap.size w1 wr) (fun _ i _ => x.bods.length - (intOf i).toNat)
  case atStart => exact ⟨0, Nat.zero_le _, rfl, hown2, hbw⟩
  case round =>
    obtain ⟨k, hk, rfl, hown, hbel⟩ := hrel
    have hb0r := hb01.trans (hbel.mono hs01)
    by_cases hkl : k < x.bods.length
    · obtain ⟨bb, off, rfl, hc⟩ := hb9.resolve_left (by intro e; rw [e] at hkl; simp at hkl)
      have c0 := hc k hkl
      have c1 := rangeKeep c0 hb0r (rangeLt c0)
      have HN := Lib.hid (wdK_next x hkl)
      obtain ⟨b, hb⟩ : ∃ b, b = x.bods[k] := ⟨_, rfl⟩
      rw [← hb] at c1 HN
      have hkk : (k : Int) < (x.bods.length : Int) := by omega
      have cAr := rowCells (keepHeap hbel hA1)
      have hlk' := hlk k
      have hszr := hbel.size
      clear hc c0 hb hlk
      obtain ⟨d0, d1, d2, d3, d4, d5, d6, d7, d8⟩ := cells9 c1
      obtain ⟨W5, hW5, hP5, hb5⟩ : ∃ W, wr.alloc (.cells #[.int .i64 b.kind, .int .i64 b.owner, .int .i64 b.x, .int .i64 b.y, .int .i64 b.vx, .int .i64 b.vy, .int .i64 b.aim, .int .i64 b.life, .int .i64 b.timer] 113) = W ∧ W.heap[wr.heap.size]? = some (.cells #[.int .i64 b.kind, .int .i64 b.owner, .int .i64 b.x, .int .i64 b.y, .int .i64 b.vx, .int .i64 b.vy, .int .i64 b.aim, .int .i64 b.life, .int .i64 b.timer] 113 (0, 0)) ∧ Below wr.heap.size wr W := ⟨_, rfl, heap_alloc_new _ _, below1 _ _⟩
      have cP5 := rowCells hP5
      have hown5 := hown.keep hb5 (Nat.le_refl _)
      have hbel5 := hbel.trans (hb5.mono hszr)
      clear c1 hown
      have hl9 := bdN_len b
      have hZ := below1 W5 (.cells #[.int .i64 b.kind, .int .i64 b.owner, .int .i64 b.x, .int .i64 b.y, .int .i64 b.vx, .int .i64 b.vy, .int .i64 b.aim, .int .i64 b.life, .int .i64 b.timer] 3)
      have hownZ := hown5.keep hZ (Nat.le_refl _)
      have hrZ : RdI (W5.alloc (.cells #[.int .i64 b.kind, .int .i64 b.owner, .int .i64 b.x, .int .i64 b.y, .int .i64 b.vx, .int .i64 b.vy, .int .i64 b.aim, .int .i64 b.life, .int .i64 b.timer] 3)) (.slice (some ⟨W5.heap.size, 0, none⟩) 9 9) (bdN b) := (OwnR.lit (n := 9) (w := W5) (B := W5.heap.size) (xs := bdN b) #[.int .i64 b.kind, .int .i64 b.owner, .int .i64 b.x, .int .i64 b.y, .int .i64 b.vx, .int .i64 b.vy, .int .i64 b.aim, .int .i64 b.life, .int .i64 b.timer] (Nat.le_refl _) rfl (by decide) rfl).own.rd
      have hbelZ := hbel5.trans (hZ.mono hbel5.size)
      clear hown5
      go_wp2_with (at_builtin; refine app_ints rfl _ _ rfl w1.heap.size _ (wdK x k) rfl hownZ _ (bdN b) rfl hrZ (by omega) hbelZ.size ?_; intro v7 w7 hown7 hb7)
      clear hW5
      rw [← HN.out] at hown7
      go_roundw
      case rel => exact ⟨k + 1, by omega, by go_num, hown7, hbelZ.trans hb7⟩
      case measure => simp [intOf]; omega
    · obtain rfl : k = x.bods.length := by omega
      rw [wdK_all] at hown
      have hll := hlk x.bods.length
      rw [wdK_all] at hll
      clear hlk
      obtain ⟨a3, c3, rfl, -⟩ := id hown.own.rd
      have hpk := packInts_spec hown.own.rd (by omega)
      have cAr := rowCells (keepHeap hbel hA1)
      generalize wdN x = L at *
      go_wp2_with (fail)
      refine hpk.mono ?_
      rintro e w6 ⟨rfl, hb6⟩
      go_wp2_with (fail)
      go_ret
      exact ⟨by rw [HF.out]; rfl, hb0r.trans (hb6.mono hb0r.size)⟩
theorem wbL_len {x : Wd} : (wbL x).length ≤ 6 * (3 + 4 + 9 * 24) + 6 := by
  cases h : worldB x with
  | false => rw [wbL_no h]; simp
  | true =>
    rw [wbL_yes h]
    obtain ⟨-, -, -, q4, q5, -, -⟩ := wd_facts h
    have hn4 := (inR_iff _ _ _).1 q4
    have hm24 := (inR_iff _ _ _).1 q5
    have hl := wdK_len x x.bods.length
    rw [wdK_all] at hl
    cases hp : packR (wdN x) with
    | none => rw [packI_none hp]; simp
    | some l =>
      have := packR_len _ _ hp
      have := encI_len ((wdN x).length : Int)
      rw [packI_some hp, List.length_append]; omega
end Go.Proofs.YtiidocjpeepheaaGreatDoor
namespace Go.Proofs.YtiidocjpeepheaaGreatDoor
open Go.RowKit Go.Great
set_option linter.all false
theorem exec_load_row {P : Program} {o : Oper} {a : Act} {w : World} (ty : TypeId) (x : Operand) (ho : o.op = .load ty x)
    (g : Nat) (hx : a.eval x = .pointer (some ⟨g, 0, none⟩)) (t : TypeId) (cs : Array Value) (fr : Nat × Nat) (d : TypeDesc) (hg : w.heap[g]? = some (.cells cs t fr))
    (hu : P.underlying ty = some d) (hd : (match d with | .struct _ | .array _ _ => true | _ => false) = true) (hi : (P.info? ty).map (·.size) = some cs.size) :
    (execOp a.eval o).run P w = .ok (.value (.agg cs)) w := by
  unfold execOp
  simp only [ho, hx, Instr.loadAt, Instr.sureAddr, Sem.run_bind, Sem.run_pure, Result.andThen_ok, run_loadVar_row w g t ty cs fr d hg hu hd hi]
/-- What SnapshotOf answers. -/
def snapL (p : Pr) : List UInt8 := if peerB p then wbL p.base else []
set_option maxRecDepth 100000 in
set_option maxHeartbeats 4000000 in
theorem snapshotOf_spec {w : World} {p : Pr} {vt bl bs bb nl ns nb vu vv vs : Value} (h : RdPr w p vt bl bs bb nl ns nb vu vv vs) (hs : p.sane) (hn : p.few) :
    Calls Tryz.prog 22 #[.agg (prC p vt bl bs bb nl ns nb vu vv vs)] w fun e w' => e = .returned (.string ⟨(snapL p).toArray⟩) ∧ Below w.heap.size w w' := by
  have h0 := h
  obtain ⟨W0, hW, A_0, q_0, -⟩ := rows1 w #[Value.int .i64 p.me, .int .i64 p.delay, .int .i64 p.ahead, .int .i64 p.seed, vt, bl, .int .i64 p.base.tick, .int .i64 p.base.seed, bs, bb, nl, .int .i64 p.now.tick, .int .i64 p.now.seed, ns, nb, vu, vv, vs, .int .i64 p.fault.tick, .int .i64 p.fault.player, .int .i64 p.fault.add, .int .i64 p.rolls, .int .i64 p.again] 46
  have hp := fun {W : World} (h1 : RdPr W p vt bl bs bb nl ns nb vu vv vs) => peerOk_spec h1 hs hn
  have hw := fun {W : World} (h1 : RdPr W p vt bl bs bb nl ns nb vu vv vs) => worldBytes_spec h1.2.1 hs.2.1
  unfold prC at hp ⊢
  unfold wdC at hw
  go_enter Tryz.func22, Tryz.ntmps22
  go_upto_region 1 with (fail)
  try rw [hW]
  clear hW
  refine wp_region_lit ?_
  refine wpList_load_row rfl 46 _ rfl (w.heap.size) rfl 46 _ (0, 0) _ A_0 Tryz.underlying46 rfl (by kernel_rfl) ?_
  go_wp2_with (fail)
  refine (hp (h0.keep q_0)).mono ?_
  rintro e w_1 ⟨rfl, hb⟩
  have q_1 := q_0.trans (hb.mono q_0.size)
  have A_1 := keepHeap hb A_0
  clear A_0 q_0 hb hp
  cases hq : peerB p with
  | false =>
    have HF := Lib.hid (show snapL p = [] by unfold snapL; rw [hq]; rfl)
    clear hq hw
    go_wp2_with (fail)
    go_ret
    exact ⟨by rw [HF.out]; rfl, q_1⟩
  | true =>
    have HF := Lib.hid (show snapL p = wbL p.base by unfold snapL; rw [hq]; rfl)
    have hw1 := hw (h0.keep q_1)
    clear hq hw
    have cA := rowCells A_1
    go_wp2_with (fail)
    refine hw1.mono ?_
    rintro e w_2 ⟨rfl, hb2⟩
    have q_2 := q_1.trans (hb2.mono q_1.size)
    generalize wbL p.base = t at HF ⊢
    go_wp2_with (fail)
    go_ret
    exact ⟨by rw [HF.out]; rfl, q_2⟩
set_option maxRecDepth 100000 in
set_option maxHeartbeats 4000000 in
theorem snapshotOf_impl {w : World} {p : Pr} {vt bl bs bb nl ns nb vu vv vs : Value} (h : RdPr w p vt bl bs bb nl ns nb vu vv vs) (hs : p.sane) (hn : p.few) :
    Calls Tryz.prog 23 #[.agg (prC p vt bl bs bb nl ns nb vu vv vs)] w fun e w' => e = .returned (.string ⟨(snapL p).toArray⟩) ∧ Below w.heap.size w w' := by
  have h0 := h
  obtain ⟨W0, hW, A_0, q_0, -⟩ := rows1 w #[Value.int .i64 p.me, .int .i64 p.delay, .int .i64 p.ahead, .int .i64 p.seed, vt, bl, .int .i64 p.base.tick, .int .i64 p.base.seed, bs, bb, nl, .int .i64 p.now.tick, .int .i64 p.now.seed, ns, nb, vu, vv, vs, .int .i64 p.fault.tick, .int .i64 p.fault.player, .int .i64 p.fault.add, .int .i64 p.rolls, .int .i64 p.again] 46
  have hp := fun {W : World} (h1 : RdPr W p vt bl bs bb nl ns nb vu vv vs) => peerOk_impl h1 hs hn
  have hw := fun {W : World} (h1 : RdPr W p vt bl bs bb nl ns nb vu vv vs) => worldBytes_impl h1.2.1 hs.2.1
  unfold prC at hp ⊢
  unfold wdC at hw
  go_enter Tryz.func23, Tryz.ntmps23
  go_upto_region 1 with (fail)
  try rw [hW]
  clear hW
  refine wp_region_lit ?_
  refine wpList_load_row rfl 46 _ rfl (w.heap.size) rfl 46 _ (0, 0) _ A_0 Tryz.underlying46 rfl (by kernel_rfl) ?_
  go_wp2_with (fail)
  refine (hp (h0.keep q_0)).mono ?_
  rintro e w_1 ⟨rfl, hb⟩
  have q_1 := q_0.trans (hb.mono q_0.size)
  have A_1 := keepHeap hb A_0
  clear A_0 q_0 hb hp
  cases hq : peerB p with
  | false =>
    have HF := Lib.hid (show snapL p = [] by unfold snapL; rw [hq]; rfl)
    clear hq hw
    go_wp2_with (fail)
    go_ret
    exact ⟨by rw [HF.out]; rfl, q_1⟩
  | true =>
    have HF := Lib.hid (show snapL p = wbL p.base by unfold snapL; rw [hq]; rfl)
    have hw1 := hw (h0.keep q_1)
    clear hq hw
    have cA := rowCells A_1
    go_wp2_with (fail)
    refine hw1.mono ?_
    rintro e w_2 ⟨rfl, hb2⟩
    have q_2 := q_1.trans (hb2.mono q_1.size)
    generalize wbL p.base = t at HF ⊢
    go_wp2_with (fail)
    go_ret
    exact ⟨by rw [HF.out]; rfl, q_2⟩
set_option maxRecDepth 100000 in
set_option maxHeartbeats 8000000 in
theorem lawSnapshotOf {w : World} (p : Pr) (vt bl bs bb nl ns nb vu vv vs : Value) (h : RdPr w p vt bl bs bb nl ns nb vu vv vs) (hs : p.sane) :
    Calls Tryz.prog 7 #[.agg (prC p vt bl bs bb nl ns nb vu vv vs)] w fun e w' => e = .returned (.bool true) ∧ Below w.heap.size w w' := by
  have h0 := h
  obtain ⟨a0, c0, rfl, -⟩ := id h.1
  obtain ⟨a1, c1, rfl, -⟩ := id h.2.1.1
  obtain ⟨a2, c2, rfl, -⟩ := id h.2.1.2.1
  obtain ⟨a3, c3, rfl, -⟩ := id h.2.1.2.2
  obtain ⟨a4, c4, rfl, -⟩ := id h.2.2.1.1
  obtain ⟨a5, c5, rfl, -⟩ := id h.2.2.1.2.1
  obtain ⟨a6, c6, rfl, -⟩ := id h.2.2.1.2.2
  obtain ⟨a7, c7, rfl, -⟩ := id h.2.2.2.1
  obtain ⟨a8, c8, rfl, -⟩ := id h.2.2.2.2.1
  obtain ⟨a9, c9, rfl, -⟩ := id h.2.2.2.2.2
  obtain ⟨w_1, hW, A_1, q0_1, -⟩ := rows1 w #[Value.int .i64 p.me, .int .i64 p.delay, .int .i64 p.ahead, .int .i64 p.seed, (.slice a0 p.tracks.length c0), (.slice a1 p.base.rows.length c1), .int .i64 p.base.tick, .int .i64 p.base.seed, (.slice a2 p.base.scores.length c2), (.slice a3 p.base.bods.length c3), (.slice a4 p.now.rows.length c4), .int .i64 p.now.tick, .int .i64 p.now.seed, (.slice a5 p.now.scores.length c5), (.slice a6 p.now.bods.length c6), (.slice a7 p.used.length c7), (.slice a8 p.saves.length c8), (.slice a9 p.sums.length c9), .int .i64 p.fault.tick, .int .i64 p.fault.player, .int .i64 p.fault.add, .int .i64 p.rolls, .int .i64 p.again] 35
  unfold prC
  go_enter Tryz.func7, Tryz.ntmps7
  go_upto_region 2 with (fail)
  try rw [hW]
  clear hW
  refine wp_region_lit ?_
  refine wpList_load_row rfl 35 _ rfl (w.heap.size) rfl 35 _ (0, 0) _ A_1 Tryz.underlying35 rfl (by kernel_rfl) ?_
  go_wp2_with (fail)
  refine (szPeer_any (h0.keep q0_1) hs 1048576 (by omega) (by omega)).mono ?_
  rintro e w_2 ⟨r, rfl, hr, hb_2⟩
  have q0_2 := q0_1.trans (hb_2.mono q0_1.size)
  have A_2 := keepHeap hb_2 A_1
  clear q0_1 A_1 hb_2
  rcases hr with rfl | ⟨hr0, -, hn⟩
  · go_wp2_with (fail)
    go_ret
    exact ⟨rfl, q0_2⟩
  have zr : decide (r < 0) = false := by simpa using hr0
  have hspec := fun {W : World} {vt bl bs bb nl ns nb vu vv vs : Value} (h1 : RdPr W p vt bl bs bb nl ns nb vu vv vs) => snapshotOf_spec h1 hs hn
  have himpl := fun {W : World} {vt bl bs bb nl ns nb vu vv vs : Value} (h1 : RdPr W p vt bl bs bb nl ns nb vu vv vs) => snapshotOf_impl h1 hs hn
  have heq := fun {W : World} {vt bl bs bb nl ns nb vu vv vs vt' bl' bs' bb' nl' ns' nb' vu' vv' vs' : Value} (h1 : RdPr W p vt bl bs bb nl ns nb vu vv vs) (h2 : RdPr W p vt' bl' bs' bb' nl' ns' nb' vu' vv' vs') => eqPeer_same h1 h2 hn
  have hto := fun {W : World} (h1 : RdPr W p (.slice a0 p.tracks.length c0) (.slice a1 p.base.rows.length c1) (.slice a2 p.base.scores.length c2) (.slice a3 p.base.bods.length c3) (.slice a4 p.now.rows.length c4) (.slice a5 p.now.scores.length c5) (.slice a6 p.now.bods.length c6) (.slice a7 p.used.length c7) (.slice a8 p.saves.length c8) (.slice a9 p.sums.length c9)) => toPeer_any h1 hn
  unfold prC at hspec himpl heq hto
  generalize (⟨(snapL p).toArray⟩ : ByteArray) = t at hspec himpl
  go_upto_region 5 with (fail)
  refine wp_region_lit ?_
  refine wpList_load_row rfl 35 _ rfl (w.heap.size) rfl 35 _ (0, 0) _ A_2 Tryz.underlying35 rfl (by kernel_rfl) ?_
  go_wp2_with (fail)
  refine (hto (h0.keep q0_2)).mono ?_
  rintro e w_3 ⟨u0, u1, u2, u3, u4, u5, u6, u7, u8, u9, rfl, o1, hb_3⟩
  have q0_3 := q0_2.trans (hb_3.mono q0_2.size)
  have A_3 := keepHeap hb_3 A_2
  clear q0_2 A_2 hb_3
  have rd1 := o1
  obtain ⟨a01, c01, rfl, -⟩ := id rd1.1
  obtain ⟨a11, c11, rfl, -⟩ := id rd1.2.1.1
  obtain ⟨a21, c21, rfl, -⟩ := id rd1.2.1.2.1
  obtain ⟨a31, c31, rfl, -⟩ := id rd1.2.1.2.2
  obtain ⟨a41, c41, rfl, -⟩ := id rd1.2.2.1.1
  obtain ⟨a51, c51, rfl, -⟩ := id rd1.2.2.1.2.1
  obtain ⟨a61, c61, rfl, -⟩ := id rd1.2.2.1.2.2
  obtain ⟨a71, c71, rfl, -⟩ := id rd1.2.2.2.1
  obtain ⟨a81, c81, rfl, -⟩ := id rd1.2.2.2.2.1
  obtain ⟨a91, c91, rfl, -⟩ := id rd1.2.2.2.2.2
  clear rd1
  unfold prC
  go_wp2_with (fail)
  refine (hspec o1).mono ?_
  rintro e w_4 ⟨rfl, hb_4⟩
  have q0_4 := q0_3.trans (hb_4.mono q0_3.size)
  have A_4 := keepHeap hb_4 A_3
  clear q0_3 A_3 hb_4 o1
  go_upto_region 6 with (fail)
  refine wp_region_lit ?_
  refine wpList_load_row rfl 35 _ rfl (w.heap.size) rfl 35 _ (0, 0) _ A_4 Tryz.underlying35 rfl (by kernel_rfl) ?_
  go_wp2_with (fail)
  rename_i hK6
  refine (hto (h0.keep q0_4)).mono ?_
  rintro e w_5 ⟨u0, u1, u2, u3, u4, u5, u6, u7, u8, u9, rfl, o2, hb_5⟩
  have q0_5 := q0_4.trans (hb_5.mono q0_4.size)
  have A_5 := keepHeap hb_5 A_4
  clear q0_4 A_4 hb_5
  have rd2 := o2
  obtain ⟨a02, c02, rfl, -⟩ := id rd2.1
  obtain ⟨a12, c12, rfl, -⟩ := id rd2.2.1.1
  obtain ⟨a22, c22, rfl, -⟩ := id rd2.2.1.2.1
  obtain ⟨a32, c32, rfl, -⟩ := id rd2.2.1.2.2
  obtain ⟨a42, c42, rfl, -⟩ := id rd2.2.2.1.1
  obtain ⟨a52, c52, rfl, -⟩ := id rd2.2.2.1.2.1
  obtain ⟨a62, c62, rfl, -⟩ := id rd2.2.2.1.2.2
  obtain ⟨a72, c72, rfl, -⟩ := id rd2.2.2.2.1
  obtain ⟨a82, c82, rfl, -⟩ := id rd2.2.2.2.2.1
  obtain ⟨a92, c92, rfl, -⟩ := id rd2.2.2.2.2.2
  clear rd2
  unfold prC
  obtain ⟨w_6, hw_6, X_6, hb_6⟩ : ∃ W, w_5.alloc (.cells #[Value.int .i64 p.me, .int .i64 p.delay, .int .i64 p.ahead, .int .i64 p.seed, (.slice a02 p.tracks.length c02), (.slice a12 p.base.rows.length c12), .int .i64 p.base.tick, .int .i64 p.base.seed, (.slice a22 p.base.scores.length c22), (.slice a32 p.base.bods.length c32), (.slice a42 p.now.rows.length c42), .int .i64 p.now.tick, .int .i64 p.now.seed, (.slice a52 p.now.scores.length c52), (.slice a62 p.now.bods.length c62), (.slice a72 p.used.length c72), (.slice a82 p.saves.length c82), (.slice a92 p.sums.length c92), .int .i64 p.fault.tick, .int .i64 p.fault.player, .int .i64 p.fault.add, .int .i64 p.rolls, .int .i64 p.again] 46) = W ∧ W.heap[w_5.heap.size]? = some (.cells #[Value.int .i64 p.me, .int .i64 p.delay, .int .i64 p.ahead, .int .i64 p.seed, (.slice a02 p.tracks.length c02), (.slice a12 p.base.rows.length c12), .int .i64 p.base.tick, .int .i64 p.base.seed, (.slice a22 p.base.scores.length c22), (.slice a32 p.base.bods.length c32), (.slice a42 p.now.rows.length c42), .int .i64 p.now.tick, .int .i64 p.now.seed, (.slice a52 p.now.scores.length c52), (.slice a62 p.now.bods.length c62), (.slice a72 p.used.length c72), (.slice a82 p.saves.length c82), (.slice a92 p.sums.length c92), .int .i64 p.fault.tick, .int .i64 p.fault.player, .int .i64 p.fault.add, .int .i64 p.rolls, .int .i64 p.again] 46 (0, 0)) ∧ Below w_5.heap.size w_5 W := ⟨_, rfl, heap_alloc_new _ _, below1 _ _⟩
  have q0_6 := q0_5.trans (hb_6.mono q0_5.size)
  have o2 := o2.keep hb_6
  have A_6 := keepHeap hb_6 A_5
  clear q0_5 A_5 hb_6
  refine hK6 _ _ ?_
  clear hK6
  refine wpList_runTo rfl _ rfl (.pointer (some ⟨w_5.heap.size, 0, none⟩)) (w_5.alloc (.cells #[Value.int .i64 0, .int .i64 0, .int .i64 0, .int .i64 0, (.slice none 0 0), (.slice none 0 0), .int .i64 0, .int .i64 0, (.slice none 0 0), (.slice none 0 0), (.slice none 0 0), .int .i64 0, .int .i64 0, (.slice none 0 0), (.slice none 0 0), (.slice none 0 0), (.slice none 0 0), (.slice none 0 0), .int .i64 0, .int .i64 0, .int .i64 0, .int .i64 0, .int .i64 0] 46)) (by kernel_rfl) ?_
  refine wpList_store_row rfl 46 _ _ rfl w_5.heap.size #[Value.int .i64 p.me, .int .i64 p.delay, .int .i64 p.ahead, .int .i64 p.seed, (.slice a02 p.tracks.length c02), (.slice a12 p.base.rows.length c12), .int .i64 p.base.tick, .int .i64 p.base.seed, (.slice a22 p.base.scores.length c22), (.slice a32 p.base.bods.length c32), (.slice a42 p.now.rows.length c42), .int .i64 p.now.tick, .int .i64 p.now.seed, (.slice a52 p.now.scores.length c52), (.slice a62 p.now.bods.length c62), (.slice a72 p.used.length c72), (.slice a82 p.saves.length c82), (.slice a92 p.sums.length c92), .int .i64 p.fault.tick, .int .i64 p.fault.player, .int .i64 p.fault.add, .int .i64 p.rolls, .int .i64 p.again] rfl rfl 46 _ (heap_alloc_new _ _) (by kernel_rfl) rfl (by simp [Value.oneCell']) ?_
  rw [World.setRow_alloc_new, hw_6]
  clear hw_6
  go_upto_region 7 with (fail)
  refine wp_region_lit ?_
  refine wpList_load_row rfl 46 _ rfl (w_5.heap.size) rfl 46 _ (0, 0) _ X_6 Tryz.underlying46 rfl (by kernel_rfl) ?_
  go_wp2_with (fail)
  refine (himpl o2).mono ?_
  rintro e w_7 ⟨rfl, hb_7⟩
  have q0_7 := q0_6.trans (hb_7.mono q0_6.size)
  have o2 := o2.keep hb_7
  have A_7 := keepHeap hb_7 A_6
  have X_7 := keepHeap hb_7 X_6
  clear q0_6 A_6 X_6 hb_7
  go_upto_region 10 with (fail)
  have ra := h0.keep q0_7
  have bs_0 : Below w_7.heap.size w_7 w_7.drew := belowDrew w_7 1
  refine wp_region_held_drew (S := fun w' => w'.heap[w.heap.size]? = some (.cells #[Value.int .i64 p.me, .int .i64 p.delay, .int .i64 p.ahead, .int .i64 p.seed, (.slice a0 p.tracks.length c0), (.slice a1 p.base.rows.length c1), .int .i64 p.base.tick, .int .i64 p.base.seed, (.slice a2 p.base.scores.length c2), (.slice a3 p.base.bods.length c3), (.slice a4 p.now.rows.length c4), .int .i64 p.now.tick, .int .i64 p.now.seed, (.slice a5 p.now.scores.length c5), (.slice a6 p.now.bods.length c6), (.slice a7 p.used.length c7), (.slice a8 p.saves.length c8), (.slice a9 p.sums.length c9), .int .i64 p.fault.tick, .int .i64 p.fault.player, .int .i64 p.fault.add, .int .i64 p.rolls, .int .i64 p.again] 35 (0, 0)) ∧ w'.heap[w_5.heap.size]? = some (.cells #[Value.int .i64 p.me, .int .i64 p.delay, .int .i64 p.ahead, .int .i64 p.seed, (.slice a02 p.tracks.length c02), (.slice a12 p.base.rows.length c12), .int .i64 p.base.tick, .int .i64 p.base.seed, (.slice a22 p.base.scores.length c22), (.slice a32 p.base.bods.length c32), (.slice a42 p.now.rows.length c42), .int .i64 p.now.tick, .int .i64 p.now.seed, (.slice a52 p.now.scores.length c52), (.slice a62 p.now.bods.length c62), (.slice a72 p.used.length c72), (.slice a82 p.saves.length c82), (.slice a92 p.sums.length c92), .int .i64 p.fault.tick, .int .i64 p.fault.player, .int .i64 p.fault.add, .int .i64 p.rolls, .int .i64 p.again] 46 (0, 0))) (by kernel_rfl) ?_ (fun hHeld => ?_)
  · exact ⟨keepHeap bs_0 A_7, keepHeap bs_0 X_7⟩
  refine take_on (i := 0) (v := .agg #[Value.int .i64 p.me, .int .i64 p.delay, .int .i64 p.ahead, .int .i64 p.seed, (.slice a02 p.tracks.length c02), (.slice a12 p.base.rows.length c12), .int .i64 p.base.tick, .int .i64 p.base.seed, (.slice a22 p.base.scores.length c22), (.slice a32 p.base.bods.length c32), (.slice a42 p.now.rows.length c42), .int .i64 p.now.tick, .int .i64 p.now.seed, (.slice a52 p.now.scores.length c52), (.slice a62 p.now.bods.length c62), (.slice a72 p.used.length c72), (.slice a82 p.saves.length c82), (.slice a92 p.sums.length c92), .int .i64 p.fault.tick, .int .i64 p.fault.player, .int .i64 p.fault.add, .int .i64 p.rolls, .int .i64 p.again]) (some 22) rfl (by kernel_rfl) (by kernel_rfl) (by kernel_rfl) rfl (fun _ _ _ h => h) (by rfl) (fun W hW => exec_load_row 46 _ rfl (w_5.heap.size) rfl 46 _ (0, 0) _ hW.2 Tryz.underlying46 rfl (by kernel_rfl)) (by assumption) ?_
  (try simp only [Act.put, List.setIfInBounds_toArray, List.set_cons_zero, List.set_cons_succ])
  refine take_on (i := 1) (v := .agg #[Value.int .i64 p.me, .int .i64 p.delay, .int .i64 p.ahead, .int .i64 p.seed, (.slice a0 p.tracks.length c0), (.slice a1 p.base.rows.length c1), .int .i64 p.base.tick, .int .i64 p.base.seed, (.slice a2 p.base.scores.length c2), (.slice a3 p.base.bods.length c3), (.slice a4 p.now.rows.length c4), .int .i64 p.now.tick, .int .i64 p.now.seed, (.slice a5 p.now.scores.length c5), (.slice a6 p.now.bods.length c6), (.slice a7 p.used.length c7), (.slice a8 p.saves.length c8), (.slice a9 p.sums.length c9), .int .i64 p.fault.tick, .int .i64 p.fault.player, .int .i64 p.fault.add, .int .i64 p.rolls, .int .i64 p.again]) (some 23) rfl (by kernel_rfl) (by kernel_rfl) (by kernel_rfl) rfl (fun _ _ _ h => h) (by rfl) (fun W hW => exec_load_row 35 _ rfl (w.heap.size) rfl 35 _ (0, 0) _ hW.1 Tryz.underlying35 rfl (by kernel_rfl)) (by assumption) ?_
  (try simp only [Act.put, List.setIfInBounds_toArray, List.set_cons_zero, List.set_cons_succ])
  refine wpAnyH_ready (rs := [2]) (by kernel_rfl) (by simp) ?_
  refine AllReadyH.cons rfl (fun K hK => ?_) AllReadyH.nil
  go_simp
  refine (hto (ra.keep bs_0)).mono ?_
  rintro e w_8 ⟨u0, u1, u2, u3, u4, u5, u6, u7, u8, u9, rfl, o8, hb_8⟩
  have bs_1 := bs_0.trans (hb_8.mono bs_0.size)
  have rd8 := o8
  obtain ⟨a08, c08, rfl, -⟩ := id rd8.1
  obtain ⟨a18, c18, rfl, -⟩ := id rd8.2.1.1
  obtain ⟨a28, c28, rfl, -⟩ := id rd8.2.1.2.1
  obtain ⟨a38, c38, rfl, -⟩ := id rd8.2.1.2.2
  obtain ⟨a48, c48, rfl, -⟩ := id rd8.2.2.1.1
  obtain ⟨a58, c58, rfl, -⟩ := id rd8.2.2.1.2.1
  obtain ⟨a68, c68, rfl, -⟩ := id rd8.2.2.1.2.2
  obtain ⟨a78, c78, rfl, -⟩ := id rd8.2.2.2.1
  obtain ⟨a88, c88, rfl, -⟩ := id rd8.2.2.2.2.1
  obtain ⟨a98, c98, rfl, -⟩ := id rd8.2.2.2.2.2
  clear rd8
  unfold prC
  (try go_wp2_with (fail))
  refine hK.out _ _ ?_ (fun hHeld => ?_)
  · exact ⟨keepHeap bs_1 A_7, keepHeap bs_1 X_7⟩
  clear hK K
  (try simp only [Act.put, List.setIfInBounds_toArray, List.set_cons_zero, List.set_cons_succ])
  refine wpAnyH_ready (rs := [3]) (by kernel_rfl) (by simp) ?_
  refine AllReadyH.cons rfl (fun K hK => ?_) AllReadyH.nil
  go_simp
  refine (heq (o2.keep bs_1) o8).mono ?_
  rintro e w_9 ⟨rfl, hb_9⟩
  have bs_2 := bs_1.trans (hb_9.mono bs_1.size)
  (try go_wp2_with (fail))
  refine hK.out _ _ ?_ (fun hHeld => ?_)
  · exact ⟨keepHeap bs_2 A_7, keepHeap bs_2 X_7⟩
  clear hK K
  (try simp only [Act.put, List.setIfInBounds_toArray, List.set_cons_zero, List.set_cons_succ])
  refine take_on (i := 4) (v := ?_) (some 26) rfl (by kernel_rfl) (by kernel_rfl) (by kernel_rfl) rfl (fun _ _ _ h => h) (by rfl) ?_ (by assumption) ?_
  rotate_left
  · intro w hSw; (try dsimp only at hSw); go_simp; (try with_reducible rfl)
  (try simp only [Act.put, List.setIfInBounds_toArray, List.set_cons_zero, List.set_cons_succ])
  refine wpAnyH_done (by kernel_rfl) ?_ _
  have hend := q0_7.trans (bs_2.mono q0_7.size)
  go_wp2_with (fail)
  go_ret
  exact ⟨rfl, hend⟩
end Go.Proofs.YtiidocjpeepheaaGreatDoor
