/-
  Chance and SpoilByte of the program and of the model; their laws. Strings of at most 2^46 bytes.
-/
import Derived.Test.YteafgghpkohfpabInts
import Derived.Test.YteafgghpkohfpabXor
import Derived.Test.YteafgghpkohfpabFault
import Derived.Deep.Cut
import Derived.Deep.CutBlock
namespace Go.Proofs.Yteafgghpkohfpab
open Go.RowKit
set_option linter.all false
def chanceR (s p : Int) : Int × Bool := ((belowR s 100).1, decide ((belowR s 100).2 < p))
theorem chance_impl (s p : Int) (w : World) : Calls Try.prog 88 #[.int .i64 s, .int .i64 p] w fun e w' => e = .returned (.tuple #[.int .i64 (chanceR s p).1, .bool (chanceR s p).2]) ∧ ∃ k, w' = w.drewN k := by
  unfold chanceR
  have hC := fun W => below_impl s 100 W
  generalize belowR s 100 = r at *
  go_enter Try.func88, Try.ntmps88
  go_wp2_with (go_at_call 89; refine (hC _).mono ?_; rintro e w1 ⟨rfl, n1, rfl⟩)
  go_ret2
  exact ⟨rfl, _, rfl⟩
theorem chance_spec (s p : Int) (w : World) : Calls Try.prog 58 #[.int .i64 s, .int .i64 p] w fun e w' => e = .returned (.tuple #[.int .i64 (chanceR s p).1, .bool (chanceR s p).2]) ∧ ∃ k, w' = w.drewN k := by
  unfold chanceR
  have hC := fun W => below_spec s 100 W
  generalize belowR s 100 = r at *
  go_enter Try.func58, Try.ntmps58
  go_wp2_with (go_at_call 59; refine (hC _).mono ?_; rintro e w1 ⟨rfl, n1, rfl⟩)
  go_ret2
  exact ⟨rfl, _, rfl⟩
/-- The seed behind the two random numbers of SpoilByte, and the text with its one byte changed. -/
def spoilS (s : Int) (l : List UInt8) : Int := (belowR (belowR s l.length).1 255).1
def spoilL (s : Int) (l : List UInt8) : List UInt8 :=
  l.set (belowR s l.length).2.toNat ((l.getD (belowR s l.length).2.toNat 0) ^^^ UInt8.ofNat ((belowR (belowR s l.length).1 255).2.toNat + 1))
def spoilB (s : Int) (l : List UInt8) : Bool := inR s 0 65535 && inR (l.length : Int) 1 4096
def spoilR (s : Int) (l : List UInt8) : Int × List UInt8 := if spoilB s l = true then (spoilS s l, spoilL s l) else (s, l)
theorem belowR_facts {s n : Int} (h1 : 1 ≤ n) (h2 : n ≤ 4096) : 0 ≤ (belowR s n).1 ∧ (belowR s n).1 ≤ 65535 ∧ 0 ≤ (belowR s n).2 ∧ (belowR s n).2 < n := by
  unfold belowR
  split
  · exact ⟨by simp, by simp, by simp, by simp; omega⟩
  · have := nextR_bd s
    refine ⟨this.1, this.2, ?_, ?_⟩
    · exact Int.emod_nonneg _ (by omega)
    · exact Int.emod_lt_of_pos _ (by omega)
theorem spoilL_len (s : Int) (l : List UInt8) : (spoilL s l).length = l.length := by unfold spoilL; simp
theorem sendable_any (l : List UInt8) (w : World) (hl : l.length ≤ 9223372036854775807) : Calls Try.prog 64 #[.string ⟨l.toArray⟩] w fun e w' => e = .returned (.bool (inR (l.length : Int) 1 4096)) ∧ w = w' := by
  go_enter Try.func64, Try.ntmps64
  go_wp2_with (fail)
  refine (within_impl _ _ _ _).mono ?_
  rintro e w1 ⟨rfl, rfl⟩
  go_wp2_with (fail)
  go_ret
  exact ⟨rfl, rfl⟩
set_option maxHeartbeats 1000000 in
theorem spoilByte_impl (s : Int) (l : List UInt8) (w : World) (hl : l.length ≤ 70368744177664) :
    Calls Try.prog 90 #[.int .i64 s, .string ⟨l.toArray⟩] w fun e w' => e = .returned (.tuple #[.int .i64 (spoilR s l).1, .string ⟨(spoilR s l).2.toArray⟩]) ∧ Below w.heap.size w w' := by
  cases q1 : inR s 0 65535 with
  | false =>
    have HF : Hid (spoilR s l = (s, l)) := Lib.hid (by unfold spoilR spoilB; rw [q1]; rfl)
    have Q1 := Lib.hid q1
    clear q1
    go_enter Try.func90, Try.ntmps90
    go_wp2_with (fail)
    refine (within_impl _ _ _ _).mono ?_
    rintro e w1 ⟨rfl, rfl⟩
    rw [Q1.out]
    go_wp2_with (fail)
    go_ret2
    exact ⟨by rw [HF.out]; rfl, Below.refl _ _⟩
  | true =>
  cases q2 : inR (l.length : Int) 1 4096 with
  | false =>
    have HF : Hid (spoilR s l = (s, l)) := Lib.hid (by unfold spoilR spoilB; rw [q1, q2]; rfl)
    have Q1 := Lib.hid q1
    have Q2 := Lib.hid q2
    clear q1 q2
    go_enter Try.func90, Try.ntmps90
    go_wp2_with (fail)
    refine (within_impl _ _ _ _).mono ?_
    rintro e w1 ⟨rfl, rfl⟩
    rw [Q1.out]
    go_wp2_with (fail)
    refine (sendable_any _ _ (by omega)).mono ?_
    rintro e w1 ⟨rfl, rfl⟩
    rw [Q2.out]
    go_wp2_with (fail)
    go_ret2
    exact ⟨by rw [HF.out]; rfl, Below.refl _ _⟩
  | true =>
  have HF : spoilR s l = (spoilS s l, spoilL s l) := by unfold spoilR spoilB; rw [q1, q2]; rfl
  have hl4 := (inR_iff _ _ _).1 q2
  have Q1 := Lib.hid q1
  have Q2 := Lib.hid q2
  clear q1 q2
  obtain ⟨-, -, h3, h4⟩ := belowR_facts (s := s) (n := (l.length : Int)) hl4.1 hl4.2
  have hA := fun W => below_impl s (l.length : Int) W
  unfold spoilS spoilL at HF
  generalize belowR s (l.length : Int) = r1 at *
  obtain ⟨x1, k0⟩ := r1
  dsimp only at *
  obtain ⟨k, rfl⟩ := Int.eq_ofNat_of_zero_le h3
  obtain ⟨-, -, h5, h6⟩ := belowR_facts (s := x1) (n := 255) (by omega) (by omega)
  have hB := fun W => below_impl x1 255 W
  generalize belowR x1 255 = r2 at *
  obtain ⟨x2, n0⟩ := r2
  dsimp only at *
  obtain ⟨n, rfl⟩ := Int.eq_ofNat_of_zero_le h5
  simp only [Int.toNat_natCast] at HF
  have hkl : k < l.length := by omega
  obtain ⟨y, hy⟩ : ∃ y, y = l[k] := ⟨_, rfl⟩
  rw [show l.getD k 0 = y by rw [hy, List.getD_eq_getElem?_getD, List.getElem?_eq_getElem hkl]; rfl] at HF
  have HF := Lib.hid HF
  have hn1 : UInt8.toNat (UInt8.ofNat (n + 1)) = n + 1 := by simp; omega
  have hxor : bits .xor .u8 (y.toNat : Int) ((n : Int) + 1) = (((y ^^^ UInt8.ofNat (n + 1)).toNat : Nat) : Int) := by
    rw [show ((n : Int) + 1) = ((n + 1 : Nat) : Int) by omega, u8_xor_nat _ _ y.toNat_lt (by omega), UInt8.toNat_xor, hn1]
  generalize UInt8.ofNat (n + 1) = z at *
  have hw1 : IntKind.u8.wrap ((n : Int) + 1) = (n : Int) + 1 := by rw [IntKind.wrap_u8']; omega
  have hcv := fun W => run_bytes_of_string (P := Try.prog) W 9 22 5 ⟨l.toArray⟩ Try.underlying9 Try.underlying22 Try.underlying5
  have hbs : ∀ c : Nat, l.length ≤ (bytesRow ⟨l.toArray⟩ c).size := fun c => by simp [bytesRow]
  have hkk : (k : Int) < (l.length : Int) := by omega
  go_enter Try.func90, Try.ntmps90
  go_wp2_with (fail)
  refine (within_impl _ _ _ _).mono ?_
  rintro e w1 ⟨rfl, rfl⟩
  rw [Q1.out]
  go_wp2_with (fail)
  refine (sendable_any _ _ (by omega)).mono ?_
  rintro e w1 ⟨rfl, rfl⟩
  rw [Q2.out]
  go_wp2_with (fail)
  refine (hA _).mono ?_
  rintro e w1 ⟨rfl, n1, rfl⟩
  go_wp2_with (fail)
  refine (hB _).mono ?_
  rintro e w1 ⟨rfl, n2, rfl⟩
  have hb2 : Below w.heap.size w ((w.drewN n1).drewN n2) := below_drewN (below_drewN (Below.refl _ _) _) _
  generalize (w.drewN n1).drewN n2 = w2 at *
  obtain ⟨W5, c, hc, hrow, hb5⟩ : ∃ W5 c, (convert 9 22 (.string ⟨l.toArray⟩)).run Try.prog w2 = .ok (.slice (some ⟨w2.heap.size, 0, none⟩) l.length c) W5 ∧ RowB W5 w2.heap.size l ∧ Below w2.heap.size w2 W5 :=
    ⟨_, _, hcv w2, RowB.made _ _ _ _ (hbs _), (belowDrew w2 1).alloc (Nat.le_refl _) _⟩
  have c2 := hrow.1 k hkl
  rw [← hy] at c2
  unfold byteV at c2
  have f2 := hrow.2 k hkl
  have hrow2 := hrow.set k hkl (y ^^^ z)
  have hb52 := (hb2.trans (hb5.mono hb2.size)).setCell (p := ⟨w2.heap.size, k, none⟩) hb2.size (.int .u8 ((y ^^^ z).toNat : Int))
  have hst := fun (n : Nat) => run_convert_bytes_back (P := Try.prog) ((W5.setCell ⟨w2.heap.size, k, none⟩ (.int .u8 ((y ^^^ z).toNat : Int))).drewN n) 22 9 5 ⟨w2.heap.size, 0, none⟩ c (l.set k (y ^^^ z)) Try.underlying22 Try.underlying5 Try.underlying9 (fun j hj => by
    rw [show (⟨w2.heap.size, 0, none⟩ : Addr).add j = ⟨w2.heap.size, j, none⟩ by unfold Addr.add; split <;> simp_all]
    exact hrow2.1 j hj)
  have hst0 := hst 0
  have hst1 := hst 1
  have e0 : ∀ W : World, W.drewN 0 = W := fun W => rfl
  have e1 : ∀ W : World, W.drewN 1 = W.drew := fun W => rfl
  rw [e0] at hst0
  rw [e1] at hst1
  clear hst e0 e1
  rw [List.length_set] at hst0 hst1
  rw [UInt8.toNat_xor] at hst0 hst1 hb52 hxor
  clear hcv hbs hrow hrow2 hb5 hb2 hy hA hB hn1
  go_wp2_with (fail)
  go_region
  all_goals
    go_wp2_with (fail)
    go_ret2
    exact ⟨by rw [HF.out]; rfl, hb52.drew⟩
set_option maxHeartbeats 1000000 in
theorem spoilByte_spec (s : Int) (l : List UInt8) (w : World) (hl : l.length ≤ 70368744177664) :
    Calls Try.prog 60 #[.int .i64 s, .string ⟨l.toArray⟩] w fun e w' => e = .returned (.tuple #[.int .i64 (spoilR s l).1, .string ⟨(spoilR s l).2.toArray⟩]) ∧ Below w.heap.size w w' := by
  cases q1 : inR s 0 65535 with
  | false =>
    have HF : Hid (spoilR s l = (s, l)) := Lib.hid (by unfold spoilR spoilB; rw [q1]; rfl)
    have Q1 := Lib.hid q1
    clear q1
    go_enter Try.func60, Try.ntmps60
    go_wp2_with (fail)
    refine (in_spec _ _ _ _).mono ?_
    rintro e w1 ⟨rfl, rfl⟩
    rw [Q1.out]
    go_wp2_with (fail)
    go_ret2
    exact ⟨by rw [HF.out]; rfl, Below.refl _ _⟩
  | true =>
  cases q2 : inR (l.length : Int) 1 4096 with
  | false =>
    have HF : Hid (spoilR s l = (s, l)) := Lib.hid (by unfold spoilR spoilB; rw [q1, q2]; rfl)
    have Q1 := Lib.hid q1
    have Q2 := Lib.hid q2
    clear q1 q2
    go_enter Try.func60, Try.ntmps60
    go_wp2_with (fail)
    refine (in_spec _ _ _ _).mono ?_
    rintro e w1 ⟨rfl, rfl⟩
    rw [Q1.out]
    go_wp2_with (fail)
    refine (in_spec _ _ _ _).mono ?_
    rintro e w1 ⟨rfl, rfl⟩
    rw [Q2.out]
    go_wp2_with (fail)
    go_ret2
    exact ⟨by rw [HF.out]; rfl, Below.refl _ _⟩
  | true =>
  have HF : spoilR s l = (spoilS s l, spoilL s l) := by unfold spoilR spoilB; rw [q1, q2]; rfl
  have hl4 := (inR_iff _ _ _).1 q2
  have Q1 := Lib.hid q1
  have Q2 := Lib.hid q2
  clear q1 q2
  obtain ⟨-, -, h3, h4⟩ := belowR_facts (s := s) (n := (l.length : Int)) hl4.1 hl4.2
  have hA := fun W => below_spec s (l.length : Int) W
  unfold spoilS spoilL at HF
  generalize belowR s (l.length : Int) = r1 at *
  obtain ⟨x1, k0⟩ := r1
  dsimp only at *
  obtain ⟨k, rfl⟩ := Int.eq_ofNat_of_zero_le h3
  obtain ⟨-, -, h5, h6⟩ := belowR_facts (s := x1) (n := 255) (by omega) (by omega)
  have hB := fun W => below_spec x1 255 W
  generalize belowR x1 255 = r2 at *
  obtain ⟨x2, n0⟩ := r2
  dsimp only at *
  obtain ⟨n, rfl⟩ := Int.eq_ofNat_of_zero_le h5
  simp only [Int.toNat_natCast] at HF
  have hkl : k < l.length := by omega
  obtain ⟨y, hy⟩ : ∃ y, y = l[k] := ⟨_, rfl⟩
  rw [show l.getD k 0 = y by rw [hy, List.getD_eq_getElem?_getD, List.getElem?_eq_getElem hkl]; rfl] at HF
  have HF := Lib.hid HF
  have hn1 : UInt8.toNat (UInt8.ofNat (n + 1)) = n + 1 := by simp; omega
  have hxor : bits .xor .u8 (y.toNat : Int) ((n : Int) + 1) = (((y ^^^ UInt8.ofNat (n + 1)).toNat : Nat) : Int) := by
    rw [show ((n : Int) + 1) = ((n + 1 : Nat) : Int) by omega, u8_xor_nat _ _ y.toNat_lt (by omega), UInt8.toNat_xor, hn1]
  generalize UInt8.ofNat (n + 1) = z at *
  have hw1 : IntKind.u8.wrap ((n : Int) + 1) = (n : Int) + 1 := by rw [IntKind.wrap_u8']; omega
  have hcv := fun W => run_bytes_of_string (P := Try.prog) W 9 22 5 ⟨l.toArray⟩ Try.underlying9 Try.underlying22 Try.underlying5
  have hbs : ∀ c : Nat, l.length ≤ (bytesRow ⟨l.toArray⟩ c).size := fun c => by simp [bytesRow]
  have hkk : (k : Int) < (l.length : Int) := by omega
  go_enter Try.func60, Try.ntmps60
  go_wp2_with (fail)
  refine (in_spec _ _ _ _).mono ?_
  rintro e w1 ⟨rfl, rfl⟩
  rw [Q1.out]
  go_wp2_with (fail)
  refine (in_spec _ _ _ _).mono ?_
  rintro e w1 ⟨rfl, rfl⟩
  rw [Q2.out]
  go_wp2_with (fail)
  refine (hA _).mono ?_
  rintro e w1 ⟨rfl, n1, rfl⟩
  go_wp2_with (fail)
  refine (hB _).mono ?_
  rintro e w1 ⟨rfl, n2, rfl⟩
  have hb2 : Below w.heap.size w ((w.drewN n1).drewN n2) := below_drewN (below_drewN (Below.refl _ _) _) _
  generalize (w.drewN n1).drewN n2 = w2 at *
  obtain ⟨W5, c, hc, hrow, hb5⟩ : ∃ W5 c, (convert 9 22 (.string ⟨l.toArray⟩)).run Try.prog w2 = .ok (.slice (some ⟨w2.heap.size, 0, none⟩) l.length c) W5 ∧ RowB W5 w2.heap.size l ∧ Below w2.heap.size w2 W5 :=
    ⟨_, _, hcv w2, RowB.made _ _ _ _ (hbs _), (belowDrew w2 1).alloc (Nat.le_refl _) _⟩
  have c2 := hrow.1 k hkl
  rw [← hy] at c2
  unfold byteV at c2
  have f2 := hrow.2 k hkl
  have hrow2 := hrow.set k hkl (y ^^^ z)
  have hb52 := (hb2.trans (hb5.mono hb2.size)).setCell (p := ⟨w2.heap.size, k, none⟩) hb2.size (.int .u8 ((y ^^^ z).toNat : Int))
  have hst := fun (n : Nat) => run_convert_bytes_back (P := Try.prog) ((W5.setCell ⟨w2.heap.size, k, none⟩ (.int .u8 ((y ^^^ z).toNat : Int))).drewN n) 22 9 5 ⟨w2.heap.size, 0, none⟩ c (l.set k (y ^^^ z)) Try.underlying22 Try.underlying5 Try.underlying9 (fun j hj => by
    rw [show (⟨w2.heap.size, 0, none⟩ : Addr).add j = ⟨w2.heap.size, j, none⟩ by unfold Addr.add; split <;> simp_all]
    exact hrow2.1 j hj)
  have hst0 := hst 0
  have hst1 := hst 1
  have e0 : ∀ W : World, W.drewN 0 = W := fun W => rfl
  have e1 : ∀ W : World, W.drewN 1 = W.drew := fun W => rfl
  rw [e0] at hst0
  rw [e1] at hst1
  clear hst e0 e1
  rw [List.length_set] at hst0 hst1
  rw [UInt8.toNat_xor] at hst0 hst1 hb52 hxor
  clear hcv hbs hrow hrow2 hb5 hb2 hy hA hB hn1
  go_wp2_with (fail)
  go_region
  all_goals
    go_wp2_with (fail)
    go_ret2
    exact ⟨by rw [HF.out]; rfl, hb52.drew⟩
end Go.Proofs.Yteafgghpkohfpab
