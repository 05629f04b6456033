/-
  Contracts of FormatInt: the digits one by one. No condition but that the number is an int.
-/
import Derived.Test.YtiidocjpeepheaaGreatDoorHex
import Derived.Lib.ItoaLen
namespace Go.Proofs.YtiidocjpeepheaaGreatDoor
open Go.RowKit
set_option linter.all false

def ddL (m : Nat) : List UInt8 := if m = 0 then [] else Lib.decDigits m
def FmtAt (n m : Nat) (l : List UInt8) : Prop := ddL m ++ l = Lib.decDigits n
theorem FmtAt.start {n : Nat} (h : 0 < n) : FmtAt n n [] := by unfold FmtAt ddL; rw [if_neg (by omega)]; simp
theorem FmtAt.done {n : Nat} {l : List UInt8} (h : FmtAt n 0 l) : l = Lib.decDigits n := by unfold FmtAt ddL at h; simpa using h
theorem FmtAt.next {n m : Nat} {l : List UInt8} (h : FmtAt n m l) (hm : 0 < m) : FmtAt n (m / 10) (hexD (m % 10) :: l) := by
  have hd : hexD (m % 10) = UInt8.ofNat (48 + m % 10) := by unfold hexD; rw [if_pos (by omega)]
  unfold FmtAt ddL at h ⊢
  rw [if_neg (by omega)] at h
  rw [← h, hd]
  by_cases h10 : m < 10
  · rw [if_pos (by omega), Lib.decDigits_one h10, Nat.mod_eq_of_lt h10]; rfl
  · rw [if_neg (by omega)]
    conv => rhs; rw [Lib.decDigits, dif_neg h10]
    simp
theorem FmtAt.len {n m : Nat} {l : List UInt8} (h : FmtAt n m l) (hn : n ≤ 9223372036854775808) : l.length ≤ 20 := by
  have h2 : (Lib.decDigits n).length ≤ 20 := by rw [Lib.decDigits_length]; exact Lib.nDigits_le20 n (by omega)
  unfold FmtAt at h
  rw [← h, List.length_append] at h2
  omega
theorem conv_one (n : Nat) (hn : n < 256) (W : World) : (convert 128 9 (.slice (some ⟨W.heap.size, 0, none⟩) 1 1)).run Tryz.prog (W.alloc (.cells #[.int .u8 (n : Int)] 5)) = .ok (.string ⟨[UInt8.ofNat n].toArray⟩) (W.alloc (.cells #[.int .u8 (n : Int)] 5)) := by
  refine run_convert_bytes_back _ _ _ 5 ⟨W.heap.size, 0, none⟩ 1 [UInt8.ofNat n] Tryz.underlying128 Tryz.underlying5 Tryz.underlying9 fun j hj => ?_
  obtain rfl : j = 0 := by simpa using hj
  have := one_cell W (.int .u8 (n : Int)) 5 0 _ rfl
  rw [this]
  simp; omega
/-- A digit is made, laid ahead of what there is. -/
theorem cons_cat (c : UInt8) (l : List UInt8) : (ByteArray.mk [c].toArray) ++ (ByteArray.mk l.toArray) = ByteArray.mk (c :: l).toArray := by rw [ByteArray.mk_append_mk]; simp
end Go.Proofs.YtiidocjpeepheaaGreatDoor
