/-
  Contracts of XorText, and the law on it. Strings of at most 2^46 bytes.
-/
import Derived.Test.YtalfmeedffbllaaOwn
import Derived.WalkLawsBesides
namespace Go.Proofs.Ytalfmeedffbllaa
open Go.RowKit
set_option linter.all false

def xorL : List UInt8 → List UInt8 → List UInt8
  | [], b => b
  | _ :: _, [] => []
  | x :: a, y :: b => (y ^^^ x) :: xorL a b
theorem xorL_len : ∀ a b : List UInt8, (xorL a b).length = b.length
  | [], b => rfl
  | _ :: _, [] => rfl
  | x :: a, y :: b => by simp [xorL, xorL_len a b]
theorem xorL_at : ∀ (a b : List UInt8) (k : Nat) (h : k < b.length), a.length ≤ k → (xorL a b)[k]'(by rw [xorL_len]; exact h) = b[k]
  | [], b, k, h, _ => rfl
  | x :: a, y :: b, k + 1, h, hk => by
    simp only [xorL, List.getElem_cons_succ]
    exact xorL_at a b k (by simpa using h) (by simpa using hk)
  | x :: a, y :: b, 0, h, hk => by simp at hk
theorem xorL_step : ∀ (a b : List UInt8) (k : Nat) (ha : k < a.length) (hb : k < b.length), xorL (a.take (k + 1)) b = (xorL (a.take k) b).set k (b[k] ^^^ a[k])
  | [], _, _, ha, _ => by simp at ha
  | _ :: _, [], _, _, hb => by simp at hb
  | x :: a, y :: b, 0, _, _ => by simp [xorL]
  | x :: a, y :: b, k + 1, ha, hb => by
    simp only [List.take_succ_cons, xorL, List.set_cons_succ, List.getElem_cons_succ]
    rw [xorL_step a b k (by simpa using ha) (by simpa using hb)]
theorem xorL_end : ∀ (a b : List UInt8) (k : Nat), (a.length ≤ k ∨ b.length ≤ k) → xorL (a.take k) b = xorL a b
  | [], _, _, _ => by simp
  | _ :: _, [], k, _ => by cases k <;> simp [xorL]
  | x :: a, y :: b, 0, h => by simp at h
  | x :: a, y :: b, k + 1, h => by
    simp only [List.take_succ_cons, xorL]
    rw [xorL_end a b k (by simpa using h)]
/-- Block b holds the bytes l, and they may be written. -/
def RowB (w : World) (b : Nat) (l : List UInt8) : Prop := (∀ j (h : j < l.length), w.cell? ⟨b, j, none⟩ = some (byteV l[j])) ∧ ∀ j, j < l.length → w.frozen? ⟨b, j, none⟩ = false
theorem RowB.made (w : World) (l : List UInt8) (c : Nat) (n : Nat) (hn : l.length ≤ n) : RowB (w.alloc (.cells (bytesRow ⟨l.toArray⟩ c) 5 (n, n + 1))) w.heap.size l := by
  refine ⟨fun j h => ?_, fun j h => ?_⟩
  · rw [World.cell?_alloc_mark]; exact bytesRow_at _ c j (by simpa using h)
  · rw [World.frozen?_alloc_mark]; simp; omega
theorem RowB.set {w : World} {b : Nat} {l : List UInt8} (h : RowB w b l) (k : Nat) (hk : k < l.length) (c : UInt8) : RowB (w.setCell ⟨b, k, none⟩ (.int .u8 (c.toNat : Int))) b (l.set k c) := by
  refine ⟨fun j hj => ?_, fun j hj => ?_⟩
  · rw [List.length_set] at hj
    by_cases e : k = j
    · subst e
      rw [List.getElem_set_self]
      exact World.cell?_setCell_same _ _ _ (h.1 k hk)
    · rw [List.getElem_set_ne e]
      rw [World.cell?_setCell_other _ _ _ _ (by simpa using e)]
      exact h.1 j hj
  · rw [List.length_set] at hj
    rw [World.frozen?_setCell]; exact h.2 j hj
set_option maxHeartbeats 1000000 in
theorem xorText_impl (a b : List UInt8) (w : World) (ha : a.length ≤ 70368744177664) (hb : b.length ≤ 70368744177664) :
    Calls Try.prog 16 #[.string ⟨a.toArray⟩, .string ⟨b.toArray⟩] w fun e w' => e = .returned (.string ⟨(xorL a b).toArray⟩) ∧ Below w.heap.size w w' := by
  have hcv := fun W => run_bytes_of_string (P := Try.prog) W 9 22 5 ⟨b.toArray⟩ Try.underlying9 Try.underlying22 Try.underlying5
  have hbs : ∀ c : Nat, b.length ≤ (bytesRow ⟨b.toArray⟩ c).size := fun c => by simp [bytesRow]
  by_cases hm : (a.length : Int) ≤ (b.length : Int)
  all_goals
    go_enter Try.func16, Try.ntmps16
    go_wp2
    go_loopw [14] (fun i wr => ∃ k : Nat, k ≤ a.length ∧ k ≤ b.length ∧ i = .int .i64 k ∧ RowB wr w.heap.size (xorL (a.take k) b) ∧ Below w.heap.size w wr) (fun i _ => b.length - (intOf i).toNat)
    case atStart =>
      exact ⟨0, Nat.zero_le _, Nat.zero_le _, rfl, RowB.made _ _ _ _ (hbs _), ((Below.refl _ _).alloc (Nat.le_refl _) _).drew⟩
    case round =>
      obtain ⟨k, hka, hkb, rfl, hrow, hbel⟩ := hrel
      by_cases hlt : k < a.length ∧ k < b.length
      · obtain ⟨h1, h2⟩ := hlt
        have hlx : (xorL (a.take k) b).length = b.length := xorL_len _ _
        have hc := hrow.1 k (by rw [hlx]; exact h2)
        rw [xorL_at _ _ k h2 (by simp; omega)] at hc
        have hfz := hrow.2 k (by rw [hlx]; exact h2)
        have HS := Lib.hid (hrow.set k (by rw [hlx]; exact h2) (b[k] ^^^ a[k]))
        have HX := Lib.hid (xorL_step a b k h1 h2)
        obtain ⟨x, hx⟩ : ∃ x, x = a[k] := ⟨_, rfl⟩
        obtain ⟨y, hy⟩ : ∃ y, y = b[k] := ⟨_, rfl⟩
        rw [← hx, ← hy] at HS HX
        rw [← hy] at hc
        unfold byteV at hc
        have hix : (ByteArray.mk a.toArray)[k]'h1 = x := hx.symm
        have hxor : bits .xor .u8 (y.toNat : Int) (x.toNat : Int) = (((y ^^^ x).toNat : Nat) : Int) := by
          rw [u8_xor_nat _ _ y.toNat_lt x.toNat_lt, UInt8.toNat_xor]
        clear hx hy hlx hrow
        go_wp2
        go_region
        all_goals
          go_wp2
          go_roundw
          case rel => exact ⟨k + 1, by omega, by omega, by go_num, by rw [HX.out]; exact HS.out, (hbel.drew).setCell (Nat.le_refl _) _⟩
          case measure => simp [intOf]; omega
      · have HE := Lib.hid (xorL_end a b k (by omega))
        have hlx : (xorL a b).length = b.length := xorL_len _ _
        rw [HE.out] at hrow
        have hst := run_convert_bytes_back (P := Try.prog) wr 22 9 5 ⟨w.heap.size, 0, none⟩ (grownCap w b.length 0 5) (xorL a b) Try.underlying22 Try.underlying5 Try.underlying9 (fun j hj => by
          rw [show (⟨w.heap.size, 0, none⟩ : Addr).add j = ⟨w.heap.size, j, none⟩ by unfold Addr.add; split <;> simp_all]
          exact hrow.1 j hj)
        rw [hlx] at hst
        clear hlx hrow
        go_wp2
        go_ret
        exact ⟨rfl, hbel⟩
set_option maxHeartbeats 1000000 in
theorem xorText_spec (a b : List UInt8) (w : World) (ha : a.length ≤ 70368744177664) (hb : b.length ≤ 70368744177664) :
    Calls Try.prog 44 #[.string ⟨a.toArray⟩, .string ⟨b.toArray⟩] w fun e w' => e = .returned (.string ⟨(xorL a b).toArray⟩) ∧ Below w.heap.size w w' := by
  have hcv := fun W => run_bytes_of_string (P := Try.prog) W 9 22 5 ⟨b.toArray⟩ Try.underlying9 Try.underlying22 Try.underlying5
  have hbs : ∀ c : Nat, b.length ≤ (bytesRow ⟨b.toArray⟩ c).size := fun c => by simp [bytesRow]
  go_enter Try.func44, Try.ntmps44
  go_wp2
  go_loopw [6] (fun i wr => ∃ k : Nat, k ≤ a.length ∧ k ≤ b.length ∧ i = .int .i64 k ∧ RowB wr w.heap.size (xorL (a.take k) b) ∧ Below w.heap.size w wr) (fun i _ => b.length - (intOf i).toNat)
  case atStart =>
    exact ⟨0, Nat.zero_le _, Nat.zero_le _, rfl, RowB.made _ _ _ _ (hbs _), ((Below.refl _ _).alloc (Nat.le_refl _) _).drew⟩
  case round =>
    obtain ⟨k, hka, hkb, rfl, hrow, hbel⟩ := hrel
    by_cases hlt : k < a.length ∧ k < b.length
    · obtain ⟨h1, h2⟩ := hlt
      have hlx : (xorL (a.take k) b).length = b.length := xorL_len _ _
      have hc := hrow.1 k (by rw [hlx]; exact h2)
      rw [xorL_at _ _ k h2 (by simp; omega)] at hc
      have hfz := hrow.2 k (by rw [hlx]; exact h2)
      have HS := Lib.hid (hrow.set k (by rw [hlx]; exact h2) (b[k] ^^^ a[k]))
      have HX := Lib.hid (xorL_step a b k h1 h2)
      obtain ⟨x, hx⟩ : ∃ x, x = a[k] := ⟨_, rfl⟩
      obtain ⟨y, hy⟩ : ∃ y, y = b[k] := ⟨_, rfl⟩
      rw [← hx, ← hy] at HS HX
      rw [← hy] at hc
      unfold byteV at hc
      have hix : (ByteArray.mk a.toArray)[k]'h1 = x := hx.symm
      have hxor : bits .xor .u8 (y.toNat : Int) (x.toNat : Int) = (((y ^^^ x).toNat : Nat) : Int) := by
        rw [u8_xor_nat _ _ y.toNat_lt x.toNat_lt, UInt8.toNat_xor]
      clear hx hy hlx hrow
      have b1 : decide ((k : Int) < (b.length : Int)) = true := by simpa using h2
      have b2 : decide ((k : Int) < (a.length : Int)) = true := by simpa using h1
      go_wp2
      go_region
      all_goals
        go_wp2
        go_roundw
        case rel => exact ⟨k + 1, by omega, by omega, by go_num, by rw [HX.out]; exact HS.out, (hbel.drew).setCell (Nat.le_refl _) _⟩
        case measure => simp [intOf]; omega
    · have HE := Lib.hid (xorL_end a b k (by omega))
      have hlx : (xorL a b).length = b.length := xorL_len _ _
      rw [HE.out] at hrow
      have hst := run_convert_bytes_back (P := Try.prog) wr 22 9 5 ⟨w.heap.size, 0, none⟩ (grownCap w b.length 0 5) (xorL a b) Try.underlying22 Try.underlying5 Try.underlying9 (fun j hj => by
        rw [show (⟨w.heap.size, 0, none⟩ : Addr).add j = ⟨w.heap.size, j, none⟩ by unfold Addr.add; split <;> simp_all]
        exact hrow.1 j hj)
      rw [hlx] at hst
      clear hlx hrow
      by_cases h2 : k < b.length
      · have b1 : decide ((k : Int) < (b.length : Int)) = true := by simpa using h2
        have b2 : decide ((k : Int) < (a.length : Int)) = false := by simp; omega
        go_wp2
        go_ret
        exact ⟨rfl, hbel⟩
      · have b1 : decide ((k : Int) < (b.length : Int)) = false := by simpa using h2
        go_wp2
        go_ret
        exact ⟨rfl, hbel⟩
end Go.Proofs.Ytalfmeedffbllaa
