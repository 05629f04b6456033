/-
  The cursor of the draws: l01New, l01Byte, l01Below, l01Once. At most 2^20 drawn bytes.
-/
import Derived.Test.YtgbdpmaajihfdaaCode
import Derived.Lib.Builder
namespace Go.Proofs.Ytgbdpmaajihfdaa
open Go.RowKit
set_option linter.all false

theorem i64_mask (n : Int) (k : Nat) (hk : k < 63) : bits .and .i64 n ((2 ^ k - 1 : Nat) : Int) = n % ((2 ^ k : Nat) : Int) := by
  have hp : (2 : Nat) ^ k ≤ 2 ^ 62 := Nat.pow_le_pow_right (by decide) (by omega)
  have hpos : 0 < (2 : Nat) ^ k := Nat.pow_pos (by decide)
  have h2 : (BitVec.ofInt 64 ((2 ^ k - 1 : Nat) : Int)).toNat = 2 ^ k - 1 := ofInt_i64 _ (by omega)
  have key : (BitVec.ofInt 64 n &&& BitVec.ofInt 64 ((2 ^ k - 1 : Nat) : Int)).toNat = (n % ((2 ^ 64 : Nat) : Int)).toNat % 2 ^ k := by
    rw [BitVec.toNat_and, BitVec.toNat_ofInt, h2, Nat.and_two_pow_sub_one_eq_mod]
  show IntKind.i64.wrap ((BitVec.ofInt 64 n &&& BitVec.ofInt 64 ((2 ^ k - 1 : Nat) : Int)).toNat : Nat) = _
  rw [key, IntKind.wrap_i64]
  have hlt := Nat.mod_lt (n % ((2 ^ 64 : Nat) : Int)).toNat hpos
  have hdvd : ((2 ^ k : Nat) : Int) ∣ ((2 ^ 64 : Nat) : Int) := Int.natCast_dvd_natCast.2 (Nat.pow_dvd_pow 2 (by omega))
  have e : (((n % ((2 ^ 64 : Nat) : Int)).toNat % 2 ^ k : Nat) : Int) = n % ((2 ^ k : Nat) : Int) := by
    rw [Int.natCast_emod, Int.toNat_of_nonneg (Int.emod_nonneg _ (by decide)), Int.emod_emod_of_dvd _ hdvd]
  rw [← e]
  omega
theorem emod_le {a b : Int} (ha : 0 ≤ a) (hb : 0 ≤ b) : a % b ≤ a := by
  obtain ⟨x, rfl⟩ := Int.eq_ofNat_of_zero_le ha
  obtain ⟨y, rfl⟩ := Int.eq_ofNat_of_zero_le hb
  have := Nat.mod_le x y
  omega
theorem i64_and255 (n : Int) : bits .and .i64 n 255 = n % 256 := i64_mask n 8 (by decide)
theorem i64_and30 (n : Int) : bits .and .i64 n 1073741823 = n % 1073741824 := i64_mask n 30 (by decide)
/-- The slice of drawn bytes, in blocks below B. -/
def RdCB (w : World) (B : Nat) (v : Value) (len : Nat) : Prop :=
  ∃ a cap, v = .slice a len cap ∧ (len = 0 ∨ ∃ b off, b < B ∧ a = some ⟨b, off, none⟩ ∧ ∀ j, j < len → ∃ x : Nat, x ≤ 255 ∧ w.cell? ⟨b, off + j, none⟩ = some (.int .u8 (x : Int)))
theorem RdC.below {w : World} {v : Value} {len : Nat} (h : RdC w v len) : RdCB w w.heap.size v len := by
  obtain ⟨a, cap, hv, h⟩ := h
  refine ⟨a, cap, hv, ?_⟩
  by_cases h0 : len = 0
  · exact .inl h0
  · obtain ⟨b, off, ha, hc⟩ := h.resolve_left h0
    obtain ⟨x, hx, hcx⟩ := hc 0 (by omega)
    exact .inr ⟨b, off, World.block_lt_of_cell? w _ hcx, ha, hc⟩
theorem RdCB.keep {w w' : World} {B : Nat} {v : Value} {len : Nat} (h : RdCB w B v len) (hb : ∀ k, k < B → w'.heap[k]? = w.heap[k]?) : RdCB w' B v len := by
  obtain ⟨a, cap, hv, h⟩ := h
  refine ⟨a, cap, hv, ?_⟩
  rcases h with h | ⟨b, off, hlt, ha, hr⟩
  · exact .inl h
  · refine .inr ⟨b, off, hlt, ha, fun j hj => ?_⟩
    obtain ⟨x, hx, hc⟩ := hr j hj
    exact ⟨x, hx, by rw [← hc]; exact World.cell?_of_block (w := w) (hb b hlt)⟩
/-- A cursor in block c, from block B on. -/
def Cur (w : World) (B c len : Nat) : Prop :=
  B ≤ c ∧ ∃ (sl : Value) (i : Nat) (h : Int), w.heap[c]? = some (.cells #[sl, .int .i64 (i : Int), .int .i64 h] 52 (0, 0)) ∧ i ≤ len ∧ RdCB w B sl len
theorem Cur.keep {w w' : World} {B c len : Nat} (h : Cur w B c len) {row : Option Nat} (hg : w.grownBy w' row) (hr : ∀ k, row = some k → B ≤ k ∧ k ≠ c) : Cur w' B c len := by
  obtain ⟨hB, sl, i, h, hc, hi, hrd⟩ := h
  have hlt : c < w.heap.size := by
    rcases Nat.lt_or_ge c w.heap.size with h' | h'
    · exact h'
    · simp [Array.getElem?_eq_none h'] at hc
  refine ⟨hB, sl, i, h, ?_, hi, hrd.keep fun k hk => hg.block k (by omega) fun e => by have := (hr k e.symm).1; omega⟩
  rw [hg.block c hlt fun e => (hr c e.symm).2 rfl]; exact hc
theorem Cur.lt {w : World} {B c len : Nat} (h : Cur w B c len) : c < w.heap.size := by
  obtain ⟨hB, sl, i, h, hc, _⟩ := h
  rcases Nat.lt_or_ge c w.heap.size with h' | h'
  · exact h'
  · simp [Array.getElem?_eq_none h'] at hc
/-- What a draw leaves: a number, the cursor moved on, nothing else turned. -/
def Drawn (w : World) (B c len : Nat) (P : Int → Prop) (e : Ending) (w' : World) : Prop := ∃ x : Int, P x ∧ e = .returned (.int .i64 x) ∧ Cur w' B c len ∧ w.grownBy w' (some c)
theorem set_heap {w : World} {c k : Nat} {v : Value} {cs : Array Value} {T : TypeId} {fr : Nat × Nat} (h : w.heap[c]? = some (.cells cs T fr)) : (w.setCell ⟨c, k, none⟩ v).heap[c]? = some (.cells (cs.setIfInBounds k v) T fr) := by
  simp [World.setCell, Array.getElem?_modify, h]
theorem grown_set (w : World) (c k : Nat) (v : Value) : w.grownBy (w.setCell ⟨c, k, none⟩ v) (some c) :=
  ⟨rfl, rfl, rfl, by simp [World.setCell], fun j _ hj => Below.heap_setCell _ _ _ _ (fun e => hj (by rw [e]))⟩
theorem grown_trans {a b c : World} {row : Option Nat} (h : a.grownBy b row) (h2 : b.grownBy c row) : a.grownBy c row :=
  ⟨h2.os.trans h.os, h2.tape.trans h.tape, h2.output.trans h.output, Nat.le_trans h.size h2.size, fun k hk hne => (h2.block k (Nat.lt_of_lt_of_le hk h.size) hne).trans (h.block k hk hne)⟩
theorem grown_drewN (w : World) (n : Nat) (row : Option Nat) : w.grownBy (w.drewN n) row := ⟨rfl, rfl, rfl, Nat.le_refl _, fun _ _ _ => rfl⟩
theorem cur_move {w : World} {B c len : Nat} {sl : Value} {i i' : Nat} {h h' : Int} (hB : B ≤ c) (hc : w.heap[c]? = some (.cells #[sl, .int .i64 (i : Int), .int .i64 h] 52 (0, 0))) (hi : i' ≤ len) (hrd : RdCB w B sl len)
    {w' : World} (hc' : w'.heap[c]? = some (.cells #[sl, .int .i64 (i' : Int), .int .i64 h'] 52 (0, 0))) (hg : w.grownBy w' (some c)) : Cur w' B c len := by
  have hlt : c < w.heap.size := by
    rcases Nat.lt_or_ge c w.heap.size with h' | h'
    · exact h'
    · simp [Array.getElem?_eq_none h'] at hc
  exact ⟨hB, sl, i', h', hc', hi, hrd.keep fun k hk => hg.block k (by omega) fun e => by injection e with e; omega⟩
def MadeCur (w : World) (v : Value) (e : Ending) (w' : World) : Prop := ∃ h : Int, e = .returned (.pointer (some ⟨w.heap.size, 0, none⟩)) ∧ w' = w.alloc (.cells #[v, .int .i64 0, .int .i64 h] 52)
theorem MadeCur.cur {w w' : World} {v : Value} {len : Nat} {e : Ending} (h : MadeCur w v e w') (hrd : RdC w v len) : Cur w' w.heap.size w.heap.size len := by
  obtain ⟨h, _, rfl⟩ := h
  exact ⟨Nat.le_refl _, v, 0, h, heap_alloc_new w _, Nat.zero_le _, hrd.below.keep fun k hk => Below.heap_alloc w _ k hk⟩
set_option maxHeartbeats 400000 in
theorem new_any {w : World} {v : Value} {len : Nat} (hrd : RdC w v len) (hl : len ≤ 1048576) :
    Calls Try.prog 11 #[v] w (MadeCur w v) := by
  obtain ⟨a, cap, rfl, h⟩ := hrd
  have hm30 := i64_and30
  by_cases h0 : len = 0
  · subst h0
    clear h
    go_enter Try.func11, Try.ntmps11
    go_wp2
    refine wp_loop_once ?_
    go_wp2
    go_ret
    exact ⟨_, rfl, rfl⟩
  · obtain ⟨b, off, rfl, hc⟩ := h.resolve_left h0
    clear h
    have HC := Lib.hid hc; clear hc
    go_enter Try.func11, Try.ntmps11
    go_wp2
    go_loop [3, 4] (fun x i => ∃ (k : Nat) (h : Int), k ≤ len ∧ i = .int .i64 k ∧ x = .int .i64 h ∧ 0 ≤ h ∧ h ≤ 2000000000) (fun _ i => len - (intOf i).toNat)
    case atStart => exact ⟨0, _, Nat.zero_le _, rfl, rfl, by omega, by omega⟩
    case round =>
      obtain ⟨k, h, hk, rfl, rfl, hh0, hh1⟩ := hrel
      by_cases hk1 : k < len
      · obtain ⟨x, hx, hcx⟩ := HC.out k hk1
        have b1 : decide ((k : Int) < (len : Int)) = true := by simpa using hk1
        by_cases hk2 : (k : Int) < 4000
        · have b2 : decide ((k : Int) < 4000) = true := by simpa using hk2
          go_wp2
          go_round
          case rel => exact ⟨k + 1, _, by omega, by go_num, rfl, by omega, by omega⟩
          case measure => simp [intOf]; omega
        · have b2 : decide ((k : Int) < 4000) = false := by simpa using hk2
          go_wp2
          go_ret
          exact ⟨_, rfl, rfl⟩
      · have b1 : decide ((k : Int) < (len : Int)) = false := by simpa using hk1
        go_wp2
        go_ret
        exact ⟨_, rfl, rfl⟩
set_option maxHeartbeats 1000000 in
theorem byte_any {w : World} {B c len : Nat} (hcur : Cur w B c len) (hl : len ≤ 1048576) :
    Calls Try.prog 27 #[.pointer (some ⟨c, 0, none⟩)] w (Drawn w B c len fun x => 0 ≤ x ∧ x ≤ 255) := by
  have hcur' := hcur
  obtain ⟨hB, sl, i, h, hc, hi, a, cap, rfl, hrd⟩ := hcur
  have hm := i64_and255
  have c0 : w.cell? ⟨c, 0, none⟩ = some (.slice a len cap) := by rw [Lib.cell_of_heap hc]; rfl
  have c1 : w.cell? ⟨c, 1, none⟩ = some (.int .i64 (i : Int)) := by rw [Lib.cell_of_heap hc]; rfl
  have c2 : w.cell? ⟨c, 2, none⟩ = some (.int .i64 h) := by rw [Lib.cell_of_heap hc]; rfl
  have f1 : w.frozen? ⟨c, 1, none⟩ = false := Lib.frozen_of_heap hc 1
  have f2 : w.frozen? ⟨c, 2, none⟩ = false := Lib.frozen_of_heap hc 2
  by_cases hil : i < len
  · obtain ⟨b, off, hbB, rfl, hbc⟩ := hrd.resolve_left (by omega)
    obtain ⟨x, hx, hcx⟩ := hbc i hil
    have hne : ¬ b = c := by omega
    have hcx' : ∀ v, (w.setCell ⟨c, 2, none⟩ v).cell? ⟨b, off + i, none⟩ = some (.int .u8 (x : Int)) := fun v => by rw [World.cell?_setCell_other _ _ _ _ (by intro e; injection e with e1; omega)]; exact hcx
    have b1 : decide ((i : Int) < (len : Int)) = true := by simpa using hil
    have hrd' : RdCB w B (.slice (some ⟨b, off, none⟩) len cap) len := ⟨_, _, rfl, hrd⟩
    clear hrd hbc hne hcur'
    have HC := Lib.hid hc; clear hc
    go_enter Try.func27, Try.ntmps27
    go_wp2
    go_quiet (fail)
    go_wp2
    go_quiet (fail)
    go_wp2
    go_quiet (fail)
    go_wp2
    go_ret
    refine ⟨_, ⟨Int.emod_nonneg _ (by decide), ?_⟩, rfl, ?_, ?_⟩
    · omega
    · exact cur_move hB HC.out (i' := i + 1) (by omega) hrd' (set_heap (set_heap HC.out)) (grown_trans (grown_set w c 2 _) (grown_trans (grown_set _ c 1 _) (grown_drewN _ _ _)))
    · exact grown_trans (grown_set w c 2 _) (grown_trans (grown_set _ c 1 _) (grown_drewN _ _ _))
  · have b1 : decide ((i : Int) < (len : Int)) = false := by simpa using hil
    have hrd' : RdCB w B (.slice a len cap) len := ⟨_, _, rfl, hrd⟩
    clear hrd hcur'
    have HC := Lib.hid hc; clear hc
    go_enter Try.func27, Try.ntmps27
    go_wp2
    go_quiet (fail)
    go_wp2
    go_quiet (fail)
    go_wp2
    go_ret
    refine ⟨_, ⟨Int.emod_nonneg _ (by decide), ?_⟩, rfl, ?_, ?_⟩
    · omega
    · exact cur_move hB HC.out hi hrd' (set_heap HC.out) (grown_trans (grown_set w c 2 _) (grown_trans (grown_drewN _ _ _) (grown_drewN _ _ _)))
    · exact grown_trans (grown_set w c 2 _) (grown_trans (grown_drewN _ _ _) (grown_drewN _ _ _))
set_option maxHeartbeats 1000000 in
theorem below_any {w : World} {B c len : Nat} (hcur : Cur w B c len) (hl : len ≤ 1048576) (n : Int) (hn : n ≤ 4611686018427387904) :
    Calls Try.prog 20 #[.pointer (some ⟨c, 0, none⟩), .int .i64 n] w (Drawn w B c len fun x => 0 ≤ x ∧ (x < n ∨ x = 0) ∧ x ≤ 4294967295) := by
  by_cases h0 : n ≤ 0
  · go_enter Try.func20, Try.ntmps20
    go_wp2_with (fail)
    go_ret
    exact ⟨0, ⟨by omega, by omega, by omega⟩, rfl, hcur, World.grownBy.refl _ _⟩
  · have hz : (n == 0) = false := by simp; omega
    have h0' : 0 < n := by omega
    by_cases h1 : n ≤ 256
    · go_enter Try.func20, Try.ntmps20
      go_wp2_with (fail)
      refine (byte_any hcur hl).mono ?_
      rintro e w1 ⟨x, ⟨hx0, hx1⟩, rfl, cur1, g1⟩
      have hm0 := Int.emod_nonneg x (show n ≠ 0 by omega)
      have hm1 := Int.emod_lt_of_pos x h0'
      go_wp2_with (fail)
      go_ret
      exact ⟨_, ⟨hm0, Or.inl hm1, by omega⟩, rfl, cur1, g1⟩
    · go_enter Try.func20, Try.ntmps20
      go_wp2_with (fail)
      refine (byte_any hcur hl).mono ?_
      rintro e w1 ⟨x, ⟨hx0, hx1⟩, rfl, cur1, g1⟩
      go_wp2_with (fail)
      refine (byte_any cur1 hl).mono ?_
      rintro e w2 ⟨y, ⟨hy0, hy1⟩, rfl, cur2, g2⟩
      go_wp2_with (fail)
      refine (byte_any cur2 hl).mono ?_
      rintro e w3 ⟨z, ⟨hz0, hz1⟩, rfl, cur3, g3⟩
      go_wp2_with (fail)
      refine (byte_any cur3 hl).mono ?_
      rintro e w4 ⟨u, ⟨hu0, hu1⟩, rfl, cur4, g4⟩
      have hm0 := Int.emod_nonneg (x * 16777216 + y * 65536 + z * 256 + u) (show n ≠ 0 by omega)
      have hm1 := Int.emod_lt_of_pos (x * 16777216 + y * 65536 + z * 256 + u) h0'
      have hm2 := emod_le (a := x * 16777216 + y * 65536 + z * 256 + u) (b := n) (by omega) (by omega)
      go_wp2_with (fail)
      go_ret
      exact ⟨_, ⟨hm0, Or.inl hm1, by omega⟩, rfl, cur4, grown_trans g1 (grown_trans g2 (grown_trans g3 g4))⟩
def DrawnBool (w : World) (B c len : Nat) (e : Ending) (w' : World) : Prop := ∃ x : Bool, e = .returned (.bool x) ∧ Cur w' B c len ∧ w.grownBy w' (some c)
end Go.Proofs.Ytgbdpmaajihfdaa
