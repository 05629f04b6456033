/-
  The contract of the program's PackZeros.
-/
import Derived.Test.YtalfmeedffbllaaZerosI
namespace Go.Proofs.Ytalfmeedffbllaa
open Go.RowKit
set_option linter.all false
/-- Where PackZeros stands before the character at 'pos'. -/
def ZAt (l : List UInt8) (pos k a : Nat) (z : Bool) (pre : List UInt8) : Prop :=
  pos ≤ l.length ∧ k ≤ pos ∧ (k < pos ∨ pos = 0) ∧ (k = 0 → pre = []) ∧ pre.length ≤ 16 * k ∧ pre ++ packZ (l.drop k) = packZ l ∧
  (z = true → ∀ j (h : j < l.length), k ≤ j → j < pos → l[j] = 0) ∧
  (z = false → k ≤ a ∧ a < pos ∧ (∀ j (h : j < l.length), k ≤ j → j < a → l[j] = 0) ∧ (∀ j (h : j < l.length), a ≤ j → j < pos → l[j] ≠ 0))
theorem ZAt.start (l : List UInt8) : ZAt l 0 0 0 true [] :=
  ⟨Nat.zero_le _, Nat.le_refl _, .inr rfl, fun _ => rfl, by simp, by simp, fun _ j _ _ h => by omega, by simp⟩
/-- A zero behind others: the pair of runs is written. -/
theorem ZAt.cut {l pre : List UInt8} {pos k a : Nat} (h : ZAt l pos k a false pre) (hp : pos < l.length) (hc : l[pos] = 0) :
    ZAt l (pos + 1) pos a true (pre ++ encI ((a : Int) - (k : Int)) ++ packT ((l.drop a).take (pos - a))) := by
  obtain ⟨h1, h2, h4, h0, h5, h6, h7, h8⟩ := h
  obtain ⟨g0, g1, g2, g3⟩ := h8 rfl
  have sp := packZ_span g0 (by omega) (by omega) (by omega) g2 g3 (by omega) (fun _ => hc)
  have e1 := encI_six ((a : Int) - (k : Int))
  have e2 := packT_len ((l.drop a).take (pos - a))
  have e3 : ((l.drop a).take (pos - a)).length = pos - a := by rw [List.length_take, List.length_drop]; omega
  refine ⟨by omega, by omega, by omega, by omega, ?_, ?_, ?_, by simp⟩
  · rw [List.length_append, List.length_append]; omega
  · rw [← h6, sp]; simp only [List.append_assoc]
  · intro _ j hj hj1 hj2
    obtain rfl : j = pos := by omega
    exact hc
/-- Another byte behind zeros. -/
theorem ZAt.turn {l pre : List UInt8} {pos k a n : Nat} (h : ZAt l pos k a true pre) (hn : 1 ≤ n) (hl : pos + n ≤ l.length) (hc : ∀ j (hj : j < l.length), pos ≤ j → j < pos + n → l[j] ≠ 0) :
    ZAt l (pos + n) k pos false pre := by
  obtain ⟨h1, h2, h4, h0, h5, h6, h7, h8⟩ := h
  exact ⟨by omega, by omega, by omega, h0, h5, h6, by simp, fun _ => ⟨by omega, by omega, h7 rfl, hc⟩⟩
theorem ZAt.zero {l pre : List UInt8} {pos k a : Nat} (h : ZAt l pos k a true pre) (hp : pos < l.length) (hc : l[pos] = 0) : ZAt l (pos + 1) k a true pre := by
  obtain ⟨h1, h2, h4, h0, h5, h6, h7, h8⟩ := h
  refine ⟨by omega, by omega, by omega, h0, h5, h6, fun _ j hj hj1 hj2 => ?_, by simp⟩
  by_cases e : j = pos
  · subst e; exact hc
  · exact h7 rfl j hj hj1 (by omega)
theorem ZAt.more {l pre : List UInt8} {pos k a n : Nat} (h : ZAt l pos k a false pre) (hl : pos + n ≤ l.length) (hc : ∀ j (hj : j < l.length), pos ≤ j → j < pos + n → l[j] ≠ 0) : ZAt l (pos + n) k a false pre := by
  obtain ⟨h1, h2, h4, h0, h5, h6, h7, h8⟩ := h
  obtain ⟨g0, g1, g2, g3⟩ := h8 rfl
  refine ⟨by omega, by omega, by omega, h0, h5, h6, by simp, fun _ => ⟨g0, by omega, g2, fun j hj hj1 hj2 => ?_⟩⟩
  by_cases e : j < pos
  · exact g3 j hj hj1 e
  · exact hc j hj (by omega) hj2
/-- At the end: the last pair of runs. -/
theorem ZAt.endZ {l pre : List UInt8} {k a : Nat} (h : ZAt l l.length k a true pre) (hl : l ≠ []) :
    pre ++ encI ((l.length : Int) - (k : Int)) ++ packT (l.drop l.length) = packZ l := by
  obtain ⟨h1, h2, h4, h0, h5, h6, h7, h8⟩ := h
  have hp : 0 < l.length := List.length_pos_iff.2 hl
  have sp := packZ_span (l := l) (k := k) (a := l.length) (b := l.length) (by omega) (Nat.le_refl _) (by omega) (Nat.le_refl _) (h7 rfl) (fun j hj => by omega) (fun _ => rfl) (fun h => by omega)
  rw [← h6, sp, List.drop_of_length_le (Nat.le_refl _), packZ_nil]; simp
theorem ZAt.endO {l pre : List UInt8} {k a : Nat} (h : ZAt l l.length k a false pre) (hl : l ≠ []) :
    pre ++ encI ((a : Int) - (k : Int)) ++ packT (l.drop a) = packZ l := by
  obtain ⟨h1, h2, h4, h0, h5, h6, h7, h8⟩ := h
  obtain ⟨g0, g1, g2, g3⟩ := h8 rfl
  have sp := packZ_span (l := l) (k := k) (a := a) (b := l.length) (by omega) (by omega) (by omega) (Nat.le_refl _) g2 g3 (fun _ => rfl) (fun h => by omega)
  rw [List.drop_of_length_le (Nat.le_refl l.length), packZ_nil, List.append_nil, List.take_of_length_le (by rw [List.length_drop]; omega)] at sp
  rw [← h6, sp]; simp only [List.append_assoc]
theorem slice_from (l : List UInt8) (a : Nat) (ha : a ≤ l.length) (W : World) : (Instr.slice 9 (.string ⟨l.toArray⟩) (some (.int .i64 (a : Int))) none none).run Try.prog W = .ok (.string ⟨(l.drop a).toArray⟩) W := by
  have hsz : (ByteArray.mk l.toArray).size = l.length := by simp [ByteArray.size]
  rw [run_slice_string_from_if W 9 _ .i64 _ Try.underlying9, if_pos ⟨by omega, by rw [hsz]; omega⟩, hsz, ByteArray.extract_mk, Int.toNat_natCast]
  rw [List.take_of_length_le (by rw [List.length_drop]; omega)]
set_option maxHeartbeats 2000000 in
theorem packZeros_impl (l : List UInt8) (w : World) (hs : l.length ≤ 1099511627776) :
    Calls Try.prog 14 #[.string ⟨l.toArray⟩] w fun e w' => e = .returned (.string ⟨(packZ l).toArray⟩) ∧ Below w.heap.size w w' := by
  by_cases hl : l = []
  · subst hl
    have HF := Lib.hid packZ_nil
    go_enter Try.func14, Try.ntmps14
    go_wp2_with (fail)
    go_ret
    exact ⟨by rw [HF.out]; rfl, Below.refl _ _⟩
  · have hlp : 0 < l.length := List.length_pos_iff.2 hl
    have hsz : (ByteArray.mk l.toArray).size = l.length := by simp [ByteArray.size]
    have hbld0 : Bld ((w.alloc (.cells #[.pointer none, .slice none 0 0] 48)).iter ⟨l.toArray⟩ 0) w.heap.size w.heap.size [] := (Bld.fresh w).alloc _
    have hk0 : ((w.alloc (.cells #[.pointer none, .slice none 0 0] 48)).iter ⟨l.toArray⟩ 0).heap[w.heap.size + 1]? = some (.stringIter ⟨l.toArray⟩ 0) := by
      have h5 := World.iter_heap (w.alloc (.cells #[.pointer none, .slice none 0 0] 48)) ⟨l.toArray⟩ 0
      simpa using h5
    have hb0 : Below w.heap.size w ((w.alloc (.cells #[.pointer none, .slice none 0 0] 48)).iter ⟨l.toArray⟩ 0) := ((Below.refl _ w).alloc (Nat.le_refl _) _).alloc (by simp) _
    have hne : l.isEmpty = false := by cases l <;> simp at hl ⊢
    go_enter Try.func14, Try.ntmps14
    go_wp2_with (fail)
    go_loopw [4, 5, 6] (fun bg os iz wr => ∃ (pos k a : Nat) (z : Bool) (pre : List UInt8), bg = .int .i64 k ∧ os = .int .i64 a ∧ iz = .bool z ∧ ZAt l pos k a z pre ∧ wr.heap[w.heap.size + 1]? = some (.stringIter ⟨l.toArray⟩ pos) ∧ Bld wr w.heap.size w.heap.size pre ∧ Below w.heap.size w wr ∧ w.heap.size + 1 < wr.heap.size)
      (fun _ _ _ wr => l.length - wr.iterPos (w.heap.size + 1))
    case atStart => exact ⟨0, 0, 0, true, [], rfl, rfl, rfl, ZAt.start l, hk0, hbld0, hb0, by simp [World.iter]⟩
    case round =>
      obtain ⟨pos, k, a, z, pre, rfl, rfl, rfl, hz, hk, hbl, hbel, hsw⟩ := hrel
      clear hbld0 hk0 hb0 hne
      have hpl := hz.2.2.2.2.1
      have hkp := hz.2.1
      have hmu : wr.iterPos (w.heap.size + 1) = pos := by simp [World.iterPos, hk]
      by_cases hp : pos < l.length
      · have hrf := rune_facts hp
        have hnext0 : ∀ ty, (Instr.next (.pointer (some ⟨w.heap.size + 1, 0, none⟩)) true ty).run Try.prog wr = _ := fun ty => Lib.run_next_any_at wr (w.heap.size + 1) ⟨l.toArray⟩ pos ty hk (by rw [hsz]; exact hp)
        obtain ⟨r, n, hd⟩ : ∃ r n, Utf8.decode ⟨l.toArray⟩ pos = (r, n) := ⟨_, _, rfl⟩
        rw [hd] at hrf hnext0
        obtain ⟨hr0, hn1, hn2, hn3, hn4⟩ := hrf
        simp only at hr0 hn1 hn2 hn3 hn4 hnext0
        have hbl1 : Bld (wr.iterAt (w.heap.size + 1) ⟨l.toArray⟩ (pos + n)) w.heap.size w.heap.size pre := Lib.IsBuilderF.iterAt hbl hk (pos + n)
        have hk1 := Lib.iterAt_heap wr (w.heap.size + 1) ⟨l.toArray⟩ pos (pos + n) hk
        have hbel1 : Below w.heap.size w (wr.iterAt (w.heap.size + 1) ⟨l.toArray⟩ (pos + n)) := Lib.below_iterAt hbel (by omega) ⟨l.toArray⟩ (pos + n)
        have hsw1 : w.heap.size + 1 < (wr.iterAt (w.heap.size + 1) ⟨l.toArray⟩ (pos + n)).heap.size := by rw [Lib.iterAt_size]; exact hsw
        have hnext := hnext0
        clear hnext0
        generalize wr.iterAt (w.heap.size + 1) ⟨l.toArray⟩ (pos + n) = W1 at hnext hbl1 hk1 hbel1 hsw1
        have hmu1 : W1.iterPos (w.heap.size + 1) = pos + n := by simp [World.iterPos, hk1]
        by_cases hc : l[pos] = 0
        · have hr : r = 0 := hr0.2 hc
          have hn : n = 1 := hn3 hc
          subst hr hn
          clear hd hr0 hn3 hn4 hbl
          cases z with
          | true =>
            have HR := Lib.hid (hz.zero hp hc)
            clear hz hc
            go_wp2_with (fail)
            go_roundw
            case rel => exact ⟨pos + 1, k, a, true, pre, rfl, rfl, rfl, HR.out, hk1, hbl1, hbel1, hsw1⟩
            case measure => rw [hmu, hmu1]; omega
          | false =>
            have hka := (hz.2.2.2.2.2.2.2 rfl).1
            have hap := (hz.2.2.2.2.2.2.2 rfl).2.1
            have HR := Lib.hid (hz.cut hp hc)
            clear hz hc
            have hsl : ((l.drop a).take (pos - a)).length ≤ 35184372088832 := by rw [List.length_take, List.length_drop]; omega
            have hpz : pre.length ≤ 35184372088832 := by omega
            have hx : ∀ W, (Instr.slice 9 (.string ⟨l.toArray⟩) (some (.int .i64 (a : Int))) (some (.int .i64 (pos : Int))) none).run Try.prog W = .ok (.string ⟨((l.drop a).take (pos - a)).toArray⟩) W := fun W => by
              rw [run_slice_string W 9 _ .i64 .i64 _ _ Try.underlying9 (by omega) (by omega) (by simp [ByteArray.size]; omega), ByteArray.extract_mk]
              rw [show (pos : Int).toNat - (a : Int).toNat = pos - a by omega, Int.toNat_natCast]
            go_wp2_with (go_at_call 34; refine (writeRuns_impl hbl1 (by omega) _ _ hpz hsl).mono ?_; rintro e W2 ⟨rfl, hbl2, hbel2, hit2⟩)
            have hk2 := hit2 _ _ _ (by omega) hk1
            have hmu2 : W2.iterPos (w.heap.size + 1) = pos + 1 := by simp [World.iterPos, hk2]
            have hs2 := hbel2.size
            have hbel3 := hbel1.trans hbel2
            go_roundw
            case rel => exact ⟨pos + 1, pos, a, true, _, rfl, rfl, rfl, HR.out, hk2, hbl2, hbel3, by omega⟩
            case measure => rw [hmu, hmu2]; omega
        · have hr1 : r ≠ 0 := fun e => hc (hr0.1 e)
          have hr : ((r : Int) == 0) = false := by simpa using hr1
          have hr2 : ((r : Int) != 0) = true := by simpa using hr1
          have hn5 := hn4 hc
          clear hd hr0 hn3 hn4 hbl hc
          cases z with
          | true =>
            have HR := Lib.hid (hz.turn hn1 hn2 hn5)
            clear hz hn5
            go_wp2_with (fail)
            go_roundw
            case rel => exact ⟨pos + n, k, pos, false, pre, rfl, rfl, rfl, HR.out, hk1, hbl1, hbel1, hsw1⟩
            case measure => rw [hmu, hmu1]; omega
          | false =>
            have HR := Lib.hid (hz.more hn2 hn5)
            clear hz hn5
            go_wp2_with (fail)
            go_roundw
            case rel => exact ⟨pos + n, k, a, false, pre, rfl, rfl, rfl, HR.out, hk1, hbl1, hbel1, hsw1⟩
            case measure => rw [hmu, hmu1]; omega
      · have hnext : ∀ ty, (Instr.next (.pointer (some ⟨w.heap.size + 1, 0, none⟩)) true ty).run Try.prog wr = _ := fun ty => Lib.run_next_end_at wr (w.heap.size + 1) ⟨l.toArray⟩ pos ty hk (by rw [hsz]; exact hp)
        have hpe : pos = l.length := by have := hz.1; omega
        subst hpe
        have hpz : pre.length ≤ 35184372088832 := by omega
        cases z with
        | true =>
          have HE0 := hz.endZ hl
          clear hz
          obtain ⟨os, hos⟩ : ∃ os, os = l.drop l.length := ⟨_, rfl⟩
          rw [← hos] at HE0
          have HE := Lib.hid HE0
          clear HE0
          have hsl : os.length ≤ 35184372088832 := by rw [hos, List.length_drop]; omega
          have hx : ∀ W, (Instr.slice 9 (.string ⟨l.toArray⟩) (some (.int .i64 (l.length : Int))) none none).run Try.prog W = .ok (.string ⟨os.toArray⟩) W := fun W => by rw [hos]; exact slice_from l l.length (Nat.le_refl _) W
          clear hos
          go_wp2_with (first
            | (go_at_call 34; refine (writeRuns_impl hbl (by omega) _ os hpz hsl).mono ?_; rintro e W2 ⟨rfl, hbl2, hbel2, hit2⟩; have hs2 := hbel2.size; have hbel3 := hbel.trans hbel2)
            | (go_at_call 35; refine (bld_string hbl2 (by omega)).mono ?_; rintro e W3 ⟨rfl, hbl3, hb3, hk3⟩))
          go_ret
          exact ⟨by rw [← List.append_assoc, HE.out]; rfl, hbel3.trans hb3⟩
        | false =>
          have hka := (hz.2.2.2.2.2.2.2 rfl).1
          have hap := (hz.2.2.2.2.2.2.2 rfl).2.1
          have HE0 := hz.endO hl
          clear hz
          obtain ⟨os, hos⟩ : ∃ os, os = l.drop a := ⟨_, rfl⟩
          rw [← hos] at HE0
          have HE := Lib.hid HE0
          clear HE0
          have hsl : os.length ≤ 35184372088832 := by rw [hos, List.length_drop]; omega
          have hx : ∀ W, (Instr.slice 9 (.string ⟨l.toArray⟩) (some (.int .i64 (a : Int))) none none).run Try.prog W = .ok (.string ⟨os.toArray⟩) W := fun W => by rw [hos]; exact slice_from l a (by omega) W
          clear hos
          go_wp2_with (first
            | (go_at_call 34; refine (writeRuns_impl hbl (by omega) _ os hpz hsl).mono ?_; rintro e W2 ⟨rfl, hbl2, hbel2, hit2⟩; have hs2 := hbel2.size; have hbel3 := hbel.trans hbel2)
            | (go_at_call 35; refine (bld_string hbl2 (by omega)).mono ?_; rintro e W3 ⟨rfl, hbl3, hb3, hk3⟩))
          go_ret
          exact ⟨by rw [← List.append_assoc, HE.out]; rfl, hbel3.trans hb3⟩
end Go.Proofs.Ytalfmeedffbllaa
