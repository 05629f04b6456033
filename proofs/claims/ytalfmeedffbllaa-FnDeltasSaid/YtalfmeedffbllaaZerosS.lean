/-
  The contract of PackZeros that the specification writes.
-/
import Derived.Test.YtalfmeedffbllaaZeros
namespace Go.Proofs.Ytalfmeedffbllaa
open Go.RowKit
set_option linter.all false

theorem tw_get (p : UInt8 → Bool) : ∀ (r : List UInt8) (j : Nat), j < (r.takeWhile p).length → ∃ h : j < r.length, p r[j] = true
  | [], j, h => by simp at h
  | c :: r, j, h => by
    by_cases hc : p c = true
    · rw [List.takeWhile_cons, if_pos hc] at h
      match j, h with
      | 0, _ => exact ⟨by simp, by simpa using hc⟩
      | j + 1, h =>
        obtain ⟨h1, h2⟩ := tw_get p r j (by simpa using h)
        exact ⟨by simpa using h1, by simpa using h2⟩
    · rw [List.takeWhile_cons, if_neg hc] at h; simp at h
theorem tw_end (p : UInt8 → Bool) : ∀ (r : List UInt8) (h : (r.takeWhile p).length < r.length), p (r[(r.takeWhile p).length]) = false
  | [], h => by simp at h
  | c :: r, h => by
    by_cases hc : p c = true
    · have e : ((c :: r).takeWhile p) = c :: r.takeWhile p := by rw [List.takeWhile_cons, if_pos hc]
      have h' : (r.takeWhile p).length < r.length := by rw [e] at h; simpa using h
      have := tw_end p r h'
      simp only [e, List.length_cons, List.getElem_cons_succ]
      exact this
    · have e : ((c :: r).takeWhile p) = [] := by rw [List.takeWhile_cons, if_neg hc]
      simp only [e, List.length_nil, List.getElem_cons_zero]
      simpa using hc
theorem tw_drop (p : UInt8 → Bool) (r : List UInt8) : r.dropWhile p = r.drop (r.takeWhile p).length := by
  have e := List.takeWhile_append_dropWhile (p := p) (l := r)
  have e2 : r.drop (r.takeWhile p).length = (r.takeWhile p ++ r.dropWhile p).drop (r.takeWhile p).length := by rw [e]
  rw [e2, List.drop_left]
theorem tw_take (p : UInt8 → Bool) (r : List UInt8) : r.takeWhile p = r.take (r.takeWhile p).length := by
  have e := List.takeWhile_append_dropWhile (p := p) (l := r)
  have e2 : r.take (r.takeWhile p).length = (r.takeWhile p ++ r.dropWhile p).take (r.takeWhile p).length := by rw [e]
  rw [e2, List.take_left]
/-- The runs of what is behind k: where they end. -/
theorem runs_at (l : List UInt8) (k : Nat) (hk : k < l.length) : ∃ z o : Nat, k + z + o ≤ l.length ∧ 0 < z + o ∧
    (∀ j (h : k + j < l.length), j < z → l[k + j] = 0) ∧ (∀ h : k + z < l.length, l[k + z] ≠ 0) ∧
    (∀ j (h : k + z + j < l.length), j < o → l[k + z + j] ≠ 0) ∧ (∀ h : k + z + o < l.length, l[k + z + o] = 0) ∧
    packZ (l.drop k) = encI (z : Int) ++ packT ((l.drop (k + z)).take o) ++ packZ (l.drop (k + z + o)) := by
  refine ⟨(zrun (l.drop k)).length, (orun (l.drop k)).length, ?_⟩
  have hne : l.drop k ≠ [] := by simp; omega
  have hr := congrArg List.length (runs_eq (l.drop k))
  rw [List.length_append, List.length_append, List.length_drop] at hr
  have hlt := orest_lt hne
  rw [List.length_drop] at hlt
  have hz : zrest (l.drop k) = l.drop (k + (zrun (l.drop k)).length) := by
    unfold zrest; rw [tw_drop, List.drop_drop]; rfl
  have ho : orest (l.drop k) = l.drop (k + (zrun (l.drop k)).length + (orun (l.drop k)).length) := by
    unfold orest; rw [tw_drop, hz, List.drop_drop]; unfold orun; rw [hz]
  have ho2 : orun (l.drop k) = (l.drop (k + (zrun (l.drop k)).length)).take (orun (l.drop k)).length := by
    have := tw_take (· != 0) (zrest (l.drop k))
    rw [hz] at this
    unfold orun; rw [hz]; exact this
  refine ⟨by omega, by omega, ?_, ?_, ?_, ?_, ?_⟩
  · intro j h hj
    obtain ⟨h1, h2⟩ := tw_get (· == 0) (l.drop k) j hj
    simpa using h2
  · intro h
    have e : (zrun (l.drop k)).length = ((l.drop k).takeWhile (· == 0)).length := rfl
    have := tw_end (· == 0) (l.drop k) (by rw [List.length_drop, ← e]; omega)
    simp only [List.getElem_drop, ← e] at this
    simpa using this
  · intro j h hj
    unfold orun at hj; rw [hz] at hj
    obtain ⟨h1, h2⟩ := tw_get (· != 0) (l.drop (k + (zrun (l.drop k)).length)) j hj
    simpa using h2
  · intro h
    have e : (orun (l.drop k)).length = ((l.drop (k + (zrun (l.drop k)).length)).takeWhile (· != 0)).length := by unfold orun; rw [hz]
    have := tw_end (· != 0) (l.drop (k + (zrun (l.drop k)).length)) (by rw [List.length_drop, ← e]; omega)
    simp only [List.getElem_drop, ← e] at this
    simpa using this
  · rw [packZ_cons hne, ← ho, ← ho2]
/-- The same by the places where the runs end. -/
theorem runs_to (l : List UInt8) (k : Nat) (hk : k < l.length) : ∃ a b : Nat, k ≤ a ∧ a ≤ b ∧ b ≤ l.length ∧ k < b ∧
    (∀ j (h : j < l.length), k ≤ j → j < a → l[j] = 0) ∧ (∀ h : a < l.length, l[a] ≠ 0) ∧
    (∀ j (h : j < l.length), a ≤ j → j < b → l[j] ≠ 0) ∧ (∀ h : b < l.length, l[b] = 0) ∧
    packZ (l.drop k) = encI ((a : Int) - (k : Int)) ++ packT ((l.drop a).take (b - a)) ++ packZ (l.drop b) := by
  obtain ⟨z, o, h1, h2, h3, h4, h5, h6, h7⟩ := runs_at l k hk
  refine ⟨k + z, k + z + o, by omega, by omega, h1, by omega, ?_, h4, ?_, h6, ?_⟩
  · intro j h ha hb
    obtain ⟨i, rfl⟩ := Nat.exists_eq_add_of_le ha
    exact h3 i h (by omega)
  · intro j h ha hb
    obtain ⟨i, rfl⟩ := Nat.exists_eq_add_of_le ha
    exact h5 i h (by omega)
  · rw [h7, show k + z + o - (k + z) = o by omega, show ((k + z : Nat) : Int) - (k : Int) = (z : Int) by omega]
theorem encI_len6 (x : Int) : (encI x).length ≤ 6 := by
  unfold encI; split
  · simp
  · exact encV_len6 (by omega)
set_option maxHeartbeats 2000000 in
theorem packZeros_spec (l : List UInt8) (w : World) (hs : l.length ≤ 1099511627776) :
    Calls Try.prog 27 #[.string ⟨l.toArray⟩] w fun e w' => e = .returned (.string ⟨(packZ l).toArray⟩) ∧ Below w.heap.size w w' := by
  go_enter Try.func27, Try.ntmps27
  go_wp2_with (fail)
  go_loopw [3, 4] (fun s i wr => ∃ (k : Nat) (pre : List UInt8), k ≤ l.length ∧ i = .int .i64 k ∧ pre.length ≤ 16 * k ∧ pre ++ packZ (l.drop k) = packZ l ∧ s = .string ⟨pre.toArray⟩ ∧ Below w.heap.size w wr) (fun _ i _ => l.length - (intOf i).toNat)
  case atStart => exact ⟨0, [], Nat.zero_le _, rfl, by simp, by simp, rfl, Below.refl _ _⟩
  case round =>
    obtain ⟨k, pre, hk, rfl, hpl, hpk, rfl, hbel⟩ := hrel
    by_cases hkl : k < l.length
    · obtain ⟨a, b, hka, hab, hbl, hkb, hz, hzend, ho, hoend, hpack⟩ := runs_to l k hkl
      have HP := Lib.hid hpack
      have HK := Lib.hid hpk
      have HZ := Lib.hid hz
      have HZE := Lib.hid hzend
      have HO := Lib.hid ho
      have HOE := Lib.hid hoend
      clear hpack hpk hz hzend ho hoend
      go_wp2_with (fail)
      go_loop [4] (fun i => ∃ m : Nat, k ≤ m ∧ m ≤ a ∧ i = .int .i64 m) (fun i => a - (intOf i).toNat)
      case atStart => exact ⟨k, Nat.le_refl _, hka, rfl⟩
      case round =>
        obtain ⟨m, hm1, hm2, rfl⟩ := hrel
        by_cases hma : m < a
        · have hml : m < l.length := by omega
          have hc := HZ.out m hml hm1 hma
          have hix : (ByteArray.mk l.toArray)[m]'hml = 0 := hc
          clear hc
          go_wp2_with (fail)
          go_round
          case rel => exact ⟨m + 1, by omega, by omega, by go_num⟩
          case measure => simp [intOf]; omega
        · obtain rfl : m = a := by omega
          have hsl : ((l.drop m).take (b - m)).length ≤ 70368744177664 := by rw [List.length_take, List.length_drop]; omega
          have hel := encI_len6 ((m : Int) - (k : Int))
          have hpt := packT_len ((l.drop m).take (b - m))
          have hsl2 : ((l.drop m).take (b - m)).length = b - m := by rw [List.length_take, List.length_drop]; omega
          by_cases hml : m < l.length
          · obtain ⟨c, hc⟩ : ∃ c, c = l[m] := ⟨_, rfl⟩
            have hix : (ByteArray.mk l.toArray)[m]'hml = c := hc.symm
            have hcn : ((c.toNat : Int) == 0) = false := by
              have := HZE.out hml
              rw [← hc] at this
              have h2 : c.toNat ≠ 0 := fun e => this (by apply UInt8.toNat_inj.1; simpa using e)
              simpa using h2
            clear hc
            go_wp2_with (fail)
            clear hix hcn
            go_loop [4] (fun i => ∃ n : Nat, m ≤ n ∧ n ≤ b ∧ i = .int .i64 n) (fun i => b - (intOf i).toNat)
            case atStart => exact ⟨m, Nat.le_refl _, hab, rfl⟩
            case round =>
              obtain ⟨n, hn1, hn2, rfl⟩ := hrel
              by_cases hnb : n < b
              · have hnl : n < l.length := by omega
                obtain ⟨c, hc⟩ : ∃ c, c = l[n] := ⟨_, rfl⟩
                have hix : (ByteArray.mk l.toArray)[n]'hnl = c := hc.symm
                have hcn : ((c.toNat : Int) == 0) = false := by
                  have := HO.out n hnl hn1 hnb
                  rw [← hc] at this
                  have h2 : c.toNat ≠ 0 := fun e => this (by apply UInt8.toNat_inj.1; simpa using e)
                  simpa using h2
                clear hc
                go_wp2_with (fail)
                go_round
                case rel => exact ⟨n + 1, by omega, by omega, by go_num⟩
                case measure => simp [intOf]; omega
              · obtain rfl : n = b := by omega
                by_cases hnl : n < l.length
                · have hc := HOE.out hnl
                  have hix : (ByteArray.mk l.toArray)[n]'hnl = 0 := hc
                  clear hc
                  go_wp2_with (fail)
                  have hx : ∀ W, (Instr.slice 9 (.string ⟨l.toArray⟩) (some (.int .i64 (m : Int))) (some (.int .i64 (n : Int))) none).run Try.prog W = .ok (.string ⟨((l.drop m).take (n - m)).toArray⟩) W := fun W => by
                    rw [run_slice_string W 9 _ .i64 .i64 _ _ Try.underlying9 (by omega) (by omega) (by simp [ByteArray.size]; omega), ByteArray.extract_mk]
                    rw [show (n : Int).toNat - (m : Int).toNat = n - m by omega, Int.toNat_natCast]
                  go_region_with (first
                    | (go_at_call 40; refine (encodeVarint_spec _ _).mono ?_; rintro e w1 ⟨rfl, hb1⟩)
                    | (go_at_call 41; refine (packText_spec _ _ hsl).mono ?_; rintro e w2 ⟨rfl, hb2⟩))
                  all_goals
                    go_wp2_with (fail)
                    go_simp
                    go_roundw
                    case rel => exact ⟨n, hbl, rfl, pre ++ encI ((m : Int) - (k : Int)) ++ packT ((l.drop m).take (n - m)), by simp only [List.length_append]; omega, by rw [← HK.out, HP.out]; simp only [List.append_assoc], by first | rfl | (rw [ByteArray.mk_append_mk, ByteArray.mk_append_mk]) | (simp [ByteArray.mk_append_mk]), (have B := Below.drew hbel; have B1 := B.trans (hb1.mono B.size); B1.trans (hb2.mono B1.size))⟩
                    case measure => simp [intOf]; omega
                · go_wp2_with (fail)
                  have hx : ∀ W, (Instr.slice 9 (.string ⟨l.toArray⟩) (some (.int .i64 (m : Int))) (some (.int .i64 (n : Int))) none).run Try.prog W = .ok (.string ⟨((l.drop m).take (n - m)).toArray⟩) W := fun W => by
                    rw [run_slice_string W 9 _ .i64 .i64 _ _ Try.underlying9 (by omega) (by omega) (by simp [ByteArray.size]; omega), ByteArray.extract_mk]
                    rw [show (n : Int).toNat - (m : Int).toNat = n - m by omega, Int.toNat_natCast]
                  go_region_with (first
                    | (go_at_call 40; refine (encodeVarint_spec _ _).mono ?_; rintro e w1 ⟨rfl, hb1⟩)
                    | (go_at_call 41; refine (packText_spec _ _ hsl).mono ?_; rintro e w2 ⟨rfl, hb2⟩))
                  all_goals
                    go_wp2_with (fail)
                    go_simp
                    go_roundw
                    case rel => exact ⟨n, hbl, rfl, pre ++ encI ((m : Int) - (k : Int)) ++ packT ((l.drop m).take (n - m)), by simp only [List.length_append]; omega, by rw [← HK.out, HP.out]; simp only [List.append_assoc], by first | rfl | (rw [ByteArray.mk_append_mk, ByteArray.mk_append_mk]) | (simp [ByteArray.mk_append_mk]), (have B := Below.drew hbel; have B1 := B.trans (hb1.mono B.size); B1.trans (hb2.mono B1.size))⟩
                    case measure => simp [intOf]; omega
          · go_wp2_with (fail)
            go_loop [4] (fun i => ∃ n : Nat, m ≤ n ∧ n ≤ b ∧ i = .int .i64 n) (fun i => b - (intOf i).toNat)
            case atStart => exact ⟨m, Nat.le_refl _, hab, rfl⟩
            case round =>
              obtain ⟨n, hn1, hn2, rfl⟩ := hrel
              by_cases hnb : n < b
              · exfalso; omega
              · obtain rfl : n = b := by omega
                by_cases hnl : n < l.length
                · exfalso; omega
                · go_wp2_with (fail)
                  have hx : ∀ W, (Instr.slice 9 (.string ⟨l.toArray⟩) (some (.int .i64 (m : Int))) (some (.int .i64 (n : Int))) none).run Try.prog W = .ok (.string ⟨((l.drop m).take (n - m)).toArray⟩) W := fun W => by
                    rw [run_slice_string W 9 _ .i64 .i64 _ _ Try.underlying9 (by omega) (by omega) (by simp [ByteArray.size]; omega), ByteArray.extract_mk]
                    rw [show (n : Int).toNat - (m : Int).toNat = n - m by omega, Int.toNat_natCast]
                  go_region_with (first
                    | (go_at_call 40; refine (encodeVarint_spec _ _).mono ?_; rintro e w1 ⟨rfl, hb1⟩)
                    | (go_at_call 41; refine (packText_spec _ _ hsl).mono ?_; rintro e w2 ⟨rfl, hb2⟩))
                  all_goals
                    go_wp2_with (fail)
                    go_simp
                    go_roundw
                    case rel => exact ⟨n, hbl, rfl, pre ++ encI ((m : Int) - (k : Int)) ++ packT ((l.drop m).take (n - m)), by simp only [List.length_append]; omega, by rw [← HK.out, HP.out]; simp only [List.append_assoc], by first | rfl | (rw [ByteArray.mk_append_mk, ByteArray.mk_append_mk]) | (simp [ByteArray.mk_append_mk]), (have B := Below.drew hbel; have B1 := B.trans (hb1.mono B.size); B1.trans (hb2.mono B1.size))⟩
                    case measure => simp [intOf]; omega
    · have HF := Lib.hid hpk
      go_wp2_with (fail)
      go_ret
      exact ⟨by rw [← HF.out, List.drop_of_length_le (by omega), packZ_nil, List.append_nil]; rfl, hbel⟩
end Go.Proofs.Ytalfmeedffbllaa
