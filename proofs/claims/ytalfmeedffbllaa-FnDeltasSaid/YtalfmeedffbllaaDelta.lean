/-
  Contracts of DeltaText and ApplyDelta, and the laws on PackZeros, UnpackZeros and these two. Strings of at most 2^40 bytes.
-/
import Derived.Test.YtalfmeedffbllaaUnzI
import Derived.Test.YtalfmeedffbllaaUnzS
import Derived.Test.YtalfmeedffbllaaXor
namespace Go.Proofs.Ytalfmeedffbllaa
open Go.RowKit
set_option linter.all false

theorem packZ_len : ∀ (k : Nat) (l : List UInt8), l.length ≤ k → (packZ l).length ≤ 16 * l.length
  | 0, l, h => by
    have : l = [] := List.eq_nil_of_length_eq_zero (by omega)
    subst this; rw [packZ_nil]; simp
  | k + 1, l, h => by
    by_cases hl : l = []
    · subst hl; rw [packZ_nil]; simp
    · have h1 := orest_lt hl
      have ih := packZ_len k (orest l) (by omega)
      have e := congrArg List.length (runs_eq l)
      simp only [List.length_append] at e
      have h2 := encI_len6 ((zrun l).length : Int)
      have h3 := packT_len (orun l)
      rw [packZ_cons hl, List.length_append, List.length_append]
      omega
def deltaL (a b : List UInt8) : List UInt8 := encI (b.length : Int) ++ packZ (xorL a b)
def applyL (a d : List UInt8) : Option (List UInt8) :=
  match decAt d 0 with
  | none => none
  | some (n, m) => match unpZ (d.drop m) with
    | none => none
    | some x => if x.length = n then some (xorL a x) else none
theorem applyL_no1 {a d : List UInt8} (h : decAt d 0 = none) : applyL a d = none := by unfold applyL; rw [h]
theorem applyL_no2 {a d : List UInt8} {n m : Nat} (h : decAt d 0 = some (n, m)) (h2 : unpZ (d.drop m) = none) : applyL a d = none := by unfold applyL; rw [h]; simp only; rw [h2]
theorem applyL_no3 {a d x : List UInt8} {n m : Nat} (h : decAt d 0 = some (n, m)) (h2 : unpZ (d.drop m) = some x) (h3 : x.length ≠ n) : applyL a d = none := by unfold applyL; rw [h]; simp only; rw [h2]; simp only; rw [if_neg h3]
theorem applyL_yes {a d x : List UInt8} {n m : Nat} (h : decAt d 0 = some (n, m)) (h2 : unpZ (d.drop m) = some x) (h3 : x.length = n) : applyL a d = some (xorL a x) := by unfold applyL; rw [h]; simp only; rw [h2]; simp only; rw [if_pos h3]
theorem retUnZ_some (x : List UInt8) : retUnZ (some x) = .tuple #[.string ⟨x.toArray⟩, .bool true] := rfl
theorem retUnZ_none : retUnZ none = .tuple #[.string ⟨#[]⟩, .bool false] := rfl
theorem unz_short : ∀ (f : Nat) (l : List UInt8) (a : Nat) (out x : List UInt8), l.length - a ≤ f → out.length ≤ 20000 → unz l a out = some x → x.length ≤ 20000
  | f, l, a, out, x, hf, ho, h => by
    by_cases ha : a < l.length
    · cases hd : decAt l (a : Int) with
      | none => rw [unz_no ha (stepZ_no1 hd)] at h; cases h
      | some y =>
        obtain ⟨n, m⟩ := y
        cases hu : unpT l ((a : Int) + (m : Int)) with
        | none => rw [unz_no ha (stepZ_no2 hd hu)] at h; cases h
        | some z =>
          obtain ⟨t, k⟩ := z
          by_cases hlong : 20000 < out.length + n + t.length
          · rw [unz_no ha (stepZ_no3 hd hu hlong)] at h; cases h
          · have hm := (decAt_facts hd).2.1
            rw [unz_yes ha (stepZ_yes hd hu hlong) (by omega)] at h
            match f, hf with
            | 0, hf => omega
            | f + 1, hf => exact unz_short f l _ _ x (by omega) (by simp only [List.length_append, List.length_replicate]; omega) h
    · rw [unz_end ha] at h
      simp at h; subst h; exact ho
theorem unpZ_short {l x : List UInt8} (h : unpZ l = some x) : x.length ≤ 20000 := by
  unfold unpZ at h
  split at h
  · cases h
  · rename_i out ho
    split at h
    · simp at h; subst h; exact unz_short _ l 0 [] _ (Nat.le_refl _) (by simp) ho
    · cases h
set_option maxHeartbeats 1000000 in
theorem deltaText_impl (a b : List UInt8) (w : World) (ha : a.length ≤ 1099511627776) (hb : b.length ≤ 1099511627776) :
    Calls Try.prog 12 #[.string ⟨a.toArray⟩, .string ⟨b.toArray⟩] w fun e w' => e = .returned (.string ⟨(deltaL a b).toArray⟩) ∧ Below w.heap.size w w' := by
  have hx := xorL_len a b
  have hp := packZ_len _ (xorL a b) (Nat.le_refl _)
  have he := encI_len6 (b.length : Int)
  go_enter Try.func12, Try.ntmps12
  go_wp2_with (first
    | (go_at_call 17; refine (encodeVarint_impl _ _).mono ?_; rintro e w1 ⟨rfl, hb1⟩)
    | (go_at_call 16; refine (xorText_impl _ _ _ (by omega) (by omega)).mono ?_; rintro e w2 ⟨rfl, hb2⟩)
    | (go_at_call 14; refine (packZeros_impl _ _ (by omega)).mono ?_; rintro e w3 ⟨rfl, hb3⟩))
  go_ret
  exact ⟨by rw [ByteArray.mk_append_mk]; rfl, (hb1.trans (hb2.mono hb1.size)).trans (hb3.mono (by have := hb1.size; have := hb2.size; omega))⟩
set_option maxHeartbeats 1000000 in
theorem deltaText_spec (a b : List UInt8) (w : World) (ha : a.length ≤ 1099511627776) (hb : b.length ≤ 1099511627776) :
    Calls Try.prog 29 #[.string ⟨a.toArray⟩, .string ⟨b.toArray⟩] w fun e w' => e = .returned (.string ⟨(deltaL a b).toArray⟩) ∧ Below w.heap.size w w' := by
  have hx := xorL_len a b
  have hp := packZ_len _ (xorL a b) (Nat.le_refl _)
  have he := encI_len6 (b.length : Int)
  go_enter Try.func29, Try.ntmps29
  go_wp2_with (first
    | (go_at_call 40; refine (encodeVarint_spec _ _).mono ?_; rintro e w1 ⟨rfl, hb1⟩)
    | (go_at_call 44; refine (xorText_spec _ _ _ (by omega) (by omega)).mono ?_; rintro e w2 ⟨rfl, hb2⟩)
    | (go_at_call 27; refine (packZeros_spec _ _ (by omega)).mono ?_; rintro e w3 ⟨rfl, hb3⟩))
  go_ret
  exact ⟨by rw [ByteArray.mk_append_mk]; rfl, (hb1.trans (hb2.mono hb1.size)).trans (hb3.mono (by have := hb1.size; have := hb2.size; omega))⟩
set_option maxHeartbeats 1000000 in
theorem applyDelta_impl (a d : List UInt8) (w : World) (ha : a.length ≤ 1099511627776) (hs : d.length ≤ 1099511627776) :
    Calls Try.prog 13 #[.string ⟨a.toArray⟩, .string ⟨d.toArray⟩] w fun e w' => e = .returned (retUnZ (applyL a d)) ∧ Below w.heap.size w w' := by
  have hs2 : d.length ≤ 70368744177664 := by omega
  cases hd : decAt d 0 with
  | none =>
    have HF := Lib.hid (applyL_no1 (a := a) hd)
    have HD := Lib.hid hd; clear hd
    go_enter Try.func13, Try.ntmps13
    go_wp2_with (go_at_call 33; refine (decodeVarint_impl _ _ _ hs2).mono ?_; rintro e w1 ⟨rfl, rfl⟩; rw [HD.out, retDec_none])
    go_ret2
    exact ⟨by rw [HF.out]; rfl, Below.refl _ _⟩
  | some y =>
    obtain ⟨n, m⟩ := y
    obtain ⟨-, hm1, hm6, hpm, hn⟩ := decAt_facts hd
    have hpm' : m ≤ d.length := by simpa using hpm
    have hx : ∀ W, (Instr.slice 9 (.string ⟨d.toArray⟩) (some (.int .i64 (m : Int))) none none).run Try.prog W = .ok (.string ⟨(d.drop m).toArray⟩) W := fun W => slice_from d m hpm' W
    have hdl : (d.drop m).length ≤ 70368744177664 := by rw [List.length_drop]; omega
    cases hu : unpZ (d.drop m) with
    | none =>
      have HF := Lib.hid (applyL_no2 (a := a) hd hu)
      have HD := Lib.hid hd; have HU := Lib.hid hu; clear hd hu
      go_enter Try.func13, Try.ntmps13
      go_wp2_with (first
        | (go_at_call 33; refine (decodeVarint_impl _ _ _ hs2).mono ?_; rintro e w1 ⟨rfl, rfl⟩; rw [HD.out, retDec_some])
        | (go_at_call 15; refine (unpackZeros_impl _ _ hdl).mono ?_; rintro e w2 ⟨rfl, hb2⟩; rw [HU.out, retUnZ_none]))
      go_ret2
      exact ⟨by rw [HF.out]; rfl, hb2⟩
    | some x =>
      have hxl := unpZ_short hu
      have hsx : (ByteArray.mk x.toArray).size = x.length := by simp [ByteArray.size]
      by_cases hxn : x.length = n
      · have HF := Lib.hid (applyL_yes (a := a) hd hu hxn)
        have HD := Lib.hid hd; have HU := Lib.hid hu; clear hd hu
        have hq : ((x.length : Int) != (n : Int)) = false := by simp [hxn]
        have hq2 : (decide ((x.length : Int) = (n : Int))) = true := by simp [hxn]
        go_enter Try.func13, Try.ntmps13
        go_wp2_with (first
          | (go_at_call 33; refine (decodeVarint_impl _ _ _ hs2).mono ?_; rintro e w1 ⟨rfl, rfl⟩; rw [HD.out, retDec_some])
          | (go_at_call 15; refine (unpackZeros_impl _ _ hdl).mono ?_; rintro e w2 ⟨rfl, hb2⟩; rw [HU.out, retUnZ_some])
          | (go_at_call 16; refine (xorText_impl _ _ _ (by omega) (by omega)).mono ?_; rintro e w3 ⟨rfl, hb3⟩))
        go_ret2
        exact ⟨by rw [HF.out]; rfl, hb2.trans (hb3.mono hb2.size)⟩
      · have HF := Lib.hid (applyL_no3 (a := a) hd hu hxn)
        have HD := Lib.hid hd; have HU := Lib.hid hu; clear hd hu
        have hq : ((x.length : Int) != (n : Int)) = true := by simp; omega
        go_enter Try.func13, Try.ntmps13
        go_wp2_with (first
          | (go_at_call 33; refine (decodeVarint_impl _ _ _ hs2).mono ?_; rintro e w1 ⟨rfl, rfl⟩; rw [HD.out, retDec_some])
          | (go_at_call 15; refine (unpackZeros_impl _ _ hdl).mono ?_; rintro e w2 ⟨rfl, hb2⟩; rw [HU.out, retUnZ_some]))
        go_ret2
        exact ⟨by rw [HF.out]; rfl, hb2⟩
set_option maxHeartbeats 1000000 in
theorem applyDelta_spec (a d : List UInt8) (w : World) (ha : a.length ≤ 1099511627776) (hs : d.length ≤ 1099511627776) :
    Calls Try.prog 30 #[.string ⟨a.toArray⟩, .string ⟨d.toArray⟩] w fun e w' => e = .returned (retUnZ (applyL a d)) ∧ Below w.heap.size w w' := by
  have hs2 : d.length ≤ 70368744177664 := by omega
  cases hd : decAt d 0 with
  | none =>
    have HF := Lib.hid (applyL_no1 (a := a) hd)
    have HD := Lib.hid hd; clear hd
    go_enter Try.func30, Try.ntmps30
    go_wp2_with (go_at_call 42; refine (decodeVarint_spec _ _ _ hs2 (by omega)).mono ?_; rintro e w1 ⟨rfl, hb1⟩; rw [HD.out, retDec_none])
    go_ret2
    exact ⟨by rw [HF.out]; rfl, hb1⟩
  | some y =>
    obtain ⟨n, m⟩ := y
    obtain ⟨-, hm1, hm6, hpm, hn⟩ := decAt_facts hd
    have hpm' : m ≤ d.length := by simpa using hpm
    have hx : ∀ W, (Instr.slice 9 (.string ⟨d.toArray⟩) (some (.int .i64 (m : Int))) none none).run Try.prog W = .ok (.string ⟨(d.drop m).toArray⟩) W := fun W => slice_from d m hpm' W
    have hdl : (d.drop m).length ≤ 70368744177664 := by rw [List.length_drop]; omega
    cases hu : unpZ (d.drop m) with
    | none =>
      have HF := Lib.hid (applyL_no2 (a := a) hd hu)
      have HD := Lib.hid hd; have HU := Lib.hid hu; clear hd hu
      go_enter Try.func30, Try.ntmps30
      go_wp2_with (first
        | (go_at_call 42; refine (decodeVarint_spec _ _ _ hs2 (by omega)).mono ?_; rintro e w1 ⟨rfl, hb1⟩; rw [HD.out, retDec_some])
        | (go_at_call 28; refine (unpackZeros_spec _ _ hdl).mono ?_; rintro e w2 ⟨rfl, hb2⟩; rw [HU.out, retUnZ_none]))
      go_ret2
      exact ⟨by rw [HF.out]; rfl, hb1.trans (hb2.mono hb1.size)⟩
    | some x =>
      have hxl := unpZ_short hu
      have hsx : (ByteArray.mk x.toArray).size = x.length := by simp [ByteArray.size]
      by_cases hxn : x.length = n
      · have HF := Lib.hid (applyL_yes (a := a) hd hu hxn)
        have HD := Lib.hid hd; have HU := Lib.hid hu; clear hd hu
        have hq : ((x.length : Int) != (n : Int)) = false := by simp [hxn]
        go_enter Try.func30, Try.ntmps30
        go_wp2_with (first
          | (go_at_call 42; refine (decodeVarint_spec _ _ _ hs2 (by omega)).mono ?_; rintro e w1 ⟨rfl, hb1⟩; rw [HD.out, retDec_some])
          | (go_at_call 28; refine (unpackZeros_spec _ _ hdl).mono ?_; rintro e w2 ⟨rfl, hb2⟩; rw [HU.out, retUnZ_some])
          | (go_at_call 44; refine (xorText_spec _ _ _ (by omega) (by omega)).mono ?_; rintro e w3 ⟨rfl, hb3⟩))
        go_ret2
        exact ⟨by rw [HF.out]; rfl, (hb1.trans (hb2.mono hb1.size)).trans (hb3.mono (by have := hb1.size; have := hb2.size; omega))⟩
      · have HF := Lib.hid (applyL_no3 (a := a) hd hu hxn)
        have HD := Lib.hid hd; have HU := Lib.hid hu; clear hd hu
        have hq : ((x.length : Int) != (n : Int)) = true := by simp; omega
        go_enter Try.func30, Try.ntmps30
        go_wp2_with (first
          | (go_at_call 42; refine (decodeVarint_spec _ _ _ hs2 (by omega)).mono ?_; rintro e w1 ⟨rfl, hb1⟩; rw [HD.out, retDec_some])
          | (go_at_call 28; refine (unpackZeros_spec _ _ hdl).mono ?_; rintro e w2 ⟨rfl, hb2⟩; rw [HU.out, retUnZ_some]))
        go_ret2
        exact ⟨by rw [HF.out]; rfl, hb1.trans (hb2.mono hb1.size)⟩
theorem lawPackZeros (s : ByteArray) (hs : s.size ≤ maxLen) (w : World) :
    Calls Try.prog 6 #[.string s] w fun e w' => e = .returned (.bool true) ∧ Below w.heap.size w w' := by
  unfold maxLen at hs
  obtain ⟨l, rfl⟩ : ∃ l : List UInt8, s = ⟨l.toArray⟩ := ⟨s.data.toList, rfl⟩
  have hs' : l.length ≤ 9223372036854775807 := hs
  clear hs
  by_cases h : 1048576 < l.length
  · go_enter Try.func6, Try.ntmps6
    go_wp2_with (fail)
    go_ret
    exact ⟨rfl, Below.refl _ _⟩
  · have h' : l.length ≤ 1099511627776 := by omega
    go_enter Try.func6, Try.ntmps6
    go_wp2_with (first
      | (go_at_call 27; refine (packZeros_spec _ _ h').mono ?_; rintro e w1 ⟨rfl, hb1⟩)
      | (go_at_call 14; refine (packZeros_impl _ _ h').mono ?_; rintro e w2 ⟨rfl, hb2⟩))
    go_ret
    exact ⟨rfl, hb1.trans (hb2.mono hb1.size)⟩
theorem lawUnpackZeros (s : ByteArray) (hs : s.size ≤ maxLen) (w : World) :
    Calls Try.prog 7 #[.string s] w fun e w' => e = .returned (.bool true) ∧ Below w.heap.size w w' := by
  unfold maxLen at hs
  obtain ⟨l, rfl⟩ : ∃ l : List UInt8, s = ⟨l.toArray⟩ := ⟨s.data.toList, rfl⟩
  have hs' : l.length ≤ 9223372036854775807 := hs
  clear hs
  by_cases h : 1048576 < l.length
  · go_enter Try.func7, Try.ntmps7
    go_wp2_with (fail)
    go_ret
    exact ⟨rfl, Below.refl _ _⟩
  · have h' : l.length ≤ 70368744177664 := by omega
    go_enter Try.func7, Try.ntmps7
    go_wp2_with (first
      | (go_at_call 28; refine (unpackZeros_spec _ _ h').mono ?_; rintro e w1 ⟨rfl, hb1⟩; unfold retUnZ)
      | (go_at_call 15; refine (unpackZeros_impl _ _ h').mono ?_; rintro e w2 ⟨rfl, hb2⟩; unfold retUnZ))
    go_ret
    exact ⟨rfl, hb1.trans (hb2.mono hb1.size)⟩
theorem lawDeltaText (s : ByteArray) (hs : s.size ≤ maxLen) (t : ByteArray) (ht : t.size ≤ maxLen) (w : World) :
    Calls Try.prog 8 #[.string s, .string t] w fun e w' => e = .returned (.bool true) ∧ Below w.heap.size w w' := by
  unfold maxLen at hs ht
  obtain ⟨a, rfl⟩ : ∃ l : List UInt8, s = ⟨l.toArray⟩ := ⟨s.data.toList, rfl⟩
  obtain ⟨b, rfl⟩ : ∃ l : List UInt8, t = ⟨l.toArray⟩ := ⟨t.data.toList, rfl⟩
  have hs' : a.length ≤ 9223372036854775807 := hs
  have ht' : b.length ≤ 9223372036854775807 := ht
  clear hs ht
  by_cases h : 1048576 < a.length ∨ 1048576 < b.length
  · by_cases h1 : 1048576 < a.length
    · go_enter Try.func8, Try.ntmps8
      go_wp2_with (fail)
      go_ret
      exact ⟨rfl, Below.refl _ _⟩
    · have h2 : 1048576 < b.length := by omega
      go_enter Try.func8, Try.ntmps8
      go_wp2_with (fail)
      go_ret
      exact ⟨rfl, Below.refl _ _⟩
  · have ha : a.length ≤ 1099511627776 := by omega
    have hb : b.length ≤ 1099511627776 := by omega
    have h1 : ¬ 1048576 < a.length := by omega
    have h2 : ¬ 1048576 < b.length := by omega
    clear h
    go_enter Try.func8, Try.ntmps8
    go_wp2_with (first
      | (go_at_call 29; refine (deltaText_spec _ _ _ ha hb).mono ?_; rintro e w1 ⟨rfl, hb1⟩)
      | (go_at_call 12; refine (deltaText_impl _ _ _ ha hb).mono ?_; rintro e w2 ⟨rfl, hb2⟩))
    go_ret
    exact ⟨rfl, hb1.trans (hb2.mono hb1.size)⟩
theorem lawApplyDelta (s : ByteArray) (hs : s.size ≤ maxLen) (t : ByteArray) (ht : t.size ≤ maxLen) (w : World) :
    Calls Try.prog 9 #[.string s, .string t] w fun e w' => e = .returned (.bool true) ∧ Below w.heap.size w w' := by
  unfold maxLen at hs ht
  obtain ⟨a, rfl⟩ : ∃ l : List UInt8, s = ⟨l.toArray⟩ := ⟨s.data.toList, rfl⟩
  obtain ⟨b, rfl⟩ : ∃ l : List UInt8, t = ⟨l.toArray⟩ := ⟨t.data.toList, rfl⟩
  have hs' : a.length ≤ 9223372036854775807 := hs
  have ht' : b.length ≤ 9223372036854775807 := ht
  clear hs ht
  by_cases h : 1048576 < a.length ∨ 1048576 < b.length
  · by_cases h1 : 1048576 < a.length
    · go_enter Try.func9, Try.ntmps9
      go_wp2_with (fail)
      go_ret
      exact ⟨rfl, Below.refl _ _⟩
    · have h2 : 1048576 < b.length := by omega
      go_enter Try.func9, Try.ntmps9
      go_wp2_with (fail)
      go_ret
      exact ⟨rfl, Below.refl _ _⟩
  · have ha : a.length ≤ 1099511627776 := by omega
    have hb : b.length ≤ 1099511627776 := by omega
    have h1 : ¬ 1048576 < a.length := by omega
    have h2 : ¬ 1048576 < b.length := by omega
    clear h
    go_enter Try.func9, Try.ntmps9
    go_wp2_with (first
      | (go_at_call 30; refine (applyDelta_spec _ _ _ ha hb).mono ?_; rintro e w1 ⟨rfl, hb1⟩; unfold retUnZ)
      | (go_at_call 13; refine (applyDelta_impl _ _ _ ha hb).mono ?_; rintro e w2 ⟨rfl, hb2⟩; unfold retUnZ))
    go_ret
    exact ⟨rfl, hb1.trans (hb2.mono hb1.size)⟩
end Go.Proofs.Ytalfmeedffbllaa
