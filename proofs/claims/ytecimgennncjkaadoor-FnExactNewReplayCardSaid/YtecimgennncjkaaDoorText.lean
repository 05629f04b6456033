/-
  Contracts of PackText and UnpackText, and the laws on them. Strings of at most 2^46 bytes.
-/
import Derived.Test.YtecimgennncjkaaDoorVarD
namespace Go.Proofs.YtecimgennncjkaaDoor
open Go.RowKit
set_option linter.all false

theorem decR_facts : ∀ (f i n : Nat) (l : List UInt8) (a b : Nat), f + i ≤ 6 → decR f i n l = some (a, b) → i + 1 ≤ b ∧ b ≤ 6 ∧ b ≤ i + l.length ∧ a ≤ 1099511627775
  | 0, _, _, _, _, _, _, h => by simp [decR] at h
  | f + 1, i, n, [], a, b, _, h => by simp [decR] at h
  | f + 1, i, n, c :: l, a, b, hf, h => by
    rw [decR] at h
    split at h
    · have := decR_facts f (i + 1) _ l a b (by omega) h
      simp only [List.length_cons]; omega
    · split at h
      · cases h
      · rename_i h2
        simp only [Option.some.injEq, Prod.mk.injEq] at h
        simp only [List.length_cons]; omega
theorem decAt_facts {l : List UInt8} {p : Int} {n m : Nat} (h : decAt l p = some (n, m)) : 0 ≤ p ∧ 1 ≤ m ∧ m ≤ 6 ∧ p.toNat + m ≤ l.length ∧ n ≤ 1099511627775 := by
  unfold decAt at h
  split at h
  · cases h
  · have := decR_facts 6 0 0 _ n m (by omega) h
    have hl := List.length_drop (i := p.toNat) (l := l)
    omega
theorem retDec_none : retDec none = .tuple #[.int .i64 0, .int .i64 0, .bool false] := rfl
/-- What PackText returns. -/
def packT (l : List UInt8) : List UInt8 := encI (l.length : Int) ++ l
theorem packText_impl (l : List UInt8) (w : World) (hs : l.length ≤ 70368744177664) :
    Calls Tryd.prog 36 #[.string ⟨l.toArray⟩] w fun e w' => e = .returned (.string ⟨(packT l).toArray⟩) ∧ Below w.heap.size w w' := by
  have he : (encI (l.length : Int)).length ≤ 6 := by
    unfold encI; split
    · simp
    · exact encV_len6 (by omega)
  go_enter Tryd.func36, Tryd.ntmps36
  go_wp2_with (go_at_call 78; refine (encodeVarint_impl _ _).mono ?_; rintro e w1 ⟨rfl, hb1⟩)
  go_ret
  exact ⟨by rw [ByteArray.mk_append_mk]; rfl, hb1⟩
theorem packText_spec (l : List UInt8) (w : World) (hs : l.length ≤ 70368744177664) :
    Calls Tryd.prog 63 #[.string ⟨l.toArray⟩] w fun e w' => e = .returned (.string ⟨(packT l).toArray⟩) ∧ Below w.heap.size w w' := by
  have he : (encI (l.length : Int)).length ≤ 6 := by
    unfold encI; split
    · simp
    · exact encV_len6 (by omega)
  go_enter Tryd.func63, Tryd.ntmps63
  go_wp2_with (go_at_call 100; refine (encodeVarint_spec _ _).mono ?_; rintro e w1 ⟨rfl, hb1⟩)
  go_ret
  exact ⟨by rw [ByteArray.mk_append_mk]; rfl, hb1⟩
/-- What UnpackText returns. -/
def unpT (l : List UInt8) (p : Int) : Option (List UInt8 × Nat) :=
  match decAt l p with
  | none => none
  | some (n, m) => if l.length < p.toNat + m + n then none else some ((l.drop (p.toNat + m)).take n, m + n)
def retUnpT (o : Option (List UInt8 × Nat)) : Value := .tuple #[.string ⟨((o.getD ([], 0)).1).toArray⟩, .int .i64 ((o.getD ([], 0)).2 : Nat), .bool o.isSome]
theorem retUnpT_some (a : List UInt8) (b : Nat) : retUnpT (some (a, b)) = .tuple #[.string ⟨a.toArray⟩, .int .i64 (b : Int), .bool true] := rfl
theorem unpT_no {l : List UInt8} {p : Int} (h : decAt l p = none) : unpT l p = none := by unfold unpT; rw [h]
theorem unpT_far {l : List UInt8} {p : Int} {n m : Nat} (h : decAt l p = some (n, m)) (h2 : l.length < p.toNat + m + n) : unpT l p = none := by unfold unpT; rw [h]; simp only; rw [if_pos h2]
theorem unpT_yes {l : List UInt8} {p : Int} {n m : Nat} (h : decAt l p = some (n, m)) (h2 : ¬ l.length < p.toNat + m + n) : unpT l p = some ((l.drop (p.toNat + m)).take n, m + n) := by unfold unpT; rw [h]; simp only; rw [if_neg h2]
set_option maxHeartbeats 400000 in
theorem unpackText_impl (l : List UInt8) (p : Int) (w : World) (hs : l.length ≤ 70368744177664) :
    Calls Tryd.prog 84 #[.string ⟨l.toArray⟩, .int .i64 p] w fun e w' => e = .returned (retUnpT (unpT l p)) ∧ w = w' := by
  cases hd : decAt l p with
  | none =>
    have HF := Lib.hid (unpT_no hd)
    have HD := Lib.hid hd; clear hd
    go_enter Tryd.func84, Tryd.ntmps84
    go_wp2_with (go_at_call 111; refine (decodeVarint_impl _ _ _ hs).mono ?_; rintro e w1 ⟨rfl, rfl⟩; rw [HD.out, retDec_none])
    go_ret3
    exact ⟨by rw [HF.out]; rfl, rfl⟩
  | some x =>
    obtain ⟨n, m⟩ := x
    obtain ⟨hp, hm1, hm6, hpm, hn⟩ := decAt_facts hd
    obtain ⟨q, rfl⟩ := Int.eq_ofNat_of_zero_le hp
    rw [Int.toNat_natCast] at hpm
    by_cases hfar : l.length < q + m + n
    · have HF := Lib.hid (unpT_far hd (by rw [Int.toNat_natCast]; exact hfar))
      have HD := Lib.hid hd; clear hd
      have b1 : decide ((l.length : Int) - q - m < n) = true := by simp; omega
      go_enter Tryd.func84, Tryd.ntmps84
      go_wp2_with (go_at_call 111; refine (decodeVarint_impl _ _ _ hs).mono ?_; rintro e w1 ⟨rfl, rfl⟩; rw [HD.out, retDec_some])
      go_ret3
      exact ⟨by rw [HF.out]; rfl, rfl⟩
    · have HF := Lib.hid (unpT_yes hd (by rw [Int.toNat_natCast]; exact hfar))
      rw [Int.toNat_natCast] at HF
      have HD := Lib.hid hd; clear hd
      have b1 : decide ((l.length : Int) - q - m < n) = false := by simp; omega
      have hx : ∀ W, (Instr.slice 9 (.string ⟨l.toArray⟩) (some (.int .i64 ((q : Int) + m))) (some (.int .i64 ((q : Int) + m + n))) none).run Tryd.prog W = .ok (.string ⟨((l.drop (q + m)).take n).toArray⟩) W := fun W => by
        rw [run_slice_string W 9 _ .i64 .i64 _ _ Tryd.underlying9 (by omega) (by omega) (by simp [ByteArray.size]; omega), ByteArray.extract_mk]
        rw [show ((q : Int) + (m : Int) + n).toNat - ((q : Int) + m).toNat = n by omega, show ((q : Int) + m).toNat = q + m by omega]
      have hfar' : q + m + n ≤ l.length := by omega
      go_enter Tryd.func84, Tryd.ntmps84
      go_wp2_with (go_at_call 111; refine (decodeVarint_impl _ _ _ hs).mono ?_; rintro e w1 ⟨rfl, rfl⟩; rw [HD.out, retDec_some])
      go_ret3
      exact ⟨by rw [HF.out, retUnpT_some]; rfl, rfl⟩
end Go.Proofs.YtecimgennncjkaaDoor
