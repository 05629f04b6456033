/-
  Contracts of PackInts, and the law on it. Lists of at most 2^40 numbers.
-/
import Derived.Test.YtecimgennncjkaaDoorVarE
import Derived.Test.YtecimgennncjkaaDoorBld
import Derived.Test.YtecimgennncjkaaDoorLst
namespace Go.Proofs.YtecimgennncjkaaDoor
open Go.RowKit
set_option linter.all false

/-- The numbers of a list, one after the other; none if one is out of range. -/
def packR : List Int → Option (List UInt8)
  | [] => some []
  | x :: xs => if signlessI x < 0 then none else (packR xs).map (encI (signlessI x) ++ ·)
def packI (xs : List Int) : List UInt8 := match packR xs with | none => [] | some l => encI (xs.length : Int) ++ l
theorem encI_len (n : Int) : (encI n).length ≤ 6 := by
  unfold encI; split
  · simp
  · exact encV_len6 (by omega)
theorem packI_none {xs : List Int} (h : packR xs = none) : packI xs = [] := by unfold packI; rw [h]
theorem packI_some {xs : List Int} {l : List UInt8} (h : packR xs = some l) : packI xs = encI (xs.length : Int) ++ l := by unfold packI; rw [h]
theorem packR_len : ∀ (xs : List Int) (l : List UInt8), packR xs = some l → l.length ≤ 6 * xs.length
  | [], l, h => by simp [packR] at h; subst h; simp
  | x :: xs, l, h => by
    rw [packR] at h
    split at h
    · cases h
    · cases hp : packR xs with
      | none => rw [hp] at h; simp at h
      | some r =>
        rw [hp] at h; simp at h; subst h
        have := packR_len xs r hp
        have := encI_len (signlessI x)
        simp; omega
/-- What k numbers have left: the bytes so far, and the rest. -/
def PackAt (xs : List Int) (k : Nat) (pre : List UInt8) : Prop := packR xs = (packR (xs.drop k)).map (pre ++ ·) ∧ pre.length ≤ 6 * k
theorem PackAt.zero (xs : List Int) : PackAt xs 0 [] := ⟨by simp, by simp⟩
theorem PackAt.bad {xs : List Int} {k : Nat} {pre : List UInt8} (h : PackAt xs k pre) (hk : k < xs.length) (hs : signlessI xs[k] < 0) : packI xs = [] := by
  apply packI_none
  rw [h.1, List.drop_eq_getElem_cons hk, packR, if_pos hs]; rfl
theorem PackAt.next {xs : List Int} {k : Nat} {pre : List UInt8} (h : PackAt xs k pre) (hk : k < xs.length) (hs : ¬ signlessI xs[k] < 0) : PackAt xs (k + 1) (pre ++ encI (signlessI xs[k])) := by
  refine ⟨?_, ?_⟩
  · rw [h.1, List.drop_eq_getElem_cons hk, packR, if_neg hs]
    cases packR (List.drop (k + 1) xs) <;> simp
  · have := encI_len (signlessI xs[k])
    have := h.2
    simp; omega
theorem PackAt.done {xs : List Int} {k : Nat} {pre : List UInt8} (h : PackAt xs k pre) (hk : xs.length ≤ k) : packI xs = encI (xs.length : Int) ++ pre := by
  apply packI_some
  rw [h.1, List.drop_eq_nil_of_le hk]; simp [packR]
theorem signlessI_bd (n : Int) : -1 ≤ signlessI n ∧ signlessI n ≤ 1099511627775 := by unfold signlessI; split <;> (try split) <;> omega
set_option maxHeartbeats 1000000 in
theorem packInts_impl {w : World} {v : Value} {xs : List Int} (h : RdI w v xs) (hn : xs.length ≤ 1099511627776) :
    Calls Tryd.prog 76 #[v] w fun e w' => e = .returned (.string ⟨(packI xs).toArray⟩) ∧ Below w.heap.size w w' := by
  obtain ⟨a, cap, rfl, h⟩ := h
  by_cases hx : xs = []
  · subst hx
    have HF := Lib.hid (packI_some (xs := []) rfl)
    clear h
    have he := encI_len 0
    go_enter Tryd.func76, Tryd.ntmps76
    go_wp2_with (go_at_call 78; refine (encodeVarint_impl _ _).mono ?_)
    rintro e w1 ⟨rfl, hb1⟩
    have hbld1 : Bld w1 w.heap.size w.heap.size [] := (Bld.fresh w).keep (by simpa using hb1)
    have hs1 : w.heap.size + 1 ≤ w1.heap.size := by have := hb1.size; simpa using this
    go_wp2_with (go_at_call 69; refine (bld_write hbld1 _ (by simp; omega) (by omega)).mono ?_)
    rintro e w2 ⟨rfl, hbld2, hb2, hk2⟩
    have hs2 := hb2.size
    go_wp2_with (fail)
    refine wp_loop_once ?_
    go_wp2_with (go_at_call 72; refine (bld_string hbld2 (by omega)).mono ?_; rintro e w3 ⟨rfl, hbld3, hb3, hk3⟩)
    go_ret
    exact ⟨by rw [HF.out, List.append_nil]; rfl, (((Below.refl _ _).alloc (Nat.le_refl _) _).trans (hb1.mono (by simp))).trans (hb2.trans hb3)⟩
  · obtain ⟨b, off, rfl, hc⟩ := h.resolve_left hx
    have hpos : 0 < xs.length := List.length_pos_iff.2 hx
    have hlt := World.block_lt_of_cell? w _ (hc 0 hpos)
    have he := encI_len (xs.length : Int)
    clear h hx
    go_enter Tryd.func76, Tryd.ntmps76
    go_wp2_with (go_at_call 78; refine (encodeVarint_impl _ _).mono ?_)
    rintro e w1 rfl hb1
    have hbld1 : Bld w1 w.heap.size w.heap.size [] := (Bld.fresh w).keep (by simpa using hb1)
    have hs1 : w.heap.size + 1 ≤ w1.heap.size := by have := hb1.size; simpa using this
    go_wp2_with (go_at_call 69; refine (bld_write hbld1 _ (by simp; omega) (by omega)).mono ?_)
    rintro e w2 ⟨rfl, hbld2, hb2, hk2⟩
    have hs2 := hb2.size
    have hB : Below w.heap.size w w2 := (((Below.refl _ _).alloc (Nat.le_refl _) _).trans (hb1.mono (by omega))).trans hb2
    go_wp2_with (fail)
    go_loopw [13] (fun i wr => ∃ (k : Nat) (pre : List UInt8), k ≤ xs.length ∧ i = .int .i64 k ∧ PackAt xs k pre ∧ Bld wr w.heap.size w.heap.size (encI (xs.length : Int) ++ pre) ∧ Below w.heap.size w wr ∧ w.heap.size < wr.heap.size) (fun i _ => xs.length - (intOf i).toNat)
    case atStart => exact ⟨0, [], Nat.zero_le _, rfl, PackAt.zero xs, by simpa using hbld2, hB, by omega⟩
    case round =>
      obtain ⟨k, pre, hk, rfl, hpk, hbl, hbel, hsz⟩ := hrel
      have hpl := hpk.2
      by_cases hkl : k < xs.length
      · obtain ⟨x, hxk⟩ : ∃ x, x = xs[k] := ⟨_, rfl⟩
        have c1 : wr.cell? ⟨b, off + k, none⟩ = some (.int .i64 x) := by rw [hxk]; exact (hbel.cell hlt).trans (hc k hkl)
        have hsb := (signlessI_bd x).1
        have hsb2 := (signlessI_bd x).2
        by_cases hneg : signlessI x < 0
        · have HF := Lib.hid (hpk.bad hkl (by rw [← hxk]; exact hneg))
          clear hpk hxk
          go_wp2_with (go_at_call 109; refine (signless_impl _ _).mono ?_; rintro e w' ⟨rfl, rfl⟩)
          go_ret
          exact ⟨by rw [HF.out]; rfl, hbel⟩
        · have HN := Lib.hid (hpk.next hkl (by rw [← hxk]; exact hneg))
          rw [← hxk] at HN
          have hel := encI_len (signlessI x)
          clear hpk hxk
          go_wp2_with (first
            | (go_at_call 109; refine (signless_impl _ _).mono ?_; rintro e w' ⟨rfl, rfl⟩)
            | (go_at_call 78; refine (encodeVarint_impl _ _).mono ?_; rintro e w3 ⟨rfl, hb3⟩; have hbl3 := hbl.keep hb3; have hs3 := hb3.size)
            | (go_at_call 69; refine (bld_write hbl3 _ (by simp; omega) (by omega)).mono ?_; rintro e w4 ⟨rfl, hbl4, hb4, hk4⟩; have hs4 := hb4.size))
          go_roundw
          case rel => exact ⟨k + 1, _, by omega, by go_num, HN.out, by rw [← List.append_assoc]; exact hbl4, (hbel.trans (hb3.mono (by omega))).trans hb4, by omega⟩
          case measure => simp [intOf]; omega
      · have HF := Lib.hid (hpk.done (by omega))
        clear hpk
        go_wp2_with (go_at_call 72; refine (bld_string hbl (by omega)).mono ?_; rintro e w3 ⟨rfl, hbld3, hb3, hk3⟩)
        go_ret
        exact ⟨by rw [HF.out]; rfl, hbel.trans hb3⟩
set_option maxHeartbeats 1000000 in
theorem packInts_spec {w : World} {v : Value} {xs : List Int} (h : RdI w v xs) (hn : xs.length ≤ 1099511627776) :
    Calls Tryd.prog 65 #[v] w fun e w' => e = .returned (.string ⟨(packI xs).toArray⟩) ∧ Below w.heap.size w w' := by
  obtain ⟨a, cap, rfl, h⟩ := h
  by_cases hx : xs = []
  · subst hx
    have HF := Lib.hid (packI_some (xs := []) rfl)
    clear h
    go_enter Tryd.func65, Tryd.ntmps65
    go_wp2_with (go_at_call 100; refine (encodeVarint_spec _ _).mono ?_; rintro e w1 ⟨rfl, hb1⟩)
    refine wp_loop_once ?_
    go_wp2_with (fail)
    go_ret
    exact ⟨by rw [HF.out, List.append_nil]; rfl, hb1⟩
  · obtain ⟨b, off, rfl, hc⟩ := h.resolve_left hx
    have hpos : 0 < xs.length := List.length_pos_iff.2 hx
    have hlt := World.block_lt_of_cell? w _ (hc 0 hpos)
    have he := encI_len (xs.length : Int)
    clear h hx
    go_enter Tryd.func65, Tryd.ntmps65
    go_wp2_with (go_at_call 100; refine (encodeVarint_spec _ _).mono ?_; rintro e w1 ⟨rfl, hb1⟩)
    go_loopw [3, 4] (fun s i wr => ∃ (k : Nat) (pre : List UInt8), k ≤ xs.length ∧ i = .int .i64 k ∧ PackAt xs k pre ∧ s = .string ⟨(encI (xs.length : Int) ++ pre).toArray⟩ ∧ Below w.heap.size w wr) (fun _ i _ => xs.length - (intOf i).toNat)
    case atStart => exact ⟨0, [], Nat.zero_le _, rfl, PackAt.zero xs, by simp, hb1⟩
    case round =>
      obtain ⟨k, pre, hk, rfl, hpk, rfl, hbel⟩ := hrel
      have hpl := hpk.2
      by_cases hkl : k < xs.length
      · obtain ⟨x, hxk⟩ : ∃ x, x = xs[k] := ⟨_, rfl⟩
        have c1 : wr.cell? ⟨b, off + k, none⟩ = some (.int .i64 x) := by rw [hxk]; exact (hbel.cell hlt).trans (hc k hkl)
        have hsb := (signlessI_bd x).1
        have hsb2 := (signlessI_bd x).2
        by_cases hneg : signlessI x < 0
        · have HF := Lib.hid (hpk.bad hkl (by rw [← hxk]; exact hneg))
          clear hpk hxk
          go_wp2_with (go_at_call 101; refine (signless_spec _ _).mono ?_; rintro e w' ⟨rfl, rfl⟩)
          go_ret
          exact ⟨by rw [HF.out]; rfl, hbel⟩
        · have HN := Lib.hid (hpk.next hkl (by rw [← hxk]; exact hneg))
          rw [← hxk] at HN
          have hel := encI_len (signlessI x)
          clear hpk hxk
          go_wp2_with (first
            | (go_at_call 101; refine (signless_spec _ _).mono ?_; rintro e w' ⟨rfl, rfl⟩)
            | (go_at_call 100; refine (encodeVarint_spec _ _).mono ?_; rintro e w3 ⟨rfl, hb3⟩))
          go_roundw
          case rel => exact ⟨k + 1, _, by omega, by go_num, HN.out, by rw [ByteArray.mk_append_mk, ← List.append_assoc], hbel.trans (hb3.mono hbel.size)⟩
          case measure => simp [intOf]; omega
      · have HF := Lib.hid (hpk.done (by omega))
        clear hpk
        go_wp2_with (fail)
        go_ret
        exact ⟨by rw [HF.out]; rfl, hbel⟩
end Go.Proofs.YtecimgennncjkaaDoor
