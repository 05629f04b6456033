/-
  FormatAlarm of the program and of the model. Parts whose bytes are at most 2^20 in all; strconv's table as it stands.
-/
import Derived.Test.YtikaiimafliceaaDoorAla
import Derived.Test.YtikaiimafliceaaDoorAlaP
import Derived.Test.YtikaiimafliceaaDoorFmt
import Derived.Test.YtikaiimafliceaaDoorLaidT
import Derived.Test.YtikaiimafliceaaDoorShelf
import Derived.Deep.RegionWith
namespace Go.Proofs.YtikaiimafliceaaDoor
open Go.RowKit
set_option linter.all false
/-- The text of an alarm. -/
def fmtA (t : Int) (L : List (List UInt8)) : List UInt8 := Lib.itoa t ++ [58] ++ jnA L
theorem jnA_len : ∀ (L : List (List UInt8)), (jnA L).length ≤ totalS L + L.length
  | [] => by simp [jnA]
  | [x] => by simp [jnA, totalS]
  | x :: y :: r => by
    have := jnA_len (y :: r)
    rw [jnA]
    simp only [totalS, List.map_cons, List.sum_cons, List.length_append, List.length_cons, List.length_nil] at this ⊢
    omega
theorem totalS_take (L : List (List UInt8)) (k : Nat) : totalS (L.take k) ≤ totalS L := by
  have : totalS L = totalS (L.take k) + totalS (L.drop k) := by
    unfold totalS; rw [← List.sum_append, ← List.map_append, List.take_append_drop]
  omega
theorem totalS_mem {L : List (List UInt8)} {x : List UInt8} (h : x ∈ L) : x.length ≤ totalS L := by
  unfold totalS
  induction L with
  | nil => cases h
  | cons a L ih =>
    simp only [List.map_cons, List.sum_cons]
    rcases List.mem_cons.1 h with rfl | h
    · omega
    · have := ih h; omega
theorem itoa_short (n : Int) (h0 : -9223372036854775808 ≤ n) (h1 : n ≤ 9223372036854775807) : (Lib.itoa n).length ≤ 21 := by
  have hd : ∀ (k m : Nat), m < 10 ^ k → (Lib.decDigits m).length ≤ k + 1 := by
    intro k
    induction k with
    | zero => intro m hm; obtain rfl : m = 0 := by omega
              rw [Lib.decDigits]; simp
    | succ k ih =>
      intro m hm
      by_cases h10 : m < 10
      · rw [Lib.decDigits, dif_pos h10]; simp
      · rw [dec_big h10, List.length_append, List.length_singleton]
        have := ih (m / 10) (by rw [Nat.pow_succ] at hm; omega)
        omega
  rcases Int.lt_trichotomy n 0 with hn | hn | hn
  · obtain ⟨N, rfl⟩ : ∃ N : Nat, n = -(N : Int) := ⟨n.natAbs, by omega⟩
    rw [Lib.itoa_neg N (by omega)]
    have := hd 19 N (by omega)
    simp; omega
  · subst hn
    show (Lib.itoa ((0 : Nat) : Int)).length ≤ 21
    have := hd 19 0 (by omega)
    rw [show Lib.itoa ((0 : Nat) : Int) = Lib.decDigits 0 from rfl]; omega
  · obtain ⟨N, rfl⟩ := Int.eq_ofNat_of_zero_le (Int.le_of_lt hn)
    have := hd 19 N (by omega)
    rw [show Lib.itoa (N : Int) = Lib.decDigits N from rfl]; omega
set_option maxHeartbeats 4000000 in
theorem formatAlarm_impl {w : World} {t : Int} {v : Value} {L : List (List UInt8)} (h : RdS w v L) (hn : L.length ≤ 1048576) (hT : totalS L ≤ 1048576) (hcp : CapOk v) (h0 : -9223372036854775808 ≤ t) (h1 : t ≤ 9223372036854775807) (ht : Tab w) :
    Calls Tryd.prog 9 #[.agg (alC t v)] w fun e w' => e = .returned (.string ⟨(fmtA t L).toArray⟩) ∧ Below w.heap.size w w' := by
  obtain ⟨a, cap, rfl, h00⟩ := id h
  unfold alC
  obtain ⟨W1, hW, hA1, hb1⟩ : ∃ W1, w.alloc (.cells #[.int .i64 t, .slice a L.length cap] 27) = W1 ∧ W1.heap[w.heap.size]? = some (.cells #[.int .i64 t, .slice a L.length cap] 27 (0, 0)) ∧ Below w.heap.size w W1 := ⟨_, rfl, heap_alloc_new w _, below1 _ _⟩
  have cA1 := rowCells hA1
  have hs1 := hb1.size
  have hjl := jnA_len L
  have hil := itoa_short t h0 h1
  have hF := fun {W : World} (hb : Below w.heap.size w W) => formatInt_impl t W h0 h1 (ht.below hb)
  have hJ2 : ∀ W, Below w.heap.size w W → Calls Tryd.prog 22 #[.slice a L.length cap, .string ⟨#[44]⟩] W fun e w' => e = .returned (.string ⟨(jnA L).toArray⟩) ∧ Below W.heap.size W w' := by
    intro W hb
    by_cases hx : L = []
    · subst hx
      refine (Tryd.strings_Join_none a cap ⟨#[44]⟩ W).mono ?_
      rintro e w' ⟨rfl, rfl⟩
      exact ⟨rfl, Below.refl _ _⟩
    · obtain ⟨b, off, rfl, hc⟩ := h00.resolve_left hx
      have hlt : b < w.heap.size := World.block_lt_of_cell? w _ (hc 0 (List.length_pos_iff.2 hx))
      have e1 : (L.map fun l => (⟨l.toArray⟩ : ByteArray)).length = L.length := by simp
      have e2 : (L.map fun l => (⟨l.toArray⟩ : ByteArray)).map (·.data.toList) = L := by simp [List.map_map, Function.comp_def]
      have hcap : L.length ≤ cap := by
        obtain ⟨a1, n1, c1, e, h1⟩ := hcp
        simp only [Value.slice.injEq] at e
        omega
      have hJ := Tryd.strings_Join b off cap (L.map fun l => (⟨l.toArray⟩ : ByteArray)) ⟨#[44]⟩ W (fun j x hx => by
        rw [List.getElem?_map] at hx
        obtain ⟨l, hl1, rfl⟩ := Option.map_eq_some_iff.1 hx
        obtain ⟨hj, rfl⟩ := List.getElem?_eq_some_iff.1 hl1
        exact (hb.cell (p := ⟨b, off + j, none⟩) hlt).trans (hc j hj)) (by have := hb.size; omega) (by rw [e1]; omega) (by rw [e1]; exact hcap) (by rw [e2]; show (Lib.join L [44]).length ≤ _; rw [jnA_join]; omega)
      rw [e1, e2] at hJ
      rw [← jnA_join]; exact hJ
  have HF : Hid (fmtA t L = Lib.itoa t ++ [58] ++ jnA L) := Lib.hid rfl
  generalize jnA L = J at *
  generalize Lib.itoa t = I at *
  clear h h00 hcp ht
  go_enter Tryd.func9, Tryd.ntmps9
  go_wp2_with (fail)
  try rw [hW]
  clear hW
  have hd1 := hb1.trans ((belowDrew W1 1).mono hs1)
  have cD1 : ∀ j, (W1.drewN 1).cell? ⟨w.heap.size, j, none⟩ = #[Value.int .i64 t, .slice a L.length cap][j]? := cA1
  go_region_with
    (first
      | (go_at_call 21; refine (hF hd1).mono ?_; rintro e w2 ⟨rfl, hb2⟩; have hb02 := hd1.trans (hb2.mono hd1.size); have hA2 := keepHeap hb2 (keepHeap (belowDrew W1 1) hA1); have cA2 := rowCells hA2)
      | (go_at_call 22; refine (hJ2 _ hb02).mono ?_; rintro e w3 ⟨rfl, hb3⟩; have hb03 := hb02.trans (hb3.mono hb02.size); have cA3 := rowCells (keepHeap hb3 hA2)))
  all_goals
    go_wp2_with (fail)
    go_ret
    refine ⟨?_, hb03⟩
    show Ending.returned (Value.string (ByteArray.mk I.toArray ++ ByteArray.mk #[58] ++ ByteArray.mk J.toArray)) = _
    rw [HF.out, show ByteArray.mk #[58] = ByteArray.mk [58].toArray from rfl, ByteArray.mk_append_mk, ByteArray.mk_append_mk]
set_option maxHeartbeats 4000000 in
theorem formatAlarm_spec {w : World} {t : Int} {v : Value} {L : List (List UInt8)} (h : RdS w v L) (hn : L.length ≤ 1048576) (hT : totalS L ≤ 1048576) (h0 : -9223372036854775808 ≤ t) (h1 : t ≤ 9223372036854775807) :
    Calls Tryd.prog 12 #[.agg (alC t v)] w fun e w' => e = .returned (.string ⟨(fmtA t L).toArray⟩) ∧ Below w.heap.size w w' := by
  obtain ⟨a, cap, rfl, h00⟩ := id h
  unfold alC
  obtain ⟨W1, hW, hA1, hb1⟩ : ∃ W1, w.alloc (.cells #[.int .i64 t, .slice a L.length cap] 27) = W1 ∧ W1.heap[w.heap.size]? = some (.cells #[.int .i64 t, .slice a L.length cap] 27 (0, 0)) ∧ Below w.heap.size w W1 := ⟨_, rfl, heap_alloc_new w _, below1 _ _⟩
  have cA1 := rowCells hA1
  have hs1 := hb1.size
  have hlc : (L.length : Int) ≤ 1048576 := by omega
  have hil := itoa_short t h0 h1
  have hF := fun W => formatInt_spec t W h0 h1
  have HF : Hid (fmtA t L = Lib.itoa t ++ [58] ++ jnA L) := Lib.hid rfl
  generalize Lib.itoa t = I at *
  obtain ⟨P, hP⟩ : ∃ P, P = I ++ [58] := ⟨_, rfl⟩
  have hPl : P.length ≤ 22 := by rw [hP]; simp; omega
  rw [← hP] at HF
  have HP := Lib.hid hP
  clear hP
  go_enter Tryd.func12, Tryd.ntmps12
  go_wp2_with (fail)
  try rw [hW]
  clear hW
  refine (hF _).mono ?_
  rintro e w2 ⟨rfl, hb2⟩
  have hb02 := hb1.trans (hb2.mono hs1)
  have hA2 := keepHeap hb2 hA1
  have cA2 := rowCells hA2
  clear cA1 hA1
  go_wp2_with (fail)
  have e0 : (ByteArray.mk I.toArray) ++ (ByteArray.mk #[58]) = ByteArray.mk P.toArray := by rw [HP.out]; simp [ByteArray.mk_append_mk]
  try rw [e0]
  go_loopw [3, 4] (fun s i wr => ∃ k : Nat, k ≤ L.length ∧ i = .int .i64 (k : Int) ∧ s = .string ⟨(P ++ jnA (L.take k)).toArray⟩ ∧ wr = w2) (fun _ i _ => L.length - (intOf i).toNat)
  case atStart => exact ⟨0, Nat.zero_le _, rfl, by simp [jnA]; try exact e0, by first | rfl | trivial⟩
  case round =>
    obtain ⟨k, hk, rfl, rfl, rfl⟩ := hrel
    by_cases hkl : k < L.length
    · have hkk : (k : Int) < (L.length : Int) := by omega
      obtain ⟨b, off, rfl, hc⟩ := h00.resolve_left (by intro e; rw [e] at hkl; simp at hkl)
      have hlt : b < w.heap.size := World.block_lt_of_cell? w _ (hc 0 (by omega))
      have cr := (hb02.cell (p := ⟨b, off + k, none⟩) hlt).trans (hc k hkl)
      have hjl := jnA_len (L.take k)
      have htk := totalS_take L k
      have hml := totalS_mem (List.getElem_mem hkl)
      rw [List.length_take, show min k L.length = k by omega] at hjl
      have hjs : k ≠ 0 → jnA (L.take (k + 1)) = jnA (L.take k) ++ [44] ++ L[k] := fun hk0 => by
        rw [List.take_succ_eq_append_getElem hkl, jnA_snoc _ _ (by intro e; have h1 := congrArg List.length e; rw [List.length_take] at h1; simp only [List.length_nil] at h1; omega)]
      have hj0 : k = 0 → jnA (L.take (k + 1)) = L[k] := fun hk0 => by subst hk0; rw [List.take_succ_eq_append_getElem hkl]; rfl
      obtain ⟨row, hrow⟩ : ∃ x, x = L[k] := ⟨_, rfl⟩
      rw [← hrow] at cr hml hjs hj0
      clear hrow
      by_cases hk0 : k = 0
      · have HJ := Lib.hid (show P ++ jnA (L.take (k + 1)) = (P ++ jnA (L.take k)) ++ row by rw [hj0 hk0, hk0]; simp [jnA])
        have zk : decide (0 < (k : Int)) = false := by simp [hk0]
        have zk0 : ¬ 0 < k := by omega
        have hsl : (P ++ jnA (L.take k)).length ≤ 3000000 := by rw [List.length_append]; omega
        clear hjs hj0 hk0 hjl
        generalize P ++ jnA (L.take k) = s at *
        go_wp2_with (fail)
        go_roundw
        case rel => exact ⟨k + 1, by omega, by go_num, by rw [HJ.out, ByteArray.mk_append_mk], by first | rfl | trivial⟩
        case measure => simp [intOf]; omega
      · have HJ := Lib.hid (show P ++ jnA (L.take (k + 1)) = (P ++ jnA (L.take k)) ++ [44] ++ row by rw [hjs hk0]; simp)
        have zk : decide (0 < (k : Int)) = true := by simp; omega
        have hkp : 0 < k := by omega
        have hsl : (P ++ jnA (L.take k)).length ≤ 3000000 := by rw [List.length_append]; omega
        clear hjs hj0 hk0 hjl
        generalize P ++ jnA (L.take k) = s at *
        go_wp2_with (fail)
        go_roundw
        case rel => exact ⟨k + 1, by omega, by go_num, by rw [HJ.out, ByteArray.mk_append_mk, ByteArray.mk_append_mk], by first | rfl | trivial⟩
        case measure => simp [intOf]; omega
    · have e : k = L.length := by omega
      subst e
      rw [List.take_of_length_le (Nat.le_refl _)]
      go_wp2_with (fail)
      go_ret
      exact ⟨by rw [HF.out]; rfl, hb02⟩
end Go.Proofs.YtikaiimafliceaaDoor
