/-
  EncodePacket: the contracts of the model and of the program. No condition but the lists' lengths.
-/
import Derived.Test.YtjdiflomgalpdabPkO
import Derived.Test.YtjdiflomgalpdabPackI
import Derived.Test.YtjdiflomgalpdabPkT
import Derived.Test.YtjdiflomgalpdabText
import Derived.Test.YtjdiflomgalpdabSealB
import Derived.Laws.Concat
import Derived.Deep.RegionHeld3
namespace Go.Proofs.Ytjdiflomgalpdab
open Go.RowKit
set_option linter.all false
theorem packI_len (xs : List Int) : (packI xs).length ≤ 6 * xs.length + 6 := by
  unfold packI
  cases h : packR xs with
  | none => simp
  | some l =>
    have := packR_len xs l h
    have := encI_len (xs.length : Int)
    simp; omega
theorem packRuns_len : ∀ (n : Nat) (xs : List Int), xs.length ≤ n → (packRuns xs).length ≤ 6 * xs.length
  | _, [], _ => by simp [packRuns]
  | 0, _ :: _, h => by simp at h
  | n + 1, x :: xs, h => by
    rw [packRuns]
    have h1 := encI_six (x + 16 * ((runL x xs : Int) + 1))
    have h2 := packRuns_len n (xs.drop (runL x xs)) (by simp [List.length_drop] at h ⊢; omega)
    rw [List.length_drop] at h2
    simp at h ⊢; omega
theorem packTr_len (xs : List Int) : (packTr xs).length ≤ 6 * xs.length := by
  unfold packTr
  split
  · exact packRuns_len _ _ (Nat.le_refl _)
  · simp
theorem packT_len (l : List UInt8) : (packT l).length ≤ l.length + 6 := by
  unfold packT
  have := encI_len (l.length : Int)
  simp; omega
def Pk.head (p : Pk) : List Int := [p.fr, p.tick, p.first, p.sumTick, p.sum, p.time, p.echo]
def Pk.body (p : Pk) : List UInt8 := packI p.head ++ packI p.acks ++ packT (packTr p.ins)
/-- A packet's bytes. -/
def encP (p : Pk) : List UInt8 := if pktB p then sealL p.body else []
theorem encP_bad {p : Pk} (h : pktB p = false) : encP p = [] := by unfold encP; rw [h]; rfl
theorem encP_ok {p : Pk} (h : pktB p = true) : encP p = sealL p.body := by unfold encP; rw [h]; rfl
theorem pktB_few {p : Pk} (h : pktB p = true) : p.ins.length ≤ 40 ∧ p.acks.length ≤ 4 := by
  unfold pktB at h
  simp only [Bool.and_eq_true, decide_eq_true_eq] at h
  refine ⟨h.2.2.2.1, ?_⟩
  have := h.1
  unfold inR at this
  simp at this; omega
theorem Pk.body_len {p : Pk} (h : pktB p = true) : p.body.length ≤ 1000 := by
  obtain ⟨h1, h2⟩ := pktB_few h
  have a1 := packI_len p.head
  have a2 := packI_len p.acks
  have a3 := packT_len (packTr p.ins)
  have a4 := packTr_len p.ins
  unfold Pk.body
  simp [Pk.head] at a1 ⊢; omega
theorem RdI.fresh {W : World} {xs : List Int} {n : Nat} (C : Array Value) (t : TypeId) (hn : xs.length = n) (hC : C = (xs.map (Value.int .i64)).toArray) : RdI (W.alloc (.cells C t)) (.slice (some ⟨W.heap.size, 0, none⟩) n n) xs := by
  subst hn hC
  refine ⟨_, _, rfl, .inr ⟨_, 0, rfl, fun j hj => ?_⟩⟩
  rw [World.cell?_alloc_mark]; simp [hj]
theorem packNumbers_impl {w : World} {v : Value} {xs : List Int} (h : RdI w v xs) (hn : xs.length ≤ 1099511627776) :
    Calls Try.prog 30 #[v] w fun e w' => e = .returned (.string ⟨(packI xs).toArray⟩) ∧ Below w.heap.size w w' := by
  obtain ⟨a, cap, rfl, -⟩ := id h
  go_enter Try.func30, Try.ntmps30
  go_wp2_with (fail)
  refine (packInts_impl h hn).mono ?_
  rintro e w1 ⟨rfl, hb⟩
  go_wp2_with (fail)
  go_ret
  exact ⟨rfl, hb⟩
set_option maxRecDepth 100000 in
set_option maxHeartbeats 4000000 in
theorem encodePacket_impl {w : World} {p : Pk} {vi va : Value} (h : RdP w p vi va) (hs : p.few) (hc : CapI vi) :
    Calls Try.prog 9 #[.agg (pkC p vi va)] w fun e w' => e = .returned (.string ⟨(encP p).toArray⟩) ∧ Below w.heap.size w w' := by
  have hsn : p.sane := ⟨by have := hs.1; omega, by have := hs.2; omega⟩
  obtain ⟨ai, ci, rfl, -⟩ := id h.1
  obtain ⟨aa, ca, rfl, -⟩ := id h.2
  unfold pkC
  obtain ⟨W0, hW, hA, hB0, hS0⟩ := rows1 w #[.int .i64 p.fr, .int .i64 p.tick, .int .i64 p.first, (.slice ai p.ins.length ci), (.slice aa p.acks.length ca), .int .i64 p.sumTick, .int .i64 p.sum, .int .i64 p.time, .int .i64 p.echo] 27
  have cA := rowCells hA
  have hk := h.keep hB0
  cases hq : pktB p with
  | false =>
    have HF := Lib.hid (encP_bad hq)
    have Q := Lib.hid hq
    clear hq
    go_enter Try.func9, Try.ntmps9
    go_wp2_with (fail)
    try rw [hW]
    clear hW
    refine (packetOk_impl hk hsn).mono ?_
    rintro e w1 ⟨rfl, hb1⟩
    rw [Q.out]
    have cA1 := rowCells (keepHeap hb1 hA)
    go_wp2_with (fail)
    go_ret
    exact ⟨by rw [HF.out]; rfl, hB0.trans (hb1.mono hB0.size)⟩
  | true =>
    obtain ⟨hfi, hfa⟩ := pktB_few hq
    have n1 : (packI p.head).length ≤ 48 := by have := packI_len p.head; simp [Pk.head] at this ⊢; omega
    have n2 : (packI p.acks).length ≤ 30 := by have := packI_len p.acks; omega
    have n3 : (packTr p.ins).length ≤ 240 := by have := packTr_len p.ins; omega
    have n4 : (packT (packTr p.ins)).length ≤ 246 := by have := packT_len (packTr p.ins); omega
    have hh : encP p = sealL (packI p.head ++ packI p.acks ++ packT (packTr p.ins)) := encP_ok hq
    obtain ⟨L3, e3⟩ : ∃ l, packTr p.ins = l := ⟨_, rfl⟩
    obtain ⟨L1, e1⟩ : ∃ l, packI p.head = l := ⟨_, rfl⟩
    obtain ⟨L2, e2⟩ : ∃ l, packI p.acks = l := ⟨_, rfl⟩
    obtain ⟨L4, e4⟩ : ∃ l, packT L3 = l := ⟨_, rfl⟩
    rw [e3, e4] at n4
    rw [e3] at n3
    rw [e1] at n1
    rw [e2] at n2
    rw [e1, e2, e3, e4] at hh
    obtain ⟨L12, e5⟩ : ∃ l, L1 ++ L2 = l := ⟨_, rfl⟩
    rw [e5] at hh
    obtain ⟨L5, e6⟩ : ∃ l, L12 ++ L4 = l := ⟨_, rfl⟩
    rw [e6] at hh
    have n5 : L12.length ≤ 78 := by rw [← e5]; simp; omega
    have n6 : L5.length ≤ 324 := by rw [← e6]; simp; omega
    have hc1 : ∀ W, (Op.stringOp .add ⟨L1.toArray⟩ ⟨L2.toArray⟩).run Try.prog W = .ok (.string ⟨L12.toArray⟩) W := fun W => by rw [run_string_add_lists W _ _ (by omega) (by omega), e5]
    have hc2 : ∀ W, (Op.stringOp .add ⟨L12.toArray⟩ ⟨L4.toArray⟩).run Try.prog W = .ok (.string ⟨L5.toArray⟩) W := fun W => by rw [run_string_add_lists W _ _ (by omega) (by omega), e6]
    clear e5 e6
    have HF := Lib.hid hh
    have E1 := Lib.hid e1
    have E2 := Lib.hid e2
    have E3 := Lib.hid e3
    have E4 := Lib.hid e4
    have Q := Lib.hid hq
    clear hq hfi hfa hh e1 e2 e3 e4
    go_enter Try.func9, Try.ntmps9
    go_wp2_with (fail)
    try rw [hW]
    clear hW
    refine (packetOk_impl hk hsn).mono ?_
    rintro e w1 ⟨rfl, hb1⟩
    rw [Q.out]
    have hA1 := keepHeap hb1 hA
    have cA1 := rowCells hA1
    have hb01 := hB0.trans (hb1.mono hB0.size)
    have hr1 := h.keep hb01
    clear cA hA hb1 hk
    obtain ⟨W2, hW2, rx, hbx⟩ : ∃ W2, w1.alloc (.cells #[.int .i64 p.fr, .int .i64 p.tick, .int .i64 p.first, .int .i64 p.sumTick, .int .i64 p.sum, .int .i64 p.time, .int .i64 p.echo] 3) = W2 ∧ RdI W2 (.slice (some ⟨w1.heap.size, 0, none⟩) 7 7) p.head ∧ Below w1.heap.size w1 W2 := ⟨_, rfl, RdI.fresh _ _ rfl rfl, below1 _ _⟩
    have hbx1 := hb01.trans (hbx.mono hb01.size)
    have hAx := keepHeap hbx hA1
    go_wp2_with (fail)
    try rw [hW2]
    clear hW2
    refine (packNumbers_impl rx (by simp [Pk.head])).mono ?_
    rintro e w2 ⟨rfl, hb2⟩
    rw [E1.out]
    have hb02 := hbx1.trans (hb2.mono hbx1.size)
    have hA2 := keepHeap hb2 hAx
    have cA2 := rowCells hA2
    have hr2 := h.keep hb02
    clear cA1 hA1 hbx hbx1 hAx rx hb2 hr1
    have hs02 := hb02.size
    clear hb01
    go_wp2_with (fail)
    go_region_held3 (fun w' => ∀ j, w'.cell? ⟨w.heap.size, j, none⟩ = #[Value.int .i64 p.fr, .int .i64 p.tick, .int .i64 p.first, (.slice ai p.ins.length ci), (.slice aa p.acks.length ca), .int .i64 p.sumTick, .int .i64 p.sum, .int .i64 p.time, .int .i64 p.echo][j]?) (first | go_keep | exact cA3 | exact cA4 | exact cA5 | exact cA6)
      (first
      | (go_at_call 30; refine (packNumbers_impl (RdI.keep hr2.2 (belowDrew _ 1)) (by have := hs.2; omega)).mono ?_; rintro e w3 ⟨rfl, hb3⟩; rw [E2.out]; have hA3 := keepHeap hb3 hA2; have cA3 := rowCells hA3; have hb03 := (hb02.trans ((belowDrew w2 1).mono hs02)).trans (hb3.mono (by simp; omega)); have hr3 := h.keep hb03; have hs03 := hb03.size)
      | (go_at_call 33; refine (packTrack_impl hr3.1 hc (by have := hs.1; omega)).mono ?_; rintro e w4 ⟨rfl, hb4⟩; rw [E3.out]; have hA4 := keepHeap hb4 hA3; have cA4 := rowCells hA4; have hb04 := hb03.trans (hb4.mono hs03); have hs04 := hb04.size)
      | (go_at_call 32; refine (packText_impl L3 _ (by omega)).mono ?_; rintro e w5 ⟨rfl, hb5⟩; rw [E4.out]; have hA5 := keepHeap hb5 hA4; have cA5 := rowCells hA5; have hb05 := hb04.trans (hb5.mono hs04); have hs05 := hb05.size)
      | (go_at_call 31; refine (sealText_impl L5 _ (by omega)).mono ?_; rintro e w6 ⟨rfl, hb6⟩; have cA6 := rowCells (keepHeap hb6 hA5); have hb06 := hb05.trans (hb6.mono hs05)))
    go_wp2_with (fail)
    go_ret
    exact ⟨by rw [HF.out]; rfl, hb06⟩
set_option maxRecDepth 100000 in
set_option maxHeartbeats 4000000 in
theorem encodePacket_spec {w : World} {p : Pk} {vi va : Value} (h : RdP w p vi va) (hs : p.few) :
    Calls Try.prog 7 #[.agg (pkC p vi va)] w fun e w' => e = .returned (.string ⟨(encP p).toArray⟩) ∧ Below w.heap.size w w' := by
  have hsn : p.sane := ⟨by have := hs.1; omega, by have := hs.2; omega⟩
  obtain ⟨ai, ci, rfl, -⟩ := id h.1
  obtain ⟨aa, ca, rfl, -⟩ := id h.2
  unfold pkC
  obtain ⟨W0, hW, hA, hB0, hS0⟩ := rows1 w #[.int .i64 p.fr, .int .i64 p.tick, .int .i64 p.first, (.slice ai p.ins.length ci), (.slice aa p.acks.length ca), .int .i64 p.sumTick, .int .i64 p.sum, .int .i64 p.time, .int .i64 p.echo] 27
  have cA := rowCells hA
  have hk := h.keep hB0
  cases hq : pktB p with
  | false =>
    have HF := Lib.hid (encP_bad hq)
    have Q := Lib.hid hq
    clear hq
    go_enter Try.func7, Try.ntmps7
    go_wp2_with (fail)
    try rw [hW]
    clear hW
    refine (packetOk_spec hk hsn).mono ?_
    rintro e w1 ⟨rfl, hb1⟩
    rw [Q.out]
    have cA1 := rowCells (keepHeap hb1 hA)
    go_wp2_with (fail)
    go_ret
    exact ⟨by rw [HF.out]; rfl, hB0.trans (hb1.mono hB0.size)⟩
  | true =>
    obtain ⟨hfi, hfa⟩ := pktB_few hq
    have n1 : (packI p.head).length ≤ 48 := by have := packI_len p.head; simp [Pk.head] at this ⊢; omega
    have n2 : (packI p.acks).length ≤ 30 := by have := packI_len p.acks; omega
    have n3 : (packTr p.ins).length ≤ 240 := by have := packTr_len p.ins; omega
    have n4 : (packT (packTr p.ins)).length ≤ 246 := by have := packT_len (packTr p.ins); omega
    have hh : encP p = sealL (packI p.head ++ packI p.acks ++ packT (packTr p.ins)) := encP_ok hq
    obtain ⟨L3, e3⟩ : ∃ l, packTr p.ins = l := ⟨_, rfl⟩
    obtain ⟨L1, e1⟩ : ∃ l, packI p.head = l := ⟨_, rfl⟩
    obtain ⟨L2, e2⟩ : ∃ l, packI p.acks = l := ⟨_, rfl⟩
    obtain ⟨L4, e4⟩ : ∃ l, packT L3 = l := ⟨_, rfl⟩
    rw [e3, e4] at n4
    rw [e3] at n3
    rw [e1] at n1
    rw [e2] at n2
    rw [e1, e2, e3, e4] at hh
    obtain ⟨L12, e5⟩ : ∃ l, L1 ++ L2 = l := ⟨_, rfl⟩
    rw [e5] at hh
    obtain ⟨L5, e6⟩ : ∃ l, L12 ++ L4 = l := ⟨_, rfl⟩
    rw [e6] at hh
    have n5 : L12.length ≤ 78 := by rw [← e5]; simp; omega
    have n6 : L5.length ≤ 324 := by rw [← e6]; simp; omega
    have hc1 : ∀ W, (Op.stringOp .add ⟨L1.toArray⟩ ⟨L2.toArray⟩).run Try.prog W = .ok (.string ⟨L12.toArray⟩) W := fun W => by rw [run_string_add_lists W _ _ (by omega) (by omega), e5]
    have hc2 : ∀ W, (Op.stringOp .add ⟨L12.toArray⟩ ⟨L4.toArray⟩).run Try.prog W = .ok (.string ⟨L5.toArray⟩) W := fun W => by rw [run_string_add_lists W _ _ (by omega) (by omega), e6]
    clear e5 e6
    have HF := Lib.hid hh
    have E1 := Lib.hid e1
    have E2 := Lib.hid e2
    have E3 := Lib.hid e3
    have E4 := Lib.hid e4
    have Q := Lib.hid hq
    clear hq hfi hfa hh e1 e2 e3 e4
    go_enter Try.func7, Try.ntmps7
    go_wp2_with (fail)
    try rw [hW]
    clear hW
    refine (packetOk_spec hk hsn).mono ?_
    rintro e w1 ⟨rfl, hb1⟩
    rw [Q.out]
    have hA1 := keepHeap hb1 hA
    have cA1 := rowCells hA1
    have hb01 := hB0.trans (hb1.mono hB0.size)
    have hr1 := h.keep hb01
    clear cA hA hb1 hk
    have hs01 := hb01.size
    have hbx := below1 w1 (.cells #[.int .i64 p.fr, .int .i64 p.tick, .int .i64 p.first, .int .i64 p.sumTick, .int .i64 p.sum, .int .i64 p.time, .int .i64 p.echo] 3)
    have rx0 : RdI (w1.alloc (.cells #[.int .i64 p.fr, .int .i64 p.tick, .int .i64 p.first, .int .i64 p.sumTick, .int .i64 p.sum, .int .i64 p.time, .int .i64 p.echo] 3)) (.slice (some ⟨w1.heap.size, 0, none⟩) 7 7) p.head := RdI.fresh _ _ rfl rfl
    have rx := rx0.keep (belowDrew _ 1)
    have hAx := keepHeap (belowDrew _ 1) (keepHeap hbx hA1)
    have cAx : ∀ j : Nat, ((w1.alloc (.cells #[.int .i64 p.fr, .int .i64 p.tick, .int .i64 p.first, .int .i64 p.sumTick, .int .i64 p.sum, .int .i64 p.time, .int .i64 p.echo] 3)).drew).cell? ⟨w.heap.size, j, none⟩ = #[Value.int .i64 p.fr, .int .i64 p.tick, .int .i64 p.first, (.slice ai p.ins.length ci), (.slice aa p.acks.length ca), .int .i64 p.sumTick, .int .i64 p.sum, .int .i64 p.time, .int .i64 p.echo][j]? := rowCells hAx
    have hb01x := (hb01.trans (hbx.mono hs01)).trans ((belowDrew _ 1).mono (Nat.le_trans hs01 hbx.size))
    have hsx := hb01x.size
    go_wp2_with (fail)
    go_region_held3 (fun w' => ∀ j, w'.cell? ⟨w.heap.size, j, none⟩ = #[Value.int .i64 p.fr, .int .i64 p.tick, .int .i64 p.first, (.slice ai p.ins.length ci), (.slice aa p.acks.length ca), .int .i64 p.sumTick, .int .i64 p.sum, .int .i64 p.time, .int .i64 p.echo][j]?) (first | go_keep | exact cAx | exact cA2 | exact cA3 | exact cA4 | exact cA5)
      (first
      | (go_at_call_of 24 (Value.slice aa p.acks.length ca); refine (packInts_spec hr2.2 (by have := hs.2; omega)).mono ?_; rintro e w3 ⟨rfl, hb3⟩; rw [E2.out]; have hA3 := keepHeap hb3 hA2; have cA3 := rowCells hA3; have hb03 := hb02.trans (hb3.mono hs02); have hr3 := h.keep hb03; have hs03 := hb03.size)
      | (go_at_call 24; refine (packInts_spec rx (by simp [Pk.head])).mono ?_; rintro e w2 ⟨rfl, hb2⟩; rw [E1.out]; have hA2 := keepHeap hb2 hAx; have cA2 := rowCells hA2; have hb02 := hb01x.trans (hb2.mono hsx); have hr2 := h.keep hb02; have hs02 := hb02.size)
      | (go_at_call 26; refine (packTrack_spec hr3.1 (by have := hs.1; omega)).mono ?_; rintro e w4 ⟨rfl, hb4⟩; rw [E3.out]; have hA4 := keepHeap hb4 hA3; have cA4 := rowCells hA4; have hb04 := hb03.trans (hb4.mono hs03); have hs04 := hb04.size)
      | (go_at_call 25; refine (packText_spec L3 _ (by omega)).mono ?_; rintro e w5 ⟨rfl, hb5⟩; rw [E4.out]; have cA5 := rowCells (keepHeap hb5 hA4); have hb05 := hb04.trans (hb5.mono hs04); have hs05 := hb05.size))
    go_wp2_with (fail)
    refine (sealText_spec L5 _ (by omega)).mono ?_
    rintro e w6 ⟨rfl, hb6⟩
    go_wp2_with (fail)
    go_ret
    exact ⟨by rw [HF.out]; rfl, hb05.trans (hb6.mono hs05)⟩
end Go.Proofs.Ytjdiflomgalpdab
