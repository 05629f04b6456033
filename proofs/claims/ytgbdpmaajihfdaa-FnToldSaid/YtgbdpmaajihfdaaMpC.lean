/-
  MakePacket of the program: the packet's inputs have room. Lists of at most 2^20 tracks and inputs.
-/
import Derived.Test.YtgbdpmaajihfdaaPkM
import Derived.Test.YtgbdpmaajihfdaaCln
namespace Go.Proofs.Ytgbdpmaajihfdaa
open Go.RowKit
set_option linter.all false
def RetMpC (w : World) (X : Rowi) (me ack : Int) (e : Ending) (w' : World) : Prop := ∃ vi va, e = .returned (.tuple #[.agg (pkC (mpX X me ack) vi va), .bool (mpOk X me ack)]) ∧ OwnPIn w' w.heap.size w'.heap.size (mpX X me ack) vi va ∧ CapI vi ∧ Below w.heap.size w w'
set_option maxRecDepth 100000 in
set_option maxHeartbeats 4000000 in
theorem makePacket_cap {w : World} {v : Value} {X : Rowi} (h : RdR w v X) (hc : CapR w v X) (hf : Few X) (me ack : Int) :
    Calls Try.prog 7 #[v, .int .i64 me, .int .i64 ack] w (RetMpC w X me ack) := by
  obtain ⟨W0, hW, hA, hB0, hS0⟩ := rows1 w #[.int .i64 0, .int .i64 0, .int .i64 0, .slice none 0 0, .slice none 0 0, .int .i64 0, .int .i64 0, .int .i64 0, .int .i64 0] 31
  have hlx : (X.length : Int) ≤ 1048576 := by have := hf.1; omega
  obtain ⟨a, cap, e0, -⟩ := id h
  subst e0
  go_enter Try.func7, Try.ntmps7
  go_wp2_with (fail)
  try rw [hW]
  clear hW
  refine (tracksOk_impl (h.keep hB0) hf).mono ?_
  rintro e w1 ⟨rfl, hb1⟩
  have hA1 := keepHeap hb1 hA
  have hb01 := hB0.trans (hb1.mono hB0.size)
  have hs1 := hb1.size
  have cA1 := rowCells hA1
  have fA1 := fun j => frozenHeap hA1 j
  clear hA
  cases qt : trksB X with
  | false =>
    have HO := Lib.hid (mp_t (me := me) (ack := ack) qt)
    have HX := Lib.hid (mpX_no HO.out)
    go_wp2_with (fail)
    have hP := putP_heap hA1 rfl pk0 (.slice none 0 0) (.slice none 0 0)
    have hbP := putP_below hb01 (c := w.heap.size) (Nat.le_refl _) pk0 (.slice none 0 0) (.slice none 0 0)
    have hO := ownP_zero (putP w1 w.heap.size pk0 (.slice none 0 0) (.slice none 0 0)) w.heap.size hbP.size
    have hL := load_pk hP rfl
    unfold putP at hL hbP hO
    refine bodyPost_ret (v := .tuple #[.agg (pkC pk0 (.slice none 0 0) (.slice none 0 0)), .bool false]) (results_two rfl _ _ _ _ _ rfl rfl hL) rfl ⟨(.slice none 0 0), (.slice none 0 0), ?_, ?_, ⟨none, 0, 0, rfl, Nat.le_refl _⟩, hbP⟩
    · rw [HO.out, HX.out]
    · rw [HX.out]; exact hO
  | true =>
  have QT := Lib.hid qt
  clear qt
  go_wp2_with (fail)
  refine (within_impl _ _ _ _).mono ?_
  rintro e w2 ⟨rfl, rfl⟩
  cases qm : inR me 0 ((X.length : Int) - 1) with
  | false =>
    have HO := Lib.hid (mp_m (ack := ack) qm)
    have HX := Lib.hid (mpX_no HO.out)
    go_wp2_with (fail)
    have hP := putP_heap hA1 rfl pk0 (.slice none 0 0) (.slice none 0 0)
    have hbP := putP_below hb01 (c := w.heap.size) (Nat.le_refl _) pk0 (.slice none 0 0) (.slice none 0 0)
    have hO := ownP_zero (putP w1 w.heap.size pk0 (.slice none 0 0) (.slice none 0 0)) w.heap.size hbP.size
    have hL := load_pk hP rfl
    unfold putP at hL hbP hO
    refine bodyPost_ret (v := .tuple #[.agg (pkC pk0 (.slice none 0 0) (.slice none 0 0)), .bool false]) (results_two rfl _ _ _ _ _ rfl rfl hL) rfl ⟨(.slice none 0 0), (.slice none 0 0), ?_, ?_, ⟨none, 0, 0, rfl, Nat.le_refl _⟩, hbP⟩
    · rw [HO.out, HX.out]
    · rw [HX.out]; exact hO
  | true =>
  have hm2 := (inR_iff _ _ _).1 qm
  have QM := Lib.hid qm
  clear qm
  obtain ⟨m, rfl⟩ : ∃ m : Nat, me = (m : Int) := ⟨me.toNat, by omega⟩
  have hm : m < X.length := by omega
  obtain ⟨b, off, cap', ax, cx, e0, cr0, hlc, rx0⟩ := row_cap h hc hm
  obtain ⟨rfl, -, rfl⟩ := Value.slice.inj e0
  clear e0
  have cr1 : w1.cell? ⟨b, off + m, none⟩ = some (.slice ax X[m].length cx) := (hb01.cell (World.block_lt_of_cell? w _ cr0)).trans cr0
  have rx1 := rx0.keep hb01
  have HA := Lib.hid (fun (e : inR ack 0 (X[m].length : Int) = false) => mp_a hm e)
  have HK := Lib.hid (fun (e : inR ack 0 (X[m].length : Int) = true) => mp_ok QT.out QM.out hm e)
  have HX := Lib.hid (fun (n : Nat) (e : mpOk X (m : Int) (n : Int) = true) => mpX_yes hm e)
  have hxl : X[m].length ≤ 1048576 := hf.2 _ (List.getElem_mem _)
  clear cr0 rx0
  generalize X[m] = x at *
  have hmX : (m : Int) < (X.length : Int) := by omega
  go_wp2_with (fail)
  refine (within_impl _ _ _ _).mono ?_
  rintro e w3 ⟨rfl, rfl⟩
  cases qa : inR ack 0 (x.length : Int) with
  | false =>
    have HO := Lib.hid (HA.out qa)
    have HXN := Lib.hid (mpX_no HO.out)
    go_wp2_with (fail)
    have hP := putP_heap hA1 rfl pk0 (.slice none 0 0) (.slice none 0 0)
    have hbP := putP_below hb01 (c := w.heap.size) (Nat.le_refl _) pk0 (.slice none 0 0) (.slice none 0 0)
    have hO := ownP_zero (putP w1 w.heap.size pk0 (.slice none 0 0) (.slice none 0 0)) w.heap.size hbP.size
    have hL := load_pk hP rfl
    unfold putP at hL hbP hO
    refine bodyPost_ret (v := .tuple #[.agg (pkC pk0 (.slice none 0 0) (.slice none 0 0)), .bool false]) (results_two rfl _ _ _ _ _ rfl rfl hL) rfl ⟨(.slice none 0 0), (.slice none 0 0), ?_, ?_, ⟨none, 0, 0, rfl, Nat.le_refl _⟩, hbP⟩
    · rw [HO.out, HXN.out]
    · rw [HXN.out]; exact hO
  | true =>
  have ha2 := (inR_iff _ _ _).1 qa
  have HO := Lib.hid (HK.out qa)
  clear qa HA HK
  obtain ⟨k, rfl⟩ : ∃ k : Nat, ack = (k : Int) := ⟨ack.toNat, by omega⟩
  have hk : k ≤ x.length := by omega
  have HXX := Lib.hid (HX.out k HO.out)
  clear HX ha2
  obtain ⟨a1, c1, hs1', hc1, r1'⟩ := cutW_from ax x.length cx k hk hlc
  have rc1 := r1' rfl rx1
  obtain ⟨d, hd⟩ : ∃ d, d = x.length - k := ⟨_, rfl⟩
  rw [← hd] at hs1' hc1 rc1
  have hdl : (x.drop k).length = d := by rw [List.length_drop]; omega
  obtain ⟨q, hq⟩ : ∃ q : Nat, (q : Int) = min (d : Int) 40 := ⟨min d 40, by omega⟩
  have hqd : q ≤ d := by omega
  have hmin : min (d : Int) 40 = (q : Int) := hq.symm
  have hminB : (if (40 : Int) < (d : Int) then (40 : Int) else (d : Int)) = (q : Int) := by split <;> omega
  have hminC : (if 40 < d then (40 : Int) else (d : Int)) = (q : Int) := by split <;> omega
  obtain ⟨a2, c2, hs2', hc2, r2'⟩ := cutW_to a1 d c1 q hqd hc1
  have rc2 := r2' hdl rc1
  have HT := Lib.hid (take_forty (x.drop k) q (by rw [hdl]; exact hq))
  have hql : ((x.drop k).take q).length ≤ 40 := by rw [List.length_take]; omega
  generalize (x.drop k).take q = ys at *
  clear hq hd hdl r1' r2' rc1 hc1 hc2
  go_wp2_with (fail)
  refine (cloneI_any rc2 (by omega)).mono ?_
  rintro e w4 ⟨v4, rfl, o4, hc4, hb4⟩
  obtain ⟨a4, c4, rfl, -⟩ := id o4
  have hb04 := hb01.trans (hb4.mono hb01.size)
  have hA4 := keepHeap hb4 hA1
  have hs4 := hb4.size
  clear cA1 fA1 cr1
  go_wp2_with (fail)
  refine (knownCounts_impl (h.keep hb04) hf).mono ?_
  rintro e w5 ⟨v5, rfl, o5, hb5⟩
  obtain ⟨a5, c5, rfl, -⟩ := id o5
  have hb05 := hb04.trans (hb5.mono hb04.size)
  have hA5 := keepHeap hb5 hA4
  have hs5 := hb5.size
  have cA5 := rowCells hA5
  have fA5 := fun j => frozenHeap hA5 j
  have hAl : w.heap.size < w1.heap.size := blockLt hA1
  obtain ⟨Z, hZ⟩ : ∃ Z, Z = lens X := ⟨_, rfl⟩
  rw [← hZ] at o5 ⊢
  have HZ := Lib.hid hZ
  have hown : OwnPIn w5 (w.heap.size + 1) w5.heap.size ⟨(m : Int), 0, (k : Int), ys, Z, 0, 0, 0, 0⟩ (.slice a4 ys.length c4) (.slice a5 Z.length c5) := ⟨w1.heap.size, w4.heap.size, w4.heap.size, w5.heap.size, ⟨by omega, hs4, hs5⟩, ⟨by omega, hs5, Nat.le_refl _⟩, .inl (Nat.le_refl _), (OwnIn.of o4).keep hb5, OwnIn.of o5⟩
  have HW := Lib.hid hown
  clear hown o4 o5 hZ
  go_wp2_with (fail)
  have hP := putP_heap hA5 rfl ⟨(m : Int), 0, (k : Int), ys, Z, 0, 0, 0, 0⟩ (.slice a4 ys.length c4) (.slice a5 Z.length c5)
  have hbP := putP_below hb05 (c := w.heap.size) (Nat.le_refl _) ⟨(m : Int), 0, (k : Int), ys, Z, 0, 0, 0, 0⟩ (.slice a4 ys.length c4) (.slice a5 Z.length c5)
  have hOwn := (HW.out.afar (putP_farB w5 w.heap.size ⟨(m : Int), 0, (k : Int), ys, Z, 0, 0, 0, 0⟩ (.slice a4 ys.length c4) (.slice a5 Z.length c5)) (Nat.le_refl _)).wide (lo' := w.heap.size) (hi' := (putP w5 w.heap.size ⟨(m : Int), 0, (k : Int), ys, Z, 0, 0, 0, 0⟩ (.slice a4 ys.length c4) (.slice a5 Z.length c5)).heap.size) (by omega) (by simp [putP])
  have hL := load_pk hP rfl
  unfold putP at hL hbP hOwn
  refine bodyPost_ret (v := .tuple #[.agg (pkC ⟨(m : Int), 0, (k : Int), ys, Z, 0, 0, 0, 0⟩ (.slice a4 ys.length c4) (.slice a5 Z.length c5)), .bool true]) (results_two rfl _ _ _ _ _ rfl rfl hL) rfl ⟨.slice a4 ys.length c4, .slice a5 Z.length c5, ?_, ?_, hc4, hbP⟩
  · rw [HO.out, HXX.out, ← HT.out, ← HZ.out]
  · rw [HXX.out, ← HT.out, ← HZ.out]; exact hOwn
end Go.Proofs.Ytgbdpmaajihfdaa
