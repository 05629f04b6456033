/-
  MakePacket of the model. Lists of at most 2^20 tracks and inputs.
-/
import Derived.Test.YtnjjpeblbfomoaaMpI
import Derived.Test.YtnjjpeblbfomoaaStI
namespace Go.Proofs.Ytnjjpeblbfomoaa
open Go.RowKit
set_option linter.all false
/-- The packet's box behind some acks; their row is the call's own. -/
def NpR (w6 wr : World) (p : Nat) (m k : Nat) (vi va : Value) (zs : List Int) : Prop := wr.heap[p]? = some (.cells #[.int .i64 (m : Int), .int .i64 0, .int .i64 (k : Int), vi, va, .int .i64 0, .int .i64 0, .int .i64 0, .int .i64 0] 39 (0, 0)) ∧ OwnR wr w6.heap.size va zs ∧ Below p w6 wr ∧ (∀ j, j < w6.heap.size → j ≠ p → wr.heap[j]? = w6.heap[j]?) ∧ w6.heap.size ≤ wr.heap.size
theorem npR_next {w6 wr w2 w5 : World} {o : Obj} {p m k : Nat} {vi va v5 : Value} {zs ys : List Int} (h : NpR w6 wr p m k vi va zs) (hp : p < w6.heap.size) (h2 : Below wr.heap.size wr w2) (h5 : Below w6.heap.size (w2.alloc o) w5) (ho : OwnR w5 w6.heap.size v5 ys) : NpR w6 (w5.setCell ⟨p, 4, none⟩ v5) p m k vi v5 ys := by
  obtain ⟨h1, -, h3, h4, h6⟩ := h
  have hP5 := (h5.block p hp).trans (keepHeap (below1 w2 o) (keepHeap h2 h1))
  have s2 := h2.size
  have s3 := (below1 w2 o).size
  have s5 := h5.size
  refine ⟨?_, ho.aside (p := ⟨p, 4, none⟩) (ho.notBox hP5 (by decide)) v5, ?_, ?_, ?_⟩
  · exact setHeap (k := 4) (v := v5) hP5
  · exact ((h3.trans (h2.mono (by omega))).trans (((below1 w2 o).mono (by omega)).trans (h5.mono (by omega)))).setCell (p := ⟨p, 4, none⟩) (Nat.le_refl _) v5
  · intro j hj hne
    rw [Below.heap_setCell _ _ _ j (by show j ≠ p; exact hne), h5.block j hj, (below1 w2 o).block j (by omega), h2.block j (by omega)]
    exact h4 j hj hne
  · simp; omega
theorem NpR.far {w6 wr : World} {p m k : Nat} {vi va : Value} {zs : List Int} (h : NpR w6 wr p m k vi va zs) : FarB p (p + 1) w6 wr := ⟨h.2.2.1, fun j h1 h2 => h.2.2.2.1 j h2 (by omega)⟩
set_option maxRecDepth 100000 in
set_option maxHeartbeats 4000000 in
theorem makePacket_spec {w : World} {v : Value} {X : Rowi} (h : RdR w v X) (hc : CapR w v X) (hf : Few X) (me ack : Int) :
    Calls Try.prog 20 #[v, .int .i64 me, .int .i64 ack] w (RetMp w X me ack) := by
  obtain ⟨W0, hW, hA, hB0, hS0⟩ := rows1 w #[.int .i64 0, .int .i64 0, .int .i64 0, .slice none 0 0, .slice none 0 0, .int .i64 0, .int .i64 0, .int .i64 0, .int .i64 0] 39
  have hlx : (X.length : Int) ≤ 1048576 := by have := hf.1; omega
  obtain ⟨a, cap, e0, -⟩ := id h
  subst e0
  go_enter Try.func20, Try.ntmps20
  go_wp2_with (fail)
  try rw [hW]
  clear hW
  refine (tracksOk_spec (h.keep hB0) hf).mono ?_
  rintro e w1 ⟨rfl, hb1⟩
  have hA1 := keepHeap hb1 hA
  have hb01 := hB0.trans (hb1.mono hB0.size)
  have hs1 := hb1.size
  have cA1 := rowCells hA1
  have fA1 := fun j => frozenHeap hA1 j
  clear hA
  cases qt : trksB X with
  | false =>
    have HO := Lib.hid (mp_t (me := me) (ack := ack) qt)
    have HX := Lib.hid (mpX_no HO.out)
    go_wp2_with (fail)
    have hP := putP_heap hA1 rfl pk0 (.slice none 0 0) (.slice none 0 0)
    have hbP := putP_below hb01 (c := w.heap.size) (Nat.le_refl _) pk0 (.slice none 0 0) (.slice none 0 0)
    have hO := ownP_zero (putP w1 w.heap.size pk0 (.slice none 0 0) (.slice none 0 0)) w.heap.size hbP.size
    have hL := load_pk hP rfl
    unfold putP at hL hbP hO
    refine bodyPost_ret (v := .tuple #[.agg (pkC pk0 (.slice none 0 0) (.slice none 0 0)), .bool false]) (results_two rfl _ _ _ _ _ rfl rfl hL) rfl ⟨(.slice none 0 0), (.slice none 0 0), ?_, ?_, hbP⟩
    · rw [HO.out, HX.out]
    · rw [HX.out]; exact hO
  | true =>
  have QT := Lib.hid qt
  clear qt
  go_wp2_with (fail)
  refine (in_spec _ _ _ _).mono ?_
  rintro e w2 ⟨rfl, rfl⟩
  cases qm : inR me 0 ((X.length : Int) - 1) with
  | false =>
    have HO := Lib.hid (mp_m (ack := ack) qm)
    have HX := Lib.hid (mpX_no HO.out)
    go_wp2_with (fail)
    have hP := putP_heap hA1 rfl pk0 (.slice none 0 0) (.slice none 0 0)
    have hbP := putP_below hb01 (c := w.heap.size) (Nat.le_refl _) pk0 (.slice none 0 0) (.slice none 0 0)
    have hO := ownP_zero (putP w1 w.heap.size pk0 (.slice none 0 0) (.slice none 0 0)) w.heap.size hbP.size
    have hL := load_pk hP rfl
    unfold putP at hL hbP hO
    refine bodyPost_ret (v := .tuple #[.agg (pkC pk0 (.slice none 0 0) (.slice none 0 0)), .bool false]) (results_two rfl _ _ _ _ _ rfl rfl hL) rfl ⟨(.slice none 0 0), (.slice none 0 0), ?_, ?_, hbP⟩
    · rw [HO.out, HX.out]
    · rw [HX.out]; exact hO
  | true =>
  have hm2 := (inR_iff _ _ _).1 qm
  have QM := Lib.hid qm
  clear qm
  obtain ⟨m, rfl⟩ : ∃ m : Nat, me = (m : Int) := ⟨me.toNat, by omega⟩
  have hm : m < X.length := by omega
  obtain ⟨b, off, cap', ax, cx, e0, cr0, hlc, rx0⟩ := row_cap h hc hm
  obtain ⟨rfl, -, rfl⟩ := Value.slice.inj e0
  clear e0
  have cr1 : w1.cell? ⟨b, off + m, none⟩ = some (.slice ax X[m].length cx) := (hb01.cell (World.block_lt_of_cell? w _ cr0)).trans cr0
  have rx1 := rx0.keep hb01
  have HA := Lib.hid (fun (e : inR ack 0 (X[m].length : Int) = false) => mp_a hm e)
  have HK := Lib.hid (fun (e : inR ack 0 (X[m].length : Int) = true) => mp_ok QT.out QM.out hm e)
  have HX := Lib.hid (fun (n : Nat) (e : mpOk X (m : Int) (n : Int) = true) => mpX_yes hm e)
  have hxl : X[m].length ≤ 1048576 := hf.2 _ (List.getElem_mem _)
  clear cr0 rx0
  generalize X[m] = x at *
  have hmX : (m : Int) < (X.length : Int) := by omega
  go_wp2_with (fail)
  refine (in_spec _ _ _ _).mono ?_
  rintro e w3 ⟨rfl, rfl⟩
  cases qa : inR ack 0 (x.length : Int) with
  | false =>
    have HO := Lib.hid (HA.out qa)
    have HXN := Lib.hid (mpX_no HO.out)
    go_wp2_with (fail)
    have hP := putP_heap hA1 rfl pk0 (.slice none 0 0) (.slice none 0 0)
    have hbP := putP_below hb01 (c := w.heap.size) (Nat.le_refl _) pk0 (.slice none 0 0) (.slice none 0 0)
    have hO := ownP_zero (putP w1 w.heap.size pk0 (.slice none 0 0) (.slice none 0 0)) w.heap.size hbP.size
    have hL := load_pk hP rfl
    unfold putP at hL hbP hO
    refine bodyPost_ret (v := .tuple #[.agg (pkC pk0 (.slice none 0 0) (.slice none 0 0)), .bool false]) (results_two rfl _ _ _ _ _ rfl rfl hL) rfl ⟨(.slice none 0 0), (.slice none 0 0), ?_, ?_, hbP⟩
    · rw [HO.out, HXN.out]
    · rw [HXN.out]; exact hO
  | true =>
  have ha2 := (inR_iff _ _ _).1 qa
  have HO := Lib.hid (HK.out qa)
  clear qa HA HK
  obtain ⟨k, rfl⟩ : ∃ k : Nat, ack = (k : Int) := ⟨ack.toNat, by omega⟩
  have hk : k ≤ x.length := by omega
  have HXX := Lib.hid (HX.out k HO.out)
  clear HX ha2
  obtain ⟨q, hq⟩ : ∃ q : Nat, (q : Int) = min ((x.length : Int) - (k : Int)) 40 := ⟨min (x.length - k) 40, by omega⟩
  have hmin : min 40 ((x.length : Int) - (k : Int)) = (q : Int) := by omega
  obtain ⟨e, he⟩ : ∃ e : Nat, e = k + q := ⟨_, rfl⟩
  have hke : (k : Int) + (q : Int) = (e : Int) := by omega
  obtain ⟨a2, c2, hs2', hc2, r2'⟩ := cutW_mid ax x.length cx k e (by omega) (by omega) hlc
  have rc2 := r2' rfl rx1
  have hek : e - k = q := by omega
  rw [hek] at hs2' rc2
  have HT := Lib.hid (take_forty (x.drop k) q (by rw [List.length_drop]; omega))
  have hql : ((x.drop k).take q).length = q := by rw [List.length_take, List.length_drop]; omega
  have hq40 : q ≤ 40 := by omega
  generalize (x.drop k).take q = ys at *
  clear hq he r2' hc2 hek
  have HQ := Lib.hid hql
  clear hql
  obtain ⟨w3, hw3⟩ : ∃ W, w1.alloc (.cells #[.int .i64 (m : Int), .int .i64 0, .int .i64 (k : Int), (.slice none 0 0), (.slice none 0 0), .int .i64 0, .int .i64 0, .int .i64 0, .int .i64 0] 39) = W := ⟨_, rfl⟩
  have hP3 : w3.heap[w1.heap.size]? = some (.cells #[.int .i64 (m : Int), .int .i64 0, .int .i64 (k : Int), (.slice none 0 0), (.slice none 0 0), .int .i64 0, .int .i64 0, .int .i64 0, .int .i64 0] 39 (0, 0)) := by rw [← hw3]; exact heap_alloc_new _ _
  have hb3 : Below w1.heap.size w1 w3 := by rw [← hw3]; exact below1 _ _
  have hs3 : w3.heap.size = w1.heap.size + 1 := by rw [← hw3]; simp
  have hz := below1 w3 (.cells #[] 3)
  have hO0 : OwnR (w3.alloc (.cells #[] 3)) w3.heap.size (.slice (some ⟨w3.heap.size, 0, none⟩) 0 0) [] := OwnR.made w3 #[] w3.heap.size (Nat.le_refl _) (by unfold maxLen; simp)
  have rc3 := (rc2.keep hb3).keep hz
  have cr3 : w3.cell? ⟨b, off + m, none⟩ = some (.slice ax x.length cx) := (hb3.cell (World.block_lt_of_cell? w1 _ cr1)).trans cr1
  have cr4 : (w3.alloc (.cells #[] 3)).cell? ⟨b, off + m, none⟩ = some (.slice ax x.length cx) := (hz.cell (World.block_lt_of_cell? w3 _ cr3)).trans cr3
  have hA3 := keepHeap hb3 hA1
  have hp3 : w1.heap.size < w3.heap.size := by omega
  have hz3 := hz.size
  have hAl : w.heap.size < w1.heap.size := blockLt hA1
  have HW3 := Lib.hid hw3
  have HS3 := Lib.hid hs3
  clear cA1 fA1 hw3 hs3
  go_upto_region 4 with (fail)
  rw [HW3.out]
  go_wp2_with (at_builtin; refine app_ints rfl _ _ rfl w3.heap.size _ [] rfl hO0 _ ys rfl rc3 (by have := HQ.out; simp; omega) hz3 ?_; intro v5 w5 hown5 hb5; rw [List.nil_append] at hown5; obtain ⟨a5, c5, rfl, -⟩ := id hown5.own; have hP5 := (hb5.block w1.heap.size hp3).trans (keepHeap hz hP3); have cP5 := rowCells hP5; have fP5 := frozenHeap hP5 3)
  have hP6 := setHeap (k := 3) (v := .slice a5 ys.length c5) hP5
  have hne5 := hown5.notBox hP5 (by decide)
  have hO6 := hown5.aside (p := ⟨w1.heap.size, 3, none⟩) hne5 (.slice a5 ys.length c5)
  have hb6 : Below w1.heap.size w1 (w5.setCell ⟨w1.heap.size, 3, none⟩ (.slice a5 ys.length c5)) := ((hb3.trans (hz.mono (by omega))).trans (hb5.mono (by omega))).setCell (p := ⟨w1.heap.size, 3, none⟩) (Nat.le_refl _) _
  obtain ⟨w6, hw6⟩ : ∃ W, w5.setCell ⟨w1.heap.size, 3, none⟩ (.slice a5 ys.length c5) = W := ⟨_, rfl⟩
  rw [hw6] at hP6 hO6 hb6
  try rw [hw6]
  have hs56 : w5.heap.size ≤ w6.heap.size := by rw [← hw6]; simp
  have hs5 := hb5.size
  clear hw6 hP5 cP5 fP5 hown5 cr3 cr4 hO0 rc3
  have hA6 := keepHeap hb6 hA1
  have hb06 := hb01.trans (hb6.mono hb01.size)
  have hp6 : w1.heap.size < w6.heap.size := by omega
  have o6 : OwnIn w6 w3.heap.size w6.heap.size (.slice a5 ys.length c5) ys := OwnIn.of hO6.own
  obtain ⟨aL, cL, eL, hL0⟩ := id h
  have HO6 := Lib.hid o6
  have HHX := Lib.hid h
  clear o6 hO6
  go_loopw [10] (fun i wr => ∃ (n : Nat) (va : Value), n ≤ X.length ∧ i = .int .i64 (n : Int) ∧ NpR w6 wr w1.heap.size m k (.slice a5 ys.length c5) va ((lens X).take n)) (fun i _ => X.length - (intOf i).toNat)
  case atStart => exact ⟨0, (.slice none 0 0), Nat.zero_le _, rfl, hP6, World.ownsRow_nil _ _ _ _, Below.refl _ _, fun _ _ _ => rfl, Nat.le_refl _⟩
  case round =>
    obtain ⟨n, va, hn, rfl, hR⟩ := hrel
    have hPr := hR.1
    have hOr := hR.2.1
    have hsr := hR.2.2.2.2
    have hAr := (hR.2.2.2.1 w.heap.size (by omega) (by omega)).trans hA6
    have hb0r : Below w.heap.size w wr := hb06.trans (hR.2.2.1.mono (by omega))
    obtain ⟨av, cv, rfl, -⟩ := id hOr.own
    have cP := rowCells hPr
    by_cases hnl : n < X.length
    · obtain ⟨bL, oL, rfl, hcL⟩ := hL0.resolve_left (by intro e; rw [e] at hnl; simp at hnl)
      obtain ⟨u, c0, r0⟩ := hcL n hnl
      obtain ⟨e1, -, -⟩ := Value.slice.inj eL
      have e2 := Option.some.inj e1
      have e3 : b = bL := congrArg Addr.block e2
      have e4 : off = oL := congrArg Addr.off e2
      subst e3 e4
      have cu : wr.cell? ⟨b, off + n, none⟩ = some u := (hb0r.cell (World.block_lt_of_cell? w _ c0)).trans c0
      have hnl2 : n < (lens X).length := by rw [lens_len]; exact hnl
      have htk := List.take_succ_eq_append_getElem hnl2
      rw [lens_at hnl] at htk
      obtain ⟨zs1, hzs1⟩ : ∃ zs1, zs1 = (lens X).take (n + 1) := ⟨_, rfl⟩
      rw [← hzs1] at htk
      have HZ1 := Lib.hid hzs1
      have HTK := Lib.hid htk
      have HLN := Lib.hid (show ((lens X).take n).length = n by rw [List.length_take]; omega)
      have hnX : (n : Int) < (X.length : Int) := by omega
      obtain ⟨au, cu', rfl, -⟩ := id r0
      generalize X[n].length = g at *
      have HO := Lib.hid hOr
      have HR := Lib.hid hR
      clear htk hzs1 hOr hR hcL c0 r0 hL0 e1 e2 eL
      obtain ⟨zs, hzs⟩ : ∃ zs, zs = (lens X).take n := ⟨_, rfl⟩
      rw [← hzs] at HO HR HLN HTK cP hPr
      try rw [← hzs]
      clear hzs
      have cPb := rowCells (keepHeap (below1 wr (.cells #[.int .i64 (g : Int)] 3)) hPr)
      go_wp2_with (fail)
      go_region_law (refine step_int rfl (.tmp 66) (.tmp 73) rfl w6.heap.size _ zs rfl (World.ownsRow.alloc (World.ownsRow.drew HO.out) _) wr.heap.size (g : Int) rfl (World.cell?_alloc_mark _ _ _ (0, 0) 0) (by have := HLN.out; omega) (by simp; omega) ?_; intro v7 w7 hown7 hb7 hg7; rw [← HTK.out] at hown7; obtain ⟨a7, c7, rfl, -⟩ := id hown7.own; have hP7 := (hb7.block w1.heap.size hp6).trans (keepHeap (below1 wr.drew _) hPr); have cP7 := rowCells hP7; have fP7 := frozenHeap hP7 4)
      all_goals
        go_wp2_with (fail)
        go_roundw
        case rel => exact ⟨n + 1, _, by omega, by go_num, by rw [← HZ1.out]; exact npR_next HR.out hp6 (belowDrew wr 1) hb7 hown7⟩
        case measure => simp [intOf]; omega
    · have en : (lens X).take n = lens X := List.take_of_length_le (by rw [lens_len]; omega)
      rw [en] at hOr hR cP hPr
      try rw [en]
      obtain ⟨Z, hZ⟩ : ∃ Z, Z = lens X := ⟨_, rfl⟩
      rw [← hZ] at hOr hR cP hPr
      try rw [← hZ]
      have HZ := Lib.hid hZ
      have hown : OwnPIn wr (w.heap.size + 1) wr.heap.size ⟨(m : Int), 0, (k : Int), ys, Z, 0, 0, 0, 0⟩ (.slice a5 ys.length c5) (.slice av Z.length cv) := ⟨w3.heap.size, w6.heap.size, w6.heap.size, wr.heap.size, ⟨by omega, by omega, hsr⟩, ⟨by omega, hsr, Nat.le_refl _⟩, .inl (Nat.le_refl _), HO6.out.apart2 hR.far (.inl (by omega)), OwnIn.of hOr.own⟩
      have HW := Lib.hid hown
      have cA := rowCells hAr
      have fA := fun j => frozenHeap hAr j
      have hnn : ¬ (n : Int) < (X.length : Int) := by omega
      clear hown hOr hR hZ en hL0
      go_wp2_with (fail)
      have hP := putP_heap hAr rfl ⟨(m : Int), 0, (k : Int), ys, Z, 0, 0, 0, 0⟩ (.slice a5 ys.length c5) (.slice av Z.length cv)
      have hbP := putP_below hb0r (c := w.heap.size) (Nat.le_refl _) ⟨(m : Int), 0, (k : Int), ys, Z, 0, 0, 0, 0⟩ (.slice a5 ys.length c5) (.slice av Z.length cv)
      have hOwn := (HW.out.afar (putP_farB wr w.heap.size ⟨(m : Int), 0, (k : Int), ys, Z, 0, 0, 0, 0⟩ (.slice a5 ys.length c5) (.slice av Z.length cv)) (Nat.le_refl _)).wide (lo' := w.heap.size) (hi' := (putP wr w.heap.size ⟨(m : Int), 0, (k : Int), ys, Z, 0, 0, 0, 0⟩ (.slice a5 ys.length c5) (.slice av Z.length cv)).heap.size) (by omega) (by simp [putP])
      have hL := load_pk hP rfl
      unfold putP at hL hbP hOwn
      refine bodyPost_ret (v := .tuple #[.agg (pkC ⟨(m : Int), 0, (k : Int), ys, Z, 0, 0, 0, 0⟩ (.slice a5 ys.length c5) (.slice av Z.length cv)), .bool true]) (results_two rfl _ _ _ _ _ rfl rfl hL) rfl ⟨.slice a5 ys.length c5, .slice av Z.length cv, ?_, ?_, hbP⟩
      · rw [HO.out, HXX.out, ← HT.out, ← HZ.out]
      · rw [HXX.out, ← HT.out, ← HZ.out]; exact hOwn
end Go.Proofs.Ytnjjpeblbfomoaa
