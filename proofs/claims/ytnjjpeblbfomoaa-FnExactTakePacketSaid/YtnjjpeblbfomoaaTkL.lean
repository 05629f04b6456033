/-
  The law on TakePacket. No condition.
-/
import Derived.Test.YtnjjpeblbfomoaaTkS
import Derived.Test.YtnjjpeblbfomoaaTkI
namespace Go.Proofs.Ytnjjpeblbfomoaa
open Go.RowKit
set_option linter.all false
theorem total_le {n : Nat} : ∀ {X : Rowi}, (∀ x ∈ X, x.length ≤ n) → totalR X ≤ X.length * n
  | [], _ => by simp [totalR]
  | x :: X, h => by
    have h1 := h x (by simp)
    have h2 := total_le (X := X) (fun y hy => h y (by simp [hy]))
    rw [totalR_cons, List.length_cons, Nat.add_mul]; omega
theorem tkT_rows {X : Rowi} {p : Pk} (h : tkG X p = true) : (tkT X p).length ≤ 4 ∧ ∀ x ∈ tkT X p, x.length ≤ 400 := by
  have ht : trksB X = true := by unfold tkG at h; simp only [Bool.and_eq_true] at h; exact h.1
  obtain ⟨h1, h2, h3⟩ := trksB_facts ht
  have hl : ∀ x ∈ X, x.length ≤ 400 := fun x hx => (trkB_facts (h3 x hx)).1
  unfold tkT
  rw [h]
  simp only [if_true]
  refine ⟨by rw [List.length_set]; exact h2, fun x hx => ?_⟩
  rcases List.mem_or_eq_of_mem_set hx with hx | rfl
  · exact hl x hx
  · unfold addT
    split
    · rename_i hb
      unfold addB at hb
      simp only [Bool.and_eq_true] at hb
      exact (trkB_facts hb.2).1
    · rw [List.getD_eq_getElem?_getD]
      cases e : X[p.fr.toNat]? with
      | none => simp
      | some y => exact hl y (List.mem_of_getElem? e)
theorem tkT_few {X : Rowi} {p : Pk} (hf : Few X) : Few (tkT X p) := by
  cases h : tkG X p with
  | false => rw [tkT_no h]; exact hf
  | true => obtain ⟨h1, h2⟩ := tkT_rows h; exact ⟨by omega, fun x hx => by have := h2 x hx; omega⟩
theorem tkT_total {X : Rowi} {p : Pk} (hT : totalR X ≤ 1048576) : totalR (tkT X p) ≤ 1048576 := by
  cases h : tkG X p with
  | false => rw [tkT_no h]; exact hT
  | true =>
    obtain ⟨h1, h2⟩ := tkT_rows h
    have := total_le h2
    have : (tkT X p).length * 400 ≤ 4 * 400 := Nat.mul_le_mul_right 400 h1
    omega
theorem MkI.afar {w w' : World} {B T lo hi : Nat} {v : Value} {n : Nat} (h : MkI w B T v n) (hf : FarB lo hi w w') (hle : hi ≤ B) : MkI w' B T v n := by
  obtain ⟨a, cap, hv, h⟩ := h
  refine ⟨a, cap, hv, ?_⟩
  rcases h with h | ⟨b, h1, h2, h3, ha, hr⟩
  · exact .inl h
  · have he := hf.2 b (by omega) h3
    exact .inr ⟨b, h1, h2, by have := hf.1.size; omega, ha, fun j hj => ⟨by obtain ⟨u, hu⟩ := (hr j hj).1; exact ⟨u, by rw [World.cell?_of_block (w := w) he]; exact hu⟩, by rw [frozen_of_block he]; exact (hr j hj).2⟩⟩
theorem markTrackS_F {w : World} {B T : Nat} {v : Value} {X : Rowi} (h : MkR w B T v X) (hn : X.length ≤ 1048576) (hi : totalR X ≤ 1048576) (k0 : Int) (h0 : 0 ≤ k0) (h1 : k0 ≤ 1048576) :
    Calls Try.prog 25 #[v, .int .i64 k0] w fun e w' => e = .returned (.int .i64 (k0 + (totalR X : Nat))) ∧ FarB B T w w' :=
  (markTrackS_ch h hn hi k0 h0 h1).mono fun e w' h => ⟨h.1, h.2.farB⟩
set_option maxHeartbeats 1000000 in
theorem markPacket_ch {w : World} {B T : Nat} {p : Pk} {vi va : Value} (h1 : MkI w B T vi p.ins.length) (h2 : MkI w B T va p.acks.length) (hB : B ≤ w.heap.size) (hT : T ≤ w.heap.size) (hn : p.few) (k0 : Int) (h0 : 0 ≤ k0) (hk : k0 ≤ 2097152) :
    Calls Try.prog 26 #[.agg (pkC p vi va), .int .i64 k0] w fun e w' => e = .returned (.int .i64 (k0 + (p.ins.length : Int) + (p.acks.length : Int))) ∧ FarB B T w w' := by
  obtain ⟨hn1, hn2⟩ := hn
  obtain ⟨ai, ci, rfl⟩ := h1.slice
  obtain ⟨aa, ca, rfl⟩ := h2.slice
  unfold pkC
  obtain ⟨W0, hW, hA, hB0, hS0⟩ := rows1 w #[.int .i64 p.fr, .int .i64 p.tick, .int .i64 p.first, .slice ai p.ins.length ci, .slice aa p.acks.length ca, .int .i64 p.sumTick, .int .i64 p.sum, .int .i64 p.time, .int .i64 p.echo] 39
  have cA := rowCells hA
  have hs0 := hB0.size
  have g1 := h1.ch (IntCh.of_below (B := B) (T := T) hB0 hB)
  have g2 := h2.ch (IntCh.of_below (B := B) (T := T) hB0 hB)
  have hm := markIntS_ch g1 hn1 k0 h0 (by omega)
  have hk2 : 0 ≤ k0 + (p.ins.length : Int) := by omega
  clear h1 h2
  go_enter Try.func26, Try.ntmps26
  go_wp2_with (fail)
  try rw [hW]
  clear hW
  refine hm.mono ?_
  rintro e w1 ⟨rfl, c1⟩
  have hA1 := keepHeapFar c1.farB hA (.inr hT)
  have cA1 := rowCells hA1
  have hm2 := markIntS_ch (g2.ch c1) hn2 (k0 + (p.ins.length : Int)) hk2 (by omega)
  clear cA hm
  go_wp2_with (fail)
  refine hm2.mono ?_
  rintro e w2 ⟨rfl, c2⟩
  go_wp2_with (fail)
  go_ret
  exact ⟨rfl, (FarB.of_below hB0 hB).trans (c1.farB.trans c2.farB)⟩
set_option maxRecDepth 100000 in
set_option maxHeartbeats 8000000 in
theorem lawTakePacket (v : Value) (X : Rowi) {w : World} (h : RdR w v X) (hs : SaneR X) (p : Pk) (vi va : Value) (hp : RdP w p vi va) (hps : p.sane) :
    Calls Try.prog 5 #[v, .agg (pkC p vi va)] w fun e w' => e = .returned (.bool true) ∧ Below w.heap.size w w' := by
  have h0 := h
  have hp0 := hp
  obtain ⟨a, cap, rfl, -⟩ := id h
  obtain ⟨aiA, ciA, rfl, -⟩ := id hp.1
  obtain ⟨aaA, caA, rfl, -⟩ := id hp.2
  unfold pkC
  obtain ⟨w_1, hW, A_1, q0_1, -⟩ := rows1 w #[Value.int .i64 p.fr, .int .i64 p.tick, .int .i64 p.first, .slice aiA p.ins.length ciA, .slice aaA p.acks.length caA, .int .i64 p.sumTick, .int .i64 p.sum, .int .i64 p.time, .int .i64 p.echo] 49
  have sz_1 := q0_1.size
  have ltA : w.heap.size < w_1.heap.size := blockLt A_1
  go_enter Try.func5, Try.ntmps5
  have cA_1 := rowCells A_1
  go_wp2_with (fail)
  try rw [hW]
  clear hW
  refine (szTrackS_any (h0.keep q0_1) hs 1048576 (by omega) (by omega)).mono ?_
  rintro e w_2 ⟨r, rfl, hr, hb_2⟩
  have q0_2 := q0_1.trans (hb_2.mono q0_1.size)
  have A_2 := keepHeap hb_2 A_1
  have sz_2 := hb_2.size
  clear q0_1 A_1 cA_1
  clear hb_2
  rcases hr with rfl | ⟨hr0, hr1⟩
  · go_wp2_with (fail)
    go_ret
    exact ⟨rfl, q0_2⟩
  have zr : decide (r < 0) = false := by simpa using hr0
  have hf : Few X := ⟨by omega, fun x hx => by have := totalR_mem hx; omega⟩
  have hT : totalR X ≤ 1048576 := by omega
  have hr2 : r ≤ 1048576 := by omega
  clear hr1
  have cA_2 := rowCells A_2
  go_wp2_with (fail)
  refine (szPacket_any (hp0.keep q0_2) hps r hr0 hr2).mono ?_
  rintro e w_3 ⟨q, rfl, hq, hb_3⟩
  have q0_3 := q0_2.trans (hb_3.mono q0_2.size)
  have A_3 := keepHeap hb_3 A_2
  have sz_3 := hb_3.size
  clear q0_2 A_2 cA_2
  clear hb_3
  rcases hq with rfl | ⟨hq0, hq1⟩
  · go_wp2_with (fail)
    go_ret
    exact ⟨rfl, q0_3⟩
  have zq : decide (q < 0) = false := by simpa using hq0
  have hfp : p.few := ⟨by omega, by omega⟩
  clear hq1
  have hspec := fun {W : World} {v vi va : Value} (h1 : RdR W v X) (h2 : CapR W v X) (h3 : RdP W p vi va) (h4 : CapI vi) => takePacket_spec h1 h2 hf h3 h4 hfp
  have himpl := fun {W : World} {v vi va : Value} (h1 : RdR W v X) (h2 : CapR W v X) (h3 : RdP W p vi va) (h4 : CapI vi) => takePacket_impl h1 h2 hf h3 h4 hfp
  unfold RetTk at hspec himpl
  have hfY : Few (tkT X p) := tkT_few hf
  have hTY : totalR (tkT X p) ≤ 1048576 := tkT_total hT
  obtain ⟨Y, hY⟩ : ∃ Y, Y = tkT X p := ⟨_, rfl⟩
  obtain ⟨b, hB⟩ : ∃ b, b = tkB X p := ⟨_, rfl⟩
  simp only [← hY, ← hB] at hspec himpl hfY hTY
  clear hY hB
  have heq := fun {W : World} {v v' : Value} (h1 : RdR W v Y) (h2 : RdR W v' Y) => eqTrackS_rows h1 h2 hfY.1 hfY.2
  have heqp := fun {W : World} {vi va vi' va' : Value} (h1 : RdP W p vi va) (h2 : RdP W p vi' va') => eqPacket_same h1 h2 hfp
  have hmp := fun {W : World} {B T : Nat} {vi va : Value} (h1 : MkI W B T vi p.ins.length) (h2 : MkI W B T va p.acks.length) (h3 : B ≤ W.heap.size) (h4 : T ≤ W.heap.size) (k0 : Int) (h5 : 0 ≤ k0) (h6 : k0 ≤ 2097152) => markPacket_ch h1 h2 h3 h4 hfp k0 h5 h6
  have hmt := fun {W : World} {lo hi : Nat} {v : Value} (h1 : OwnTT W lo hi v Y) => markTrackS_own h1 hfY.1 hTY 1 (by omega) (by omega)
  have hhd := fun {W : World} {v : Value} (h1 : RdR W v (marksR 1 Y)) => heldTrackS_rows Y 1 h1 hfY.1 hTY (by omega) (by omega)
  have hpk := fun {W : World} {vi va : Value} (h1 : RdP W p vi va) => toPacket_any h1 hfp
  unfold RetPk at hpk
  unfold pkC at hspec himpl heqp hmp hpk
  generalize totalR Y = tY at hmt hhd
  have cA_3 := rowCells A_3
  go_wp2_with (fail)
  have ra := (h0.keep q0_3)
  have rp := (hp0.keep q0_3)
  go_region_held3 (fun w' => (∀ j, w'.cell? ⟨w.heap.size, j, none⟩ = #[Value.int .i64 p.fr, .int .i64 p.tick, .int .i64 p.first, .slice aiA p.ins.length ciA, .slice aaA p.acks.length caA, .int .i64 p.sumTick, .int .i64 p.sum, .int .i64 p.time, .int .i64 p.echo][j]?)) (first | go_keep | (exact cA6P) | (exact cA7P) | (exact cA8P))
    (first
    | (go_at_call 21; refine (toTrackS_cap (RdR.keep ra (belowDrew _ 1)) hf.1 hf.2).mono ?_; rintro e w6P ⟨v6, rfl, o6, k6, hb6⟩; have hA6 := keepHeap hb6 (keepHeap (belowDrew _ 1) A_3); have cA6P := rowCells hA6; have rd6 := o6.rd; obtain ⟨a6, c6, rfl, -⟩ := id rd6; have hb16 := (belowDrew w_3 1).trans (hb6.mono (by simp)); have rp6 := RdP.keep rp hb16)
    | (go_at_call 30; refine (hpk rp6).mono ?_; rintro e w7P ⟨vi7, va7, rfl, o7, ci7, p7, ca7, hb7⟩; have hA7 := keepHeap hb7 hA6; have cA7P := rowCells hA7; have rd7 : RdP w7P p vi7 va7 := ⟨o7.rd, p7.rd⟩; obtain ⟨ai7, ci7', rfl, -⟩ := id o7.rd; obtain ⟨aa7, ca7', rfl, -⟩ := id p7.rd; have rd67 := rd6.keep hb7; have k67 := k6.keep hb7; have hb17 := hb16.trans (hb7.mono hb16.size))
    | (go_at_call 29; refine (hspec rd67 k67 rd7 ci7).mono ?_; rintro e wP ⟨vP, rfl, oP, hb8⟩; have rdP := oP.rd; obtain ⟨aP, cP, rfl, -⟩ := id rdP; have cA8P := rowCells (keepHeap hb8 hA7); have hb18 := hb17.trans (hb8.mono hb17.size)))
  clear ra rp cA6P cA7P cA8P hA6 hA7 hb6 hb7 hb8 hb16 hb17 rd6 rd7 rd67 k6 k67 o6 o7 p7 ci7 ca7 rp6
  have q0_4 := q0_3.trans (hb18.mono q0_3.size)
  have A_4 := keepHeap hb18 A_3
  have sz_4 := hb18.size
  clear q0_3 A_3 cA_3
  clear hb18
  have qSP_4 : Below wP.heap.size wP wP := Below.refl _ _
  clear oP
  go_wp2_with (fail)
  refine (toTrackS_cap (h0.keep q0_4) hf.1 hf.2).mono ?_
  rintro e w_5 ⟨vx, rfl, ox, kx, hb_5⟩
  have q0_5 := q0_4.trans (hb_5.mono q0_4.size)
  have qSP_5 := qSP_4.trans (hb_5.mono qSP_4.size)
  have A_5 := keepHeap hb_5 A_4
  have sz_5 := hb_5.size
  clear q0_4 qSP_4 A_4
  clear hb_5
  have qTx_5 : Below w_5.heap.size w_5 w_5 := Below.refl _ _
  obtain ⟨ax, cx, rfl, -⟩ := id ox.rd
  have cA_5 := rowCells A_5
  go_wp2_with (fail)
  refine (hpk (hp0.keep q0_5)).mono ?_
  rintro e w_6 ⟨viX, vaX, rfl, oi, kiX, oq, kaX, hb_6⟩
  have q0_6 := q0_5.trans (hb_6.mono q0_5.size)
  have qSP_6 := qSP_5.trans (hb_6.mono qSP_5.size)
  have qTx_6 := qTx_5.trans (hb_6.mono qTx_5.size)
  have A_6 := keepHeap hb_6 A_5
  have sz_6 := hb_6.size
  clear q0_5 qSP_5 qTx_5 A_5 cA_5
  clear hb_6
  have qTp_6 : Below w_6.heap.size w_6 w_6 := Below.refl _ _
  have rdp : RdP w_6 p viX vaX := ⟨oi.rd, oq.rd⟩
  have mki := MkI.of_own oi (Nat.le_refl _)
  have mka := MkI.of_own oq (Nat.le_refl _)
  obtain ⟨aiX, ciX, rfl, -⟩ := id oi.rd
  obtain ⟨aaX, caX, rfl, -⟩ := id oq.rd
  obtain ⟨w_7, hw_7, X_7, hb_7⟩ : ∃ W, w_6.alloc (.cells #[Value.int .i64 p.fr, .int .i64 p.tick, .int .i64 p.first, .slice aiX p.ins.length ciX, .slice aaX p.acks.length caX, .int .i64 p.sumTick, .int .i64 p.sum, .int .i64 p.time, .int .i64 p.echo] 39) = W ∧ W.heap[w_6.heap.size]? = some (.cells #[Value.int .i64 p.fr, .int .i64 p.tick, .int .i64 p.first, .slice aiX p.ins.length ciX, .slice aaX p.acks.length caX, .int .i64 p.sumTick, .int .i64 p.sum, .int .i64 p.time, .int .i64 p.echo] 39 (0, 0)) ∧ Below w_6.heap.size w_6 W := ⟨_, rfl, heap_alloc_new _ _, below1 _ _⟩
  have q0_7 := q0_6.trans (hb_7.mono q0_6.size)
  have qSP_7 := qSP_6.trans (hb_7.mono qSP_6.size)
  have qTx_7 := qTx_6.trans (hb_7.mono qTx_6.size)
  have qTp_7 := qTp_6.trans (hb_7.mono qTp_6.size)
  have A_7 := keepHeap hb_7 A_6
  have sz_7 := hb_7.size
  clear q0_6 qSP_6 qTx_6 qTp_6 A_6
  clear hb_7
  have ltX : w_6.heap.size < w_7.heap.size := blockLt X_7
  have cX_7 := rowCells X_7
  go_wp2_with (fail)
  try rw [hw_7]
  clear hw_7
  refine (himpl (ox.rd.keep qTx_7) (kx.keep qTx_7) (rdp.keep qTp_7) kiX).mono ?_
  rintro e w_8 ⟨vG, rfl, oG, hb_8⟩
  have q0_8 := q0_7.trans (hb_8.mono q0_7.size)
  have qSP_8 := qSP_7.trans (hb_8.mono qSP_7.size)
  have qTx_8 := qTx_7.trans (hb_8.mono qTx_7.size)
  have qTp_8 := qTp_7.trans (hb_8.mono qTp_7.size)
  have A_8 := keepHeap hb_8 A_7
  have X_8 := keepHeap hb_8 X_7
  have sz_8 := hb_8.size
  clear q0_7 qSP_7 qTx_7 qTp_7 A_7 X_7 cX_7
  clear hb_8
  have rdG := oG.rd
  obtain ⟨aG, cG, rfl, -⟩ := id rdG
  have qSG_8 : Below w_8.heap.size w_8 w_8 := Below.refl _ _
  go_wp2_with (fail)
  refine (heq (rdG.keep qSG_8) (rdP.keep qSP_8)).mono ?_
  rintro e w_9 ⟨rfl, hb_9⟩
  have q0_9 := q0_8.trans (hb_9.mono q0_8.size)
  have qSP_9 := qSP_8.trans (hb_9.mono qSP_8.size)
  have qTx_9 := qTx_8.trans (hb_9.mono qTx_8.size)
  have qTp_9 := qTp_8.trans (hb_9.mono qTp_8.size)
  have qSG_9 := qSG_8.trans (hb_9.mono qSG_8.size)
  have A_9 := keepHeap hb_9 A_8
  have X_9 := keepHeap hb_9 X_8
  have sz_9 := hb_9.size
  clear q0_8 qSP_8 qTx_8 qTp_8 qSG_8 A_8 X_8
  clear hb_9
  go_wp2_with (fail)
  refine (toTrackS_cap (h0.keep q0_9) hf.1 hf.2).mono ?_
  rintro e w_10 ⟨vz, rfl, oz, kz, hb_10⟩
  have q0_10 := q0_9.trans (hb_10.mono q0_9.size)
  have qSP_10 := qSP_9.trans (hb_10.mono qSP_9.size)
  have qTx_10 := qTx_9.trans (hb_10.mono qTx_9.size)
  have qTp_10 := qTp_9.trans (hb_10.mono qTp_9.size)
  have qSG_10 := qSG_9.trans (hb_10.mono qSG_9.size)
  have A_10 := keepHeap hb_10 A_9
  have X_10 := keepHeap hb_10 X_9
  have sz_10 := hb_10.size
  clear q0_9 qSP_9 qTx_9 qTp_9 qSG_9 A_9 X_9
  clear hb_10
  have qZ_10 : Below w_10.heap.size w_10 w_10 := Below.refl _ _
  obtain ⟨az, cz, rfl, -⟩ := id oz.rd
  go_wp2_with (fail)
  refine (eqTrackS_rows (ox.rd.keep qTx_10) (oz.rd.keep qZ_10) hf.1 hf.2).mono ?_
  rintro e w_11 ⟨rfl, hb_11⟩
  have q0_11 := q0_10.trans (hb_11.mono q0_10.size)
  have qSP_11 := qSP_10.trans (hb_11.mono qSP_10.size)
  have qTx_11 := qTx_10.trans (hb_11.mono qTx_10.size)
  have qTp_11 := qTp_10.trans (hb_11.mono qTp_10.size)
  have qSG_11 := qSG_10.trans (hb_11.mono qSG_10.size)
  have qZ_11 := qZ_10.trans (hb_11.mono qZ_10.size)
  have A_11 := keepHeap hb_11 A_10
  have X_11 := keepHeap hb_11 X_10
  have sz_11 := hb_11.size
  clear q0_10 qSP_10 qTx_10 qTp_10 qSG_10 qZ_10 A_10 X_10
  clear hb_11
  clear oz kz qZ_11
  have cA_11 := rowCells A_11
  have cX_11 := rowCells X_11
  go_wp2_with (fail)
  have rp := (hp0.keep q0_11)
  have rx := (rdp.keep qTp_11)
  go_region_held3 (fun w' => (∀ j, w'.cell? ⟨w.heap.size, j, none⟩ = #[Value.int .i64 p.fr, .int .i64 p.tick, .int .i64 p.first, .slice aiA p.ins.length ciA, .slice aaA p.acks.length caA, .int .i64 p.sumTick, .int .i64 p.sum, .int .i64 p.time, .int .i64 p.echo][j]?) ∧ (∀ j, w'.cell? ⟨w_6.heap.size, j, none⟩ = #[Value.int .i64 p.fr, .int .i64 p.tick, .int .i64 p.first, .slice aiX p.ins.length ciX, .slice aaX p.acks.length caX, .int .i64 p.sumTick, .int .i64 p.sum, .int .i64 p.time, .int .i64 p.echo][j]?)) (first | go_keep | (exact ⟨cA8, cX8⟩) | exact ⟨cA9, cX9⟩)
    (first
    | (go_at_call 30; refine (hpk (RdP.keep rp (belowDrew _ 1))).mono ?_; rintro e w8 ⟨vi8, va8, rfl, o8, -, p8, -, hb8⟩; have hA8 := keepHeap hb8 (keepHeap (belowDrew _ 1) A_11); have hX8 := keepHeap hb8 (keepHeap (belowDrew _ 1) X_11); have cA8 := rowCells hA8; have cX8 := rowCells hX8; have rd8 : RdP w8 p vi8 va8 := ⟨o8.rd, p8.rd⟩; obtain ⟨ai8, ci8, rfl, -⟩ := id o8.rd; obtain ⟨aa8, ca8, rfl, -⟩ := id p8.rd; have rdx8 := (RdP.keep rx (belowDrew _ 1)).keep hb8; have hb18 := (belowDrew w_11 1).trans (hb8.mono (by simp)))
    | (go_at_call 23; refine (heqp rdx8 rd8).mono ?_; rintro e w9 ⟨rfl, hb9⟩; have cA9 := rowCells (keepHeap hb9 hA8); have cX9 := rowCells (keepHeap hb9 hX8); have hb19 := hb18.trans (hb9.mono hb18.size)))
  clear rp rx cA8 cX8 cA9 cX9 hA8 hX8 hb9 hb18 rdx8 rd8 o8 p8 hb8
  have q0_12 := q0_11.trans (hb19.mono q0_11.size)
  have qSP_12 := qSP_11.trans (hb19.mono qSP_11.size)
  have qTx_12 := qTx_11.trans (hb19.mono qTx_11.size)
  have qTp_12 := qTp_11.trans (hb19.mono qTp_11.size)
  have qSG_12 := qSG_11.trans (hb19.mono qSG_11.size)
  have A_12 := keepHeap hb19 A_11
  have X_12 := keepHeap hb19 X_11
  have sz_12 := hb19.size
  clear q0_11 qSP_11 qTx_11 qTp_11 qSG_11 A_11 X_11 cA_11 cX_11
  clear hb19
  go_wp2_with (fail)
  have mx : MkR w9 wP.heap.size w_5.heap.size (.slice ax X.length cx) X := (MkR.of_wr ox).ch (IntCh.of_below qTx_12 (by omega))
  have mki := mki.ch (IntCh.of_below (B := w_5.heap.size) (T := w_6.heap.size) qTp_12 (by omega))
  have mka := mka.ch (IntCh.of_below (B := w_5.heap.size) (T := w_6.heap.size) qTp_12 (by omega))
  have mg := oG.keep qSG_12
  clear ox kx oi oq rdp oG rdG qTx_12 qTp_12 qSG_12
  obtain ⟨K, hK⟩ : ∃ K : Nat, (K : Int) = 1 + (totalR X : Int) := ⟨1 + totalR X, by omega⟩
  refine (markTrackS_F mx hf.1 hT 1 (by omega) (by omega)).mono ?_
  rintro e w_13 ⟨rfl, far_13⟩
  have q0_13 := q0_12.trans (far_13.1.mono (by omega))
  have qSP_13 := qSP_12.trans (far_13.1.mono (by omega))
  have A_13 := keepHeapFar far_13 A_12 (by omega)
  have X_13 := keepHeapFar far_13 X_12 (by omega)
  have mg := mg.apart2 far_13 (.inl (by omega))
  have mki := mki.afar far_13 (by omega)
  have mka := mka.afar far_13 (by omega)
  have sz_13 := far_13.1.size
  clear q0_12 qSP_12 A_12 X_12 far_13
  rw [← hK]
  have hK2 : (K : Int) ≤ 2097152 := by omega
  have hK3 : (0 : Int) ≤ (K : Int) := by omega
  clear mx hK
  have cX_13 := rowCells X_13
  go_wp2_with (fail)
  refine (hmp mki mka (by omega) (by omega) (K : Int) hK3 hK2).mono ?_
  rintro e w_14 ⟨rfl, far_14⟩
  have q0_14 := q0_13.trans (far_14.1.mono (by omega))
  have qSP_14 := qSP_13.trans (far_14.1.mono (by omega))
  have A_14 := keepHeapFar far_14 A_13 (by omega)
  have X_14 := keepHeapFar far_14 X_13 (by omega)
  have mg := mg.apart2 far_14 (.inl (by omega))
  have sz_14 := far_14.1.size
  clear q0_13 qSP_13 A_13 X_13 cX_13 far_14
  have zk : decide ((K : Int) + (p.ins.length : Int) + (p.acks.length : Int) < 0) = false := by simp; omega
  clear mki mka
  go_wp2_with (fail)
  refine (heq mg.rd (rdP.keep qSP_14)).mono ?_
  rintro e w_15 ⟨rfl, hb_15⟩
  have q0_15 := q0_14.trans (hb_15.mono q0_14.size)
  have qSP_15 := qSP_14.trans (hb_15.mono qSP_14.size)
  have A_15 := keepHeap hb_15 A_14
  have X_15 := keepHeap hb_15 X_14
  have sz_15 := hb_15.size
  clear q0_14 qSP_14 A_14 X_14
  have mg := mg.keep hb_15
  clear hb_15
  go_wp2_with (fail)
  refine (hmt mg).mono ?_
  rintro e w_16 ⟨rfl, mg, far_16⟩
  have q0_16 := q0_15.trans (far_16.1.mono (by omega))
  have qSP_16 := qSP_15.trans (far_16.1.mono (by omega))
  have A_16 := keepHeapFar far_16 A_15 (by omega)
  have X_16 := keepHeapFar far_16 X_15 (by omega)
  have sz_16 := far_16.1.size
  clear q0_15 qSP_15 A_15 X_15 far_16
  have zt : decide ((1 : Int) + (tY : Int) < 0) = false := by simp; omega
  go_wp2_with (fail)
  refine (hhd mg.rd).mono ?_
  rintro e w_x ⟨rfl, rfl⟩
  have qM_16 : Below w_16.heap.size w_16 w_16 := Below.refl _ _
  have cA_16 := rowCells A_16
  go_wp2_with (fail)
  have ra := (h0.keep q0_16)
  have rp := (hp0.keep q0_16)
  go_region_held3 (fun w' => (∀ j, w'.cell? ⟨w.heap.size, j, none⟩ = #[Value.int .i64 p.fr, .int .i64 p.tick, .int .i64 p.first, .slice aiA p.ins.length ciA, .slice aaA p.acks.length caA, .int .i64 p.sumTick, .int .i64 p.sum, .int .i64 p.time, .int .i64 p.echo][j]?)) (first | go_keep | (exact cA6H) | (exact cA7H) | (exact cA8H))
    (first
    | (go_at_call 21; refine (toTrackS_cap (RdR.keep ra (belowDrew _ 1)) hf.1 hf.2).mono ?_; rintro e w6H ⟨v6, rfl, o6, k6, hb6⟩; have hA6 := keepHeap hb6 (keepHeap (belowDrew _ 1) A_16); have cA6H := rowCells hA6; have rd6 := o6.rd; obtain ⟨a6, c6, rfl, -⟩ := id rd6; have hb16 := (belowDrew w_16 1).trans (hb6.mono (by simp)); have rp6 := RdP.keep rp hb16)
    | (go_at_call 30; refine (hpk rp6).mono ?_; rintro e w7H ⟨vi7, va7, rfl, o7, ci7, p7, ca7, hb7⟩; have hA7 := keepHeap hb7 hA6; have cA7H := rowCells hA7; have rd7 : RdP w7H p vi7 va7 := ⟨o7.rd, p7.rd⟩; obtain ⟨ai7, ci7', rfl, -⟩ := id o7.rd; obtain ⟨aa7, ca7', rfl, -⟩ := id p7.rd; have rd67 := rd6.keep hb7; have k67 := k6.keep hb7; have hb17 := hb16.trans (hb7.mono hb16.size))
    | (go_at_call 31; refine (himpl rd67 k67 rd7 ci7).mono ?_; rintro e wH ⟨vH, rfl, oH, hb8⟩; have rdH := oH.rd; obtain ⟨aH, cH, rfl, -⟩ := id rdH; have cA8H := rowCells (keepHeap hb8 hA7); have hb18 := hb17.trans (hb8.mono hb17.size)))
  clear ra rp cA6H cA7H cA8H hA6 hA7 hb6 hb7 hb8 hb16 hb17 rd6 rd7 rd67 k6 k67 o6 o7 p7 ci7 ca7 rp6
  have q0_17 := q0_16.trans (hb18.mono q0_16.size)
  have qSP_17 := qSP_16.trans (hb18.mono qSP_16.size)
  have qM_17 := qM_16.trans (hb18.mono qM_16.size)
  have A_17 := keepHeap hb18 A_16
  have X_17 := keepHeap hb18 X_16
  have sz_17 := hb18.size
  clear q0_16 qSP_16 qM_16 A_16 X_16 cA_16
  clear hb18
  have qSH_17 : Below wH.heap.size wH wH := Below.refl _ _
  clear oH
  go_wp2_with (fail)
  refine (heq (rdH.keep qSH_17) (rdP.keep qSP_17)).mono ?_
  rintro e w_18 ⟨rfl, hb_18⟩
  have q0_18 := q0_17.trans (hb_18.mono q0_17.size)
  have qSP_18 := qSP_17.trans (hb_18.mono qSP_17.size)
  have qM_18 := qM_17.trans (hb_18.mono qM_17.size)
  have qSH_18 := qSH_17.trans (hb_18.mono qSH_17.size)
  have A_18 := keepHeap hb_18 A_17
  have X_18 := keepHeap hb_18 X_17
  have sz_18 := hb_18.size
  clear q0_17 qSP_17 qM_17 qSH_17 A_17 X_17
  clear hb_18
  go_wp2_with (fail)
  refine (hhd (mg.rd.keep qM_18)).mono ?_
  rintro e w_x ⟨rfl, rfl⟩
  go_wp2_with (fail)
  go_ret
  exact ⟨rfl, q0_18⟩
end Go.Proofs.Ytnjjpeblbfomoaa
