/-
  Texts of this proof: TkS4.
-/
import Derived.Test.YtnlonkkbjkfkmaaGreatDoorM42
import Derived.Laws.CopyOwn
namespace Go.Proofs.YtnlonkkbjkfkmaaGreatDoor
open Go.RowKit
set_option linter.all false
set_option maxRecDepth 100000 in
set_option maxHeartbeats 16000000 in
theorem hits_spec {w : World} {T p : Nat} {x : Wd} {vl vs vb : Value} (h : BxW w T p x vl vs vb) (hf : FineX x) :
  Calls Tryz.prog 221 #[.pointer (some ⟨p, 0, none⟩)] w (RetBx w T p (meetX 2 (meetX 1 x)) vl vs vb) := by
 have HME := Lib.hid (meets_eq hf)
 have HFX := Lib.hid hf
 obtain ⟨hL, hn, hSc, hFi⟩ := hf
 have hN24 := hFi.2.1
 have hN1 := hFi.1
 have hT := Nat.le_of_lt h.low
 obtain ⟨g, cap, e0, hTg, hgw, hcap⟩ := h.2.2.2.2.shape (by omega)
 subst e0
 obtain ⟨gs, cs, e0, hTs, hgs, hcs⟩ := h.2.2.2.1.shape (by omega)
 subst e0
 obtain ⟨N, hNN⟩ : ∃ N, N = x.bods.length := ⟨_, rfl⟩
 obtain ⟨n, hnn⟩ : ∃ n, n = x.scores.length := ⟨_, rfl⟩
 rw [← hNN] at h hN24 hN1 hcap ⊢
 rw [← hnn] at h hN1 hn hcs hFi hSc ⊢
 have HNN := Lib.hid hNN
 have Hnn := Lib.hid hnn
 have hPp := h.1
 unfold wdC at hPp
 have cP := rowCells hPp
 have hz0 := below1 w (.cells #[] 100)
 have cP0 := rowCells (keepHeap hz0 hPp)
 have hO0 := OwnRB.made0 w w.heap.size (Nat.le_refl _)
 have hk0 : RdBd (w.alloc (.cells #[] 100)) (.slice (some ⟨g, 0, none⟩) n cap) (x.bods.take n) := ((h.2.2.2.2.cut (m := n) (by omega)).own.rd).keep hz0
 have hsl := fun W => bd_low W g 0 N cap n (by omega)
 have hmk := fun W => run_make_bools W N (by omega)
 have hNi : (N : Int) ≤ 24 := by omega
 have hni : (n : Int) ≤ (N : Int) := by omega
 have hnc : (n : Int) ≤ (cap : Int) := by omega
 have hn4 : (n : Int) ≤ 4 := by omega
 have hlt : (x.bods.take n).length = n := by rw [List.length_take]; omega
 have HLT := Lib.hid hlt
 obtain ⟨PB, hPB⟩ : ∃ PB, PB = x.bods.take n := ⟨_, rfl⟩
 rw [← hPB] at hk0 HLT
 have HPB := Lib.hid hPB
 clear hNN hnn hlt hPB
 go_enter Tryz.func221, Tryz.ntmps221
 go_upto_region 2 with (at_builtin; refine app_bods rfl _ _ rfl w.heap.size _ [] rfl hO0 _ PB rfl hk0 (by simp; rw [HLT.out]; omega) hz0.size ?_; intro v1 w1 ho1 hb1; rw [List.nil_append] at ho1)
 have hb01 := hz0.trans (hb1.mono (Nat.le_refl _))
 obtain ⟨z, hzz⟩ : ∃ z, z = w1.heap.size := ⟨_, rfl⟩
 have hzw : w.heap.size ≤ z := by rw [hzz]; exact hb01.size
 obtain ⟨w3, hw3⟩ : ∃ w3, w3 = w1.alloc (.cells (boolC (List.replicate N false)) 4) := ⟨_, rfl⟩
 have hb13 : Below w1.heap.size w1 w3 := by rw [hw3]; exact below1 _ _
 have hb03 := hb01.trans (hb13.mono hb01.size)
 have ho3 := ho1.keep hb13 (Nat.le_refl _)
 have h3 := h.keep hb03 hT
 have hZ3 : w3.heap[z]? = some (.cells (boolC (List.replicate N false)) 4 (0, 0)) := by rw [hw3, hzz]; exact heap_alloc_new _ _
 obtain ⟨g1, cap1, e0, hTg1, hgw1, hcap1⟩ := ho3.shape (by rw [HLT.out]; omega)
 subst e0
 have hg1z : g1 ≠ z := by
  intro e
  exact ho3.notBox hZ3 (by decide) (by rw [e]; rfl)
 rw [HLT.out] at ho3 ho1 hcap1 ⊢
 have HR3 := Lib.hid (h1_start HFX.out Hnn.out HNN.out h3 hZ3)
 have cP1 := rowCells (keepHeap hb01 hPp)
 have hmk1 := hmk w1
 rw [← hzz, ← hw3] at hmk1
 have HO3 := Lib.hid ho3
 have HF3 : Hid (FrW T p (.slice (some ⟨gs, 0, none⟩) n cs) (.slice (some ⟨g, 0, none⟩) N cap) w w3) := Lib.hid (FrW.below hb03 hT)
 have hzT : T ≤ z := by omega
 have hzp : z ≠ p := by have := h.lt; omega
 have hzg : z ≠ g := by omega
 have hzs : z ≠ gs := by omega
 have hz3 : z < w3.heap.size := (Array.getElem?_eq_some_iff.1 hZ3).1
 have Hpw := Lib.hid h.lt
 clear ho3 ho1 hzz hw3 h3 hZ3 hmk hz0 cP0 hO0 hk0 hb13 hb1 hb01 h hPp hb03 cP
 go_upto_region 3 with (fail)
 go_wp2_with (fail)
 go_loopw [5] (fun i wr => ∃ j : Nat, n ≤ j ∧ j ≤ N ∧ i = .int .i64 (j : Int) ∧ H1R w3 T p x vl (.slice (some ⟨gs, 0, none⟩) n cs) g N cap n z j wr) (fun i _ => N - (intOf i).toNat)
 case atStart => exact ⟨n, Nat.le_refl _, hN1, rfl, HR3.out⟩
 case round =>
  obtain ⟨j, hnj, hjN, rfl, hR⟩ := hrel
  have HR := Lib.hid hR
  by_cases hjl : j < N
  ·obtain ⟨S, F, L, hH⟩ := hR
   have HH := Lib.hid hH
   obtain ⟨-, -, hFj, hLN, hLd, hFL, hSS, hBr, hFr, hZr⟩ := hH
   have hjx : j < x.bods.length := by have := HNN.out; omega
   have hjL : j < L.length := by omega
   have hLj : L[j] = x.bods[j] := by
    have e1 := congrArg (fun l => l[j - n]?) hLd
    simp only [List.getElem?_drop] at e1
    rw [show n + (j - n) = j by omega, List.getElem?_eq_getElem hjL, List.getElem?_eq_getElem hjx] at e1
    exact Option.some.inj e1
   have hc0 := (hBr.2.2.2.2.body hjL).1
   rw [hLj] at hc0
   obtain ⟨hfit, -, -⟩ := hFi.2.2 j hjx
   obtain ⟨o, ho, hon⟩ := fine_owner hfit
   have HKE := Lib.hid (fun (w2 : World) hb hB => h1_none (w2 := w2) HH.out HNN.out hjx hb hB)
   have HAC := Lib.hid (fun (w2 : World) (q : PtS) hb hB hF hz => h1_some (w2 := w2) (q := q) HH.out HNN.out hjx hb hB hF hz)
   have hfl := flag_at (n := n) (N := N) hFj hjl
   have hfz : j < (boolC (List.replicate n false ++ F ++ List.replicate (N - j) false)).size := by
    rcases Array.getElem?_eq_some_iff.1 hfl with ⟨h, -⟩; exact h
   generalize boolC (List.replicate n false ++ F ++ List.replicate (N - j) false) = fl at *
   generalize x.bods[j] = c at *
   obtain ⟨d0, d1, d2, d3, d4, d5, d6, d7, d8⟩ := cells9 hc0
   have hPr := hBr.1
   unfold wdC at hPr
   dsimp only at hPr
   have cPr := rowCells hPr
   have hTr := Nat.le_of_lt hBr.low
   have hji : (j : Int) < (N : Int) := by omega
   have hnL : n ≤ L.length := by omega
   have hL24 : L.length ≤ 24 := by omega
   have hrz := hFr.1.size
   have hzr : z < wr.heap.size := (Array.getElem?_eq_some_iff.1 hZr).1
   obtain ⟨W6, hW6, hA6⟩ : ∃ W6, W6 = wr.alloc (.cells #[.int .i64 c.kind, .int .i64 c.owner, .int .i64 c.x, .int .i64 c.y, .int .i64 c.vx, .int .i64 c.vy, .int .i64 c.aim, .int .i64 c.life, .int .i64 c.timer] 100) ∧ W6.heap[wr.heap.size]? = some (.cells #[.int .i64 c.kind, .int .i64 c.owner, .int .i64 c.x, .int .i64 c.y, .int .i64 c.vx, .int .i64 c.vy, .int .i64 c.aim, .int .i64 c.life, .int .i64 c.timer] 100 (0, 0)) := ⟨_, rfl, heap_alloc_new wr _⟩
   have hba : Below wr.heap.size wr W6 := by rw [hW6]; exact below1 _ _
   have cA6 := rowCells hA6
   have hME := meets_spec (hBr.keep hba hTr) (by show S.length ≤ L.length; rw [hSS.1]; exact hnL) hL24 c c.owner
   rw [show (⟨x.rows, x.tick, x.seed, S, L⟩ : Wd).scores.length = n from hSS.1] at hME
   by_cases hke : c.kind = 1
   ·have z1 : ((c.kind : Int) != 1) = false := by simpa using hke
    have HE := act1_hit (q := (L.take n, S)) hke
    cases hm : metF c c.owner (L.take n) 0 with
    | none =>
     have HA : Hid (act1 1 c (L.take n, S) = none) := Lib.hid (by rw [HE]; dsimp only; rw [hm]; rfl)
     have hcall : Calls Tryz.prog 253 #[.pointer (some ⟨p, 0, none⟩), .agg #[.int .i64 c.kind, .int .i64 c.owner, .int .i64 c.x, .int .i64 c.y, .int .i64 c.vx, .int .i64 c.vy, .int .i64 c.aim, .int .i64 c.life, .int .i64 c.timer], .int .i64 c.owner] W6 fun e w' => e = .returned (.int .i64 (-1)) ∧ Below W6.heap.size W6 w' := by
      have := hME
      rw [hm] at this
      exact this
     have HW6 := Lib.hid hW6
     clear hke hm HE hME hc0 hLj hLd hFL hSS hBr hFr hfit ho hLN hjL hnL hL24 hfl hfz hZr hW6
     go_upto_region 7 with (fail)
     rw [← HW6.out]
     go_wp2_with (go_at_call 253; refine hcall.mono ?_; rintro e w8 ⟨rfl, hb8⟩)
     go_roundw
     case rel => exact ⟨j + 1, by omega, by omega, by go_num, HKE.out _ HA.out (hba.trans (hb8.mono hba.size))⟩
     case measure => simp [intOf]; omega
    | some v =>
     obtain ⟨-, hv, hlw, -⟩ := metF_in _ 0 v hm
     simp only [Nat.sub_zero] at hv hlw
     obtain ⟨hvL, hvn, hve⟩ := take_at hv
     have hlv : 0 < (L[v]'hvL).life := by rw [hve] at hlw; exact hlw
     have hl3 := fine_life hFL v hvL hlv
     have HQ : Hid ((hit1 c v (L.take n, S)).1 ++ L.drop n = L.set v (hurtB L[v]) ∧ (hit1 c v (L.take n, S)).2 = if L[v].life - 1 = 0 then awd S o else S) := Lib.hid (hit_eq (c := c) (S := S) hvn hnL rfl ho)
     have HA : Hid (act1 1 c (L.take n, S) = some (hit1 c v (L.take n, S))) := Lib.hid (by rw [HE]; dsimp only; rw [hm]; rfl)
     have hcall : Calls Tryz.prog 253 #[.pointer (some ⟨p, 0, none⟩), .agg #[.int .i64 c.kind, .int .i64 c.owner, .int .i64 c.x, .int .i64 c.y, .int .i64 c.vx, .int .i64 c.vy, .int .i64 c.aim, .int .i64 c.life, .int .i64 c.timer], .int .i64 c.owner] W6 fun e w' => e = .returned (.int .i64 (v : Int)) ∧ Below W6.heap.size W6 w' := by
      have := hME
      rw [hm] at this
      exact this
     have HW6 := Lib.hid hW6
     have HO := Lib.hid ho
     have HSL := Lib.hid hSS.1
     have hoS : o < S.length := by rw [hSS.1]; exact hon
     have hsS := hSS.2 o hoS
     have hS4 : S.length ≤ 4 := by rw [hSS.1]; omega
     have hvN : v < N := by omega
     have hvi : (v : Int) < (N : Int) := by omega
     have z3 : ¬ ((v : Int) < 0) := by omega
     have HLN := Lib.hid hLN
     clear hke hm HE hME hc0 hLj hLd hfit ho hLN hjL hlw hve hv hnL hW6 HKE
     go_upto_region 7 with (fail)
     rw [← HW6.out]
     go_upto_region 10 with (go_at_call 253; refine hcall.mono ?_; rintro e w8 ⟨rfl, hb8⟩)
     have hb68 := hba.trans (hb8.mono hba.size)
     have h8 := hBr.keep hb68 hTr
     have hZ8 := keepHeap hb68 hZr
     have hA8 := keepHeap hb8 hA6
     have cZ8 : w8.cell? ⟨z, j, none⟩ = some (.bool false) := by rw [rowCells hZ8 j]; exact hfl
     have fZ8 := fun k => frozenHeap hZ8 k
     clear cA6 d0 d1 d2 d3 d4 d5 d6 d7 d8 cPr
     go_upto_region 11 with (fail)
     obtain ⟨W9, hW9⟩ : ∃ W9, W9 = w8.setCell ⟨z, j, none⟩ (.bool true) := ⟨_, rfl⟩
     have h9 := h8.aside hzT hzp (by intro e; exact hzs (Option.some.inj e).symm) (by intro e; exact hzg (Option.some.inj e).symm) j (.bool true)
     have hF9 := (hFr.fr (FrW.below hb68 hTr)).put hzT j (.bool true)
     have hZ9 := setHeap (k := j) (v := .bool true) hZ8
     have hA9 := farHeap (p := ⟨z, j, none⟩) hA8 (by show wr.heap.size ≠ z; omega) (.bool true)
     rw [← hW9] at h9 hF9 hZ9 hA9 ⊢
     obtain ⟨h11, hF11⟩ := h9.fld HLN.out.symm hvL (i := 7) (by omega) (L[v].life - 1)
     have hgr : g < wr.heap.size := (World.ownsRow.lt hBr.2.2.2.2 g rfl).2
     have hA11 := farHeap (p := ⟨g, v * 9 + 7, none⟩) hA9 (by show wr.heap.size ≠ g; omega) (.int .i64 (L[v].life - 1))
     have hZ11 := farHeap (p := ⟨g, v * 9 + 7, none⟩) hZ9 hzg (.int .i64 (L[v].life - 1))
     rw [show (⟨x.rows, x.tick, x.seed, S, L⟩ : Wd).bods.getD v b00 = L[v] from getD_at hvL] at h11
     dsimp only at h11
     have cP9 := rowCells h9.1
     obtain ⟨hr9, ht9⟩ := h9.2.2.2.2.body hvL
     have hr9 : W9.rangeAt g (v * 9) (bdL L[v]) := hr9
     obtain ⟨q, hq⟩ : ∃ q, q = L[v] := ⟨_, rfl⟩
     rw [← hq] at h11 hF11 hA11 hZ11 hr9 hlv HQ hl3
     obtain ⟨d0, d1, d2, d3, d4, d5, d6, d7, d8⟩ := cells9 hr9
     obtain ⟨f0, f1, f2, f3, f4, f5, f6, f7, f8⟩ := free9 ht9
     unfold wdC at cP9
     dsimp only at cP9
     clear hq hr9 ht9 hA8 hA9 hA6 hZ8 hZ9 cZ8 fZ8 hW9 h8 h9
     go_upto_region 12 with (fail)
     obtain ⟨W11, hW11⟩ : ∃ W11, W11 = W9.setCell ⟨g, v * 9 + 7, none⟩ (.int .i64 (q.life - 1)) := ⟨_, rfl⟩
     rw [← hW11] at h11 hF11 hA11 hZ11 ⊢
     have hF911 := hF9.fr hF11
     have cP11 := rowCells h11.1
     have hvx : v < (L.set v (q.set 7 (q.life - 1))).length := by rw [List.length_set]; exact hvL
     have hr11 := (h11.2.2.2.2.body hvx).1
     dsimp only at hr11
     rw [List.getElem_set_self] at hr11
     have d7' : W11.cell? ⟨g, v * 9 + 7, none⟩ = some (.int .i64 (q.life - 1)) := hr11 7 _ rfl
     have cA11 := rowCells hA11
     unfold wdC at cP11
     dsimp only at cP11
     clear d0 d1 d2 d3 d4 d5 d6 d7 d8 f0 f1 f2 f3 f4 f5 f6 f7 f8 cP9 hr11 hW11
     by_cases hz : q.life - 1 = 0
     ·have z2 : ((q.life - 1 : Int) == 0) = true := by simpa using hz
      have hAW : Calls Tryz.prog 254 #[.pointer (some ⟨p, 0, none⟩), .int .i64 c.owner] W11 (RetAw W11 T p ⟨x.rows, x.tick, x.seed, S, L.set v (q.set 7 (q.life - 1))⟩ vl (.slice (some ⟨gs, 0, none⟩) n cs) (.slice (some ⟨g, 0, none⟩) N cap) o) := by rw [HO.out]; exact point_spec h11 o hoS hsS hS4
      have HZ := Lib.hid hz
      clear hz
      go_upto_region 14 with (go_at_call 254; refine hAW.mono ?_; rintro e w13 ⟨rfl, h13, hF13⟩)
      have hvx13 : v < (L.set v (q.set 7 (q.life - 1))).length := hvx
      obtain ⟨h14, hF14⟩ := h13.fld (by show N = (L.set v _).length; rw [List.length_set, HLN.out]) (k := v) hvx (i := 4) (by omega) 0
      obtain ⟨h15, hF15⟩ := h14.fld (by show N = ((L.set v _).set v _).length; rw [List.length_set, List.length_set, HLN.out]) (k := v) (by show v < ((L.set v _).set v _).length; rw [List.length_set]; exact hvx) (i := 5) (by omega) 0
      obtain ⟨h16, hF16⟩ := h15.fld (by show N = (((L.set v _).set v _).set v _).length; rw [List.length_set, List.length_set, List.length_set, HLN.out]) (k := v) (by show v < (((L.set v _).set v _).set v _).length; rw [List.length_set, List.length_set]; exact hvx) (i := 8) (by omega) 20
      have hF := (((hF911.fr hF13).fr hF14).fr hF15).fr hF16
      have hZ13 := hF13.heap hZ11 hzp (by intro e; exact hzs (Option.some.inj e).symm) (by intro e; exact hzg (Option.some.inj e).symm)
      have hZ16 := farHeap (p := ⟨g, v * 9 + 8, none⟩) (farHeap (p := ⟨g, v * 9 + 5, none⟩) (farHeap (p := ⟨g, v * 9 + 4, none⟩) hZ13 hzg (.int .i64 0)) hzg (.int .i64 0)) hzg (.int .i64 20)
      have HN := Lib.hid (HAC.out _ _ HA.out (bxOf h16 (by
       rw [HQ.out.1, HQ.out.2, if_pos HZ.out, ← hurt_0 HZ.out]
       simp only [List.set_set, set_getD hvL])) hF hZ16)
      obtain ⟨hr13, ht13⟩ := h13.2.2.2.2.body hvx
      dsimp only at hr13
      rw [List.getElem_set_self] at hr13
      have e4 := hr13 4 _ rfl
      have e5 := hr13 5 _ rfl
      have e8 := hr13 8 _ rfl
      have g4 := (ht13 4 (by omega)).2
      have g5 := (ht13 5 (by omega)).2
      have g8 := (ht13 8 (by omega)).2
      have cP13 := rowCells h13.1
      have hpg : p ≠ g := by intro e; exact h13.notP.2 (by rw [e]; rfl)
      have cP14 := rowCells h14.1
      have cP15 := rowCells h15.1
      unfold wdC at cP13 cP14 cP15
      dsimp only at cP13 cP14 cP15
      clear hr13 ht13 d7' cA11 cP11 h13 h14 h15 h16 hF13 hF14 hF15 hF16 hZ13 hZ16 hF
      go_wp2_with (fail)
      go_roundw
      case rel => exact ⟨j + 1, by omega, by omega, by go_num, HN.out⟩
      case measure => simp [intOf]; omega
     ·have z2 : ((q.life - 1 : Int) == 0) = false := by simpa using hz
      have HZ := Lib.hid hz
      clear hz
      have HN := Lib.hid (HAC.out _ _ HA.out (bxOf h11 (by
       rw [HQ.out.1, HQ.out.2, if_neg HZ.out, ← hurt_1 HZ.out])) hF911 hZ11)
      go_wp2_with (fail)
      go_roundw
      case rel => exact ⟨j + 1, by omega, by omega, by go_num, HN.out⟩
      case measure => simp [intOf]; omega
   ·have z1 : ((c.kind : Int) != 1) = true := by simpa using hke
    have HA := Lib.hid (act_off (q := (L.take n, S)) hke)
    have HW6 := Lib.hid hW6
    clear hke hME hc0 hLj hLd hFL hSS hBr hFr hfit ho hLN hjL hnL hL24 hfl hfz hZr hW6
    go_upto_region 7 with (fail)
    rw [← HW6.out]
    go_wp2_with (fail)
    go_roundw
    case rel => exact ⟨j + 1, by omega, by omega, by go_num, HKE.out _ HA.out hba⟩
    case measure => simp [intOf]; omega
  ·have hje : j = x.bods.length := by have := HNN.out; omega
   have HS2 := Lib.hid (h2_start HR.out HFX.out Hnn.out HNN.out hje)
   obtain ⟨S, F, L, -, -, -, hLN, -, -, hSS, hBr, hFr, -⟩ := hR
   have hPr := hBr.1
   unfold wdC at hPr
   dsimp only at hPr
   have cPr := rowCells hPr
   have hnl : ¬ (j : Int) < (N : Int) := by omega
   clear hje hLN hSS hBr hFr hPr
   go_wp2_with (fail)
   clear cPr hnl
   go_loopw [8] (fun i wr => ∃ j : Nat, n ≤ j ∧ j ≤ N ∧ i = .int .i64 (j : Int) ∧ H2R w3 T p x vl (.slice (some ⟨gs, 0, none⟩) n cs) g N cap n z j wr) (fun i _ => N - (intOf i).toNat)
   case atStart => exact ⟨n, Nat.le_refl _, hN1, rfl, HS2.out⟩
   case round =>
    clear HS2 HR
    obtain ⟨j2, hnj, hjN, rfl, hR⟩ := hrel
    have HR := Lib.hid hR
    by_cases hjl : j2 < N
    ·obtain ⟨S, G, L, hH⟩ := hR
     have HH := Lib.hid hH
     obtain ⟨-, -, hGj, hLN, hLd, hFL, hSS, hBr, hFr, hZr⟩ := hH
     have hjx : j2 < x.bods.length := by have := HNN.out; omega
     have hjL : j2 < L.length := by omega
     have hLj : L[j2] = x.bods[j2] := by
      have e1 := congrArg (fun l => l[j2 - n]?) hLd
      simp only [List.getElem?_drop] at e1
      rw [show n + (j2 - n) = j2 by omega, List.getElem?_eq_getElem hjL, List.getElem?_eq_getElem hjx] at e1
      exact Option.some.inj e1
     have hc0 := (hBr.2.2.2.2.body hjL).1
     rw [hLj] at hc0
     have HKE := Lib.hid (fun (w2 : World) hb hB => h2_none (w2 := w2) HH.out Hnn.out HNN.out hjx hb hB)
     have HAC := Lib.hid (fun (w2 : World) (q : PtS) hb hB hF hz => h2_some (w2 := w2) (q := q) HH.out Hnn.out HNN.out hjx hb hB hF hz)
     have hl2 := h2_lens (x := x) Hnn.out
     obtain ⟨ub, hfl⟩ : ∃ b : Bool, (boolC (List.replicate n false ++ orL ((hitsQ x).2.take (j2 - n)) G ++ (hitsQ x).2.drop (j2 - n)))[j2]? = some (.bool b) := ⟨_, flag3_at (k := j2 - n) (by unfold orL; rw [List.length_zipWith, List.length_take]; omega) (by rw [List.length_drop]; omega) (by omega)⟩
     have hfz : j2 < (boolC (List.replicate n false ++ orL ((hitsQ x).2.take (j2 - n)) G ++ (hitsQ x).2.drop (j2 - n))).size := by
      rcases Array.getElem?_eq_some_iff.1 hfl with ⟨h, -⟩; exact h
     generalize boolC (List.replicate n false ++ orL ((hitsQ x).2.take (j2 - n)) G ++ (hitsQ x).2.drop (j2 - n)) = fl at *
     generalize x.bods[j2] = c at *
     obtain ⟨d0, d1, d2, d3, d4, d5, d6, d7, d8⟩ := cells9 hc0
     have hPr := hBr.1
     unfold wdC at hPr
     dsimp only at hPr
     have cPr := rowCells hPr
     have hTr := Nat.le_of_lt hBr.low
     have hji : (j2 : Int) < (N : Int) := by omega
     have hnL : n ≤ L.length := by omega
     have hL24 : L.length ≤ 24 := by omega
     have hzr : z < wr.heap.size := (Array.getElem?_eq_some_iff.1 hZr).1
     have hME := fun {W : World} (hb : Below wr.heap.size wr W) => meets_spec (hBr.keep hb hTr) (by show S.length ≤ L.length; rw [hSS.1]; exact hnL) hL24 c (-1)
     rw [show (⟨x.rows, x.tick, x.seed, S, L⟩ : Wd).scores.length = n from hSS.1] at hME
     by_cases hke : c.kind = 2
     ·have z1 : ((c.kind : Int) != 2) = false := by simpa using hke
      have HE := act1_take (q := (L.take n, S)) hke
      cases hm : metF c (-1) (L.take n) 0 with
      | none =>
       have HA : Hid (act1 2 c (L.take n, S) = none) := Lib.hid (by rw [HE]; dsimp only; rw [hm]; rfl)
       have hcall : ∀ {W : World}, Below wr.heap.size wr W → Calls Tryz.prog 253 #[.pointer (some ⟨p, 0, none⟩), .agg #[.int .i64 c.kind, .int .i64 c.owner, .int .i64 c.x, .int .i64 c.y, .int .i64 c.vx, .int .i64 c.vy, .int .i64 c.aim, .int .i64 c.life, .int .i64 c.timer], .int .i64 (-1)] W fun e w' => e = .returned (.int .i64 (-1)) ∧ Below W.heap.size W w' := fun hb => by
        have := hME hb
        rw [hm] at this
        exact this
       clear hke hm HE hME hc0 hLj hLd hFL hSS hBr hFr hLN hjL hnL hL24 hfl hfz hZr
       go_wp2_with (go_at_call 253; refine (hcall (Below.refl _ _)).mono ?_; rintro e w8 ⟨rfl, hb8⟩)
       go_roundw
       case rel => exact ⟨j2 + 1, by omega, by omega, by go_num, HKE.out _ HA.out hb8⟩
       case measure => simp [intOf]; omega
      | some v =>
       obtain ⟨-, hv, -, -⟩ := metF_in _ 0 v hm
       simp only [Nat.sub_zero] at hv
       obtain ⟨hvL, hvn, -⟩ := take_at hv
       have HA : Hid (act1 2 c (L.take n, S) = some (L.take n, awd S v)) := Lib.hid (by rw [HE]; dsimp only; rw [hm]; rfl)
       have hcall : ∀ {W : World}, Below wr.heap.size wr W → Calls Tryz.prog 253 #[.pointer (some ⟨p, 0, none⟩), .agg #[.int .i64 c.kind, .int .i64 c.owner, .int .i64 c.x, .int .i64 c.y, .int .i64 c.vx, .int .i64 c.vy, .int .i64 c.aim, .int .i64 c.life, .int .i64 c.timer], .int .i64 (-1)] W fun e w' => e = .returned (.int .i64 (v : Int)) ∧ Below W.heap.size W w' := fun hb => by
        have := hME hb
        rw [hm] at this
        exact this
       have hoS : v < S.length := by rw [hSS.1]; exact hvn
       have hsS := hSS.2 v hoS
       have hS4 : S.length ≤ 4 := by rw [hSS.1]; omega
       have hvN : v < N := by omega
       have hvi : (v : Int) < (N : Int) := by omega
       have z3 : (0 : Int) ≤ (v : Int) := by omega
       have HLN := Lib.hid hLN
       clear hke hm HE hME hc0 hLj hLd hLN hjL hv hnL HKE
       go_upto_region 23 with (go_at_call 253; refine (hcall (Below.refl _ _)).mono ?_; rintro e w8 ⟨rfl, hb8⟩)
       have h8 := hBr.keep hb8 hTr
       have hZ8 := keepHeap hb8 hZr
       have cZ8 : w8.cell? ⟨z, j2, none⟩ = some (.bool ub) := by rw [rowCells hZ8 j2]; exact hfl
       have fZ8 := fun k => frozenHeap hZ8 k
       clear d0 d1 d2 d3 d4 d5 d6 d7 d8 cPr
       go_upto_region 24 with (fail)
       obtain ⟨W9, hW9⟩ : ∃ W9, W9 = w8.setCell ⟨z, j2, none⟩ (.bool true) := ⟨_, rfl⟩
       have h9 := h8.aside hzT hzp (by intro e; exact hzs (Option.some.inj e).symm) (by intro e; exact hzg (Option.some.inj e).symm) j2 (.bool true)
       have hF9 := (hFr.fr (FrW.below hb8 hTr)).put hzT j2 (.bool true)
       have hZ9 := setHeap (k := j2) (v := .bool true) hZ8
       rw [← hW9] at h9 hF9 hZ9 ⊢
       have hAW := point_spec h9 v hoS hsS hS4
       clear hZ8 cZ8 fZ8 hW9 h8 h9
       go_wp2_with (go_at_call 254; refine hAW.mono ?_; rintro e w13 ⟨rfl, h13, hF13⟩)
       have hZ13 := hF13.heap hZ9 hzp (by intro e; exact hzs (Option.some.inj e).symm) (by intro e; exact hzg (Option.some.inj e).symm)
       have HN := Lib.hid (HAC.out _ _ HA.out (bxOf h13 (by dsimp only; rw [List.take_append_drop])) (hF9.fr hF13) hZ13)
       go_roundw
       case rel => exact ⟨j2 + 1, by omega, by omega, by go_num, HN.out⟩
       case measure => simp [intOf]; omega
     ·have z1 : ((c.kind : Int) != 2) = true := by simpa using hke
      have HA := Lib.hid (act_off (q := (L.take n, S)) hke)
      clear hke hME hc0 hLj hLd hFL hSS hBr hFr hLN hjL hnL hL24 hfl hfz hZr
      go_wp2_with (fail)
      go_roundw
      case rel => exact ⟨j2 + 1, by omega, by omega, by go_num, HKE.out _ HA.out (Below.refl _ _)⟩
      case measure => simp [intOf]; omega
    ·have hje : j2 = N := by omega
     obtain ⟨L, hLt, hLd, hLN, hBr, hFr, hZr⟩ := h2_end hR Hnn.out HNN.out hje hN1
     have hnl : ¬ (j2 : Int) < (N : Int) := by omega
     clear hR HR hje
     have hPr := hBr.1
     unfold wdC at hPr
     dsimp only at hPr
     have cPr := rowCells hPr
     have hTr := Nat.le_of_lt hBr.low
     have hw3r := hFr.1.size
     have hO1 : OwnRB wr w.heap.size (.slice (some ⟨g1, 0, none⟩) n cap1) PB := HO3.out.held (fun b hb => by
      obtain rfl := Option.some.inj hb
      exact hFr.2 g1 hgw1 (by intro e; have := Hpw.out; omega) (by intro e; have := Option.some.inj e; simp at this; omega) (by intro e; have := Option.some.inj e; simp at this; omega) hg1z)
     have hnL : n ≤ L.length := by omega
     have hcp : ∀ j u, ((L.take n).map bdL).flatten[j]? = some u → wr.cell? ⟨g, j, none⟩ = some u := fun j u hj => by
      have := World.ownsRow.cells (hBr.2.2.2.2.cut (m := n) hnL) (g := g) rfl j u hj
      rw [Addr.add_lit, Nat.zero_add] at this
      exact this
     have hlt : (L.take n).length = n := by rw [List.length_take]; omega
     obtain ⟨w5, hrun, ho5, hb5, hf5⟩ := run_copy_bods hO1 HLT.out (c2 := cap) hcp hlt
     clear hO1 hcp
     go_upto_region 26 with (fail)
     have hpg1 : p ≠ g1 := by have := Hpw.out; omega
     have hzr5 : w5.heap[z]? = wr.heap[z]? := hf5 z (Ne.symm hg1z)
     have hZ5 : w5.heap[z]? = some (.cells (boolC (List.replicate n false ++ orL (hitsQ x).2 (takesQ x).2)) 4 (0, 0)) := by rw [hzr5]; exact hZr
     have HF5 : Hid (FrW T p (.slice (some ⟨gs, 0, none⟩) n cs) (.slice (some ⟨g, 0, none⟩) N cap) w wr) := Lib.hid (FrZ.frW HF3.out hFr (by omega))
     obtain ⟨FL, hFLq⟩ : ∃ FL, FL = orL (hitsQ x).2 (takesQ x).2 := ⟨_, rfl⟩
     obtain ⟨O, hOq⟩ : ∃ O, O = x.bods.drop n := ⟨_, rfl⟩
     have hFLl : FL.length = N - n := by
      have h1 := h2_lens (x := x) Hnn.out
      have h2 : (takesQ x).2.length = x.bods.length - n := by unfold takesQ; rw [gon_len, List.length_drop, Hnn.out]
      rw [hFLq]; unfold orL; rw [List.length_zipWith]; have := HNN.out; omega
     have hOl : O.length = N - n := by rw [hOq, List.length_drop]; have := HNN.out; omega
     rw [← hFLq] at hZ5
     have HS3 := Lib.hid (h3_start (w3 := w5) (O := O) ho5 (Below.refl _ _) hZ5)
     have HEQ : Hid (meetX 2 (meetX 1 x) = ⟨x.rows, x.tick, x.seed, (takesQ x).1.2, L.take n ++ filt O FL⟩) := Lib.hid (by rw [HME.out, hFLq, hOq, hLt, ← Hnn.out])
     have hpw := Hpw.out
     have h5 := hBr.keepAt hb5 hT hpw (by intro k e; obtain rfl := Option.some.inj e; exact hgs) (by intro k e; obtain rfl := Option.some.inj e; exact hgw)
     have hF6 := Lib.hid (HF5.out.up hT hb5)
     have hw5 : w.heap.size ≤ w5.heap.size := by have := HF5.out.size; have := hb5.size; omega
     have HFLl := Lib.hid hFLl
     have HOl := Lib.hid hOl
     have HLN := Lib.hid hLN
     have hLO : ∀ k (hk : k < L.length) (hk2 : k - n < O.length), n ≤ k → L[k] = O[k - n] := by
      intro k hk hk2 hnk
      have e1 := congrArg (fun l => l[k - n]?) (hLd.trans hOq.symm)
      simp only [List.getElem?_drop] at e1
      rw [show n + (k - n) = k by omega, List.getElem?_eq_getElem hk, List.getElem?_eq_getElem hk2] at e1
      exact Option.some.inj e1
     have HLO := Lib.hid hLO
     have HLT2 := Lib.hid hlt
     clear hLt hLd hZr hPr hnl hzr5 hZ5 hFLq hOq hFLl hOl hLN hLO hlt hrun hnL HF5 hBr hb5 hf5 hFr hTr hw3r HO3 HR3 hmk1 cP1 hsl HPB HME
     go_wp2_with (fail)
     clear cPr
     go_loopw [3, 10] (fun v i wr2 => ∃ j : Nat, n ≤ j ∧ j ≤ N ∧ i = .int .i64 (j : Int) ∧ H3R w5 w.heap.size n z j (L.take n) O FL v wr2) (fun _ i _ => N - (intOf i).toNat)
     case atStart => exact ⟨n, Nat.le_refl _, hN1, rfl, HS3.out⟩
     case round =>
      clear HS3 ho5
      obtain ⟨j3, hnj, hjN, rfl, hR⟩ := hrel
      have HR := Lib.hid hR
      obtain ⟨hov, hbv, hZv⟩ := hR
      have hr5 := h5.keepAt hbv hT Hpw.out (by intro k e; obtain rfl := Option.some.inj e; exact hgs) (by intro k e; obtain rfl := Option.some.inj e; exact hgw)
      have hPr := hr5.1
      unfold wdC at hPr
      dsimp only at hPr
      have cPr := rowCells hPr
      have hwr : w.heap.size ≤ wr.heap.size := by have := hbv.size; omega
      by_cases hjl : j3 < N
      ·have hjL : j3 < L.length := by have := HLN.out; omega
       have hkO : j3 - n < O.length := by have := HOl.out; omega
       have hkF : j3 - n < FL.length := by have := HFLl.out; omega
       have cZ := rowCells hZv j3
       rw [flag2_at (n := n) hkF (by omega)] at cZ
       have hji : (j3 : Int) < (N : Int) := by omega
       by_cases hfk : FL[j3 - n] = true
       ·have HN := Lib.hid (h3_gone HR.out hnj rfl hkO hkF hfk)
        rw [hfk] at cZ
        clear hov hZv hr5 hPr hkO hkF hfk
        go_wp2_with (fail)
        go_roundw
        case rel => exact ⟨j3 + 1, by omega, by omega, by go_num, HN.out⟩
        case measure => simp [intOf]; omega
       ·have hff : FL[j3 - n] = false := by simpa using hfk
        have hc0 := (hr5.2.2.2.2.body hjL).1
        have hb7 := below1 wr (.cells #[.int .i64 L[j3].kind, .int .i64 L[j3].owner, .int .i64 L[j3].x, .int .i64 L[j3].y, .int .i64 L[j3].vx, .int .i64 L[j3].vy, .int .i64 L[j3].aim, .int .i64 L[j3].life, .int .i64 L[j3].timer] 100)
        have ho7 := hov.keep hb7 (Nat.le_refl _)
        have hXl : (List.take n L ++ filt (List.take (j3 - n) O) (List.take (j3 - n) FL)).length + 1 ≤ 1048576 := by
         have := filt_len (List.take (j3 - n) O) (List.take (j3 - n) FL)
         simp only [List.length_append, List.length_take] at this ⊢
         omega
        obtain ⟨v7, w8, hra, ho8, hb8, hg8, -⟩ := run_app_body 28 ho7 wr.heap.size L[j3] (range_mk wr L[j3] _) hXl (by have := hb7.size; omega)
        rw [HLO.out j3 hjL hkO hnj] at ho8
        have HN := Lib.hid (h3_kept HR.out hnj rfl hkO hkF hff hb7 hwr ho8 hb8 hg8)
        rw [hff] at cZ
        dsimp only at hc0
        generalize L[j3] = c at *
        obtain ⟨d0, d1, d2, d3, d4, d5, d6, d7, d8⟩ := cells9 hc0
        clear hov hZv hr5 hPr hkO hkF hfk hff ho8 hb8 hg8 hXl ho7 hc0
        go_wp2_with (at_builtin; refine Lib.wpList_append_run _ rfl _ _ _ _ rfl _ _ rfl rfl _ _ hra ?_)
        go_roundw
        case rel => exact ⟨j3 + 1, by omega, by omega, by go_num, HN.out⟩
        case measure => simp [intOf]; omega
      ·have hje : j3 = N := by omega
       have hnl : ¬ (j3 : Int) < (N : Int) := by omega
       have e1 : O.take (j3 - n) = O := List.take_of_length_le (by have := HOl.out; omega)
       have e2 : FL.take (j3 - n) = FL := List.take_of_length_le (by have := HFLl.out; omega)
       rw [e1, e2] at hov
       clear e1 e2
       have h6 := hr5.rows4 rfl (Below.refl _ _) hr5.2.2.2.1 (v5 := u3) (X := L.take n ++ filt O FL) ⟨hov.1, by
        rcases hov.2 with e | ⟨g', cap', cur, e, hB, rest⟩
        ·exact .inl e
        ·exact .inr ⟨g', cap', cur, e, by omega, rest⟩⟩
       have HN := Lib.hid (bxOf h6 HEQ.out.symm)
       have HF := Lib.hid ((hF6.out.up hT hbv).trans (frP hr5.2.1 (.slice (some ⟨gs, 0, none⟩) n cs) (.slice (some ⟨g, 0, none⟩) N cap) 4 u3) rfl (OwnTo.refl _ _))
       have HT := Lib.hid (fun g (e : u3.ownBlock = some g) => World.ownsRow.lt hov g e)
       have fPr := fun k => frozenHeap hPr k
       obtain ⟨g3, cap3, e3, -, -, -⟩ := hov.shape (by have := HLT2.out; rw [List.length_append]; omega)
       generalize (L.take n ++ filt O FL).length = M at e3
       have HH6 := Lib.hid h6
       clear hje h6 hov hZv hr5 hbv HR
       subst e3
       go_wp2_with (fail)
       refine bodyPost_ret (v := .tuple #[]) (by simp [results, Tryz.results221]) rfl ⟨rfl, _, _, HN.out, HF.out, rfl, fun g e => .inr (HT.out g e).1⟩
end Go.Proofs.YtnlonkkbjkfkmaaGreatDoor
