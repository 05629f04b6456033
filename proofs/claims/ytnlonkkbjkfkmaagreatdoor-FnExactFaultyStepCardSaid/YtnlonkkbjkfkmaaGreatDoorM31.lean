/-
  Texts of this proof: TkW3.
-/
import Derived.Test.YtnlonkkbjkfkmaaGreatDoorM30
import Derived.Test.YtnlonkkbjkfkmaaGreatDoorM11
import Derived.Deep.CutRange
namespace Go.Proofs.YtnlonkkbjkfkmaaGreatDoor
open Go.RowKit
set_option linter.all false
theorem bd_elem : Tryz.prog.elem 28 = 100 := by kernel_rfl
theorem bd_type : Tryz.prog.underlying 28 = some (.slice (Tryz.prog.elem 28)) := by rw [bd_elem]; exact Tryz.underlying28
theorem bd_sz (W : World) : (sizeOf (Tryz.prog.elem 28)).run Tryz.prog W = .ok 9 W := by
 obtain ⟨i0, hi, hz0, hz1, hz2⟩ := info_parts info_BodyS
 rw [bd_elem]; simp [sizeOf, typeInfo, hi, hz1]
theorem bd_low (W : World) (b off n cap k : Nat) (hk : k ≤ cap) : (Instr.slice 28 (.slice (some ⟨b, off, none⟩) n cap) none (some (.int .i64 (k : Int))) none).run Tryz.prog W = .ok (.slice (some ⟨b, off, none⟩) k cap) W := by
 rw [run_slice_h (P := Tryz.prog) (w := W) 28 (some ⟨b, off, none⟩) n cap bd_type .i64 (k : Int) (by omega) (by omega), bd_sz]
 simp only [Result.andThen, sliced, Int.toNat_natCast]
 split
 ·simp [Addr.add]
 ·simp [Addr.add]
def upOff (off k cap : Nat) : Nat := if k < cap then off + k * 9 else off
theorem bd_up (W : World) (b off n cap k : Nat) (hk : k ≤ n) (hc : n ≤ cap) : (Instr.slice 28 (.slice (some ⟨b, off, none⟩) n cap) (some (.int .i64 (k : Int))) none none).run Tryz.prog W = .ok (.slice (some ⟨b, upOff off k cap, none⟩) (n - k) (cap - k)) W := by
 rw [run_slice_l (P := Tryz.prog) (w := W) 28 (some ⟨b, off, none⟩) n cap bd_type .i64 (k : Int) (by omega) (by omega), bd_sz]
 simp only [Result.andThen, sliced, Int.toNat_natCast]
 unfold upOff
 by_cases h : k < cap
 ·rw [if_neg (by first | omega | (simp; omega)), if_pos h]
  simp [Addr.add]
 ·rw [if_pos (by first | omega | (simp; omega)), if_neg h]
theorem flat_take : ∀ (X : List Bd) (m : Nat), ((X.take m).map bdL).flatten = ((X.map bdL).flatten).take (m * 9)
 | [], m => by simp
 | b :: l, 0 => by simp
 | b :: l, m + 1 => by
  rw [List.take_succ_cons, List.map_cons, List.flatten_cons, List.map_cons, List.flatten_cons, flat_take l m, List.take_append, bdL_len]
  rw [List.take_of_length_le (l := bdL b) (by rw [bdL_len]; omega), show (m + 1) * 9 - 9 = m * 9 by omega]
theorem OwnRB.cut {w : World} {T g n cap : Nat} {X : List Bd} (h : OwnRB w T (.slice (some ⟨g, 0, none⟩) n cap) X) {m : Nat} (hm : m ≤ X.length) : OwnRB w T (.slice (some ⟨g, 0, none⟩) m cap) (X.take m) := by
 have hl : (X.take m).length = m := by rw [List.length_take]; omega
 unfold OwnRB
 rw [hl]
 refine ⟨by rw [flatL, hl], ?_⟩
 rcases h.2 with ⟨e, -⟩ | ⟨g', cap', cur, e, hB, hg, hn, hc, hcs, htk⟩
 ·cases e
 ·simp only [Value.slice.injEq, Option.some.injEq, Addr.mk.injEq, and_true] at e
  obtain ⟨rfl, h1, rfl⟩ := e
  refine .inr ⟨g, cap, cur, rfl, hB, hg, by omega, hc, hcs, ?_⟩
  rw [flat_take, ← htk, List.take_take, Nat.min_eq_left (by omega)]
def MvR (w : World) (T p : Nat) (x : Wd) (vl vs : Value) (g N cap k m : Nat) (wr : World) : Prop := ∃ (K L : List Bd),
 K = mvL x.rows (x.bods.take k) ∧ K.length = m ∧ m ≤ k ∧ L.length = N ∧ L.take m = K ∧ L.drop k = x.bods.drop k ∧ BxW wr T p ⟨x.rows, x.tick, x.seed, x.scores, L⟩ vl vs (.slice (some ⟨g, 0, none⟩) N cap) ∧ FrW T p vs (.slice (some ⟨g, 0, none⟩) N cap) w wr
theorem mvR_skip {w : World} {T p : Nat} {x : Wd} {vl vs : Value} {g N cap k m : Nat} {wr w2 : World} (h : MvR w T p x vl vs g N cap k m wr) (hN : N = x.bods.length) (hk : k < x.bods.length) (hc : mvB x.rows x.bods[k] = none) (hb : Below wr.heap.size wr w2) : MvR w T p x vl vs g N cap (k + 1) m w2 := by
 obtain ⟨K, L, h1, h2, h3, h4, h5, h6, h7, h8⟩ := h
 refine ⟨K, L, ?_, h2, by omega, h4, h5, ?_, h7.keep hb (Nat.le_of_lt h7.low), h8.trans (FrW.below hb (Nat.le_of_lt h7.low)) rfl (OwnTo.refl _ _)⟩
 ·rw [h1]; unfold mvL
  rw [List.take_succ_eq_append_getElem hk, List.filterMap_append, List.filterMap_cons, hc]; simp
 ·have e1 := congrArg (List.drop 1) h6
  rw [List.drop_drop, List.drop_drop] at e1
  exact e1
theorem mvR_put {w : World} {T p : Nat} {x : Wd} {vl vs : Value} {g N cap k m : Nat} {wr w2 : World} {c : Bd} (h : MvR w T p x vl vs g N cap k m wr) (hN : N = x.bods.length) (hk : k < x.bods.length) (hc : mvB x.rows x.bods[k] = some c) (hb : Below wr.heap.size wr w2) : MvR w T p x vl vs g N cap (k + 1) (m + 1) (w2.setCells g (m * 9) (bdL c)) := by
 obtain ⟨K, L, h1, h2, h3, h4, h5, h6, h7, h8⟩ := h
 have hT := Nat.le_of_lt h7.low
 have h7' := h7.keep hb hT
 have hTg := (World.ownsRow.lt h7.2.2.2.2 g rfl).1
 have hml : m < L.length := by omega
 have hbs := belowSet hTg w2 (bdL c) (m * 9)
 have hf : ∀ j, j ≠ g → (w2.setCells g (m * 9) (bdL c)).heap[j]? = w2.heap[j]? := fun j hj => heap_setCells g (bdL c) (m * 9) w2 j hj
 refine ⟨K ++ [c], L.set m c, ?_, by simp [h2], by omega, by rw [List.length_set]; exact h4, ?_, ?_, ?_, ?_⟩
 ·rw [h1]; unfold mvL
  rw [List.take_succ_eq_append_getElem hk, List.filterMap_append, List.filterMap_cons, hc]; simp
 ·rw [List.take_succ_eq_append_getElem (by rw [List.length_set]; exact hml), List.take_set_of_le (Nat.le_refl _), List.getElem_set_self, h5]
 ·have e1 := congrArg (List.drop 1) h6
  rw [List.drop_drop, List.drop_drop] at e1
  rw [List.drop_set_of_lt (by omega)]
  exact e1
 ·exact h7'.bods (X := L.set m c) (by rw [List.length_set]) hbs (h7'.2.2.2.2.put (show N = L.length by omega) hml c) hf
 ·exact (h8.trans (FrW.below hb hT) rfl (OwnTo.refl _ _)).trans (frB hbs hf) rfl (OwnTo.refl _ _)
theorem mvR_done {w : World} {T p : Nat} {x : Wd} {vl vs : Value} {g N cap k m : Nat} {wr : World} (h : MvR w T p x vl vs g N cap k m wr) (hk : k = x.bods.length) (hN : N = x.bods.length) : BxW (wr.setCell ⟨p, 4, none⟩ (.slice (some ⟨g, 0, none⟩) m cap)) T p (moveXW x) vl vs (.slice (some ⟨g, 0, none⟩) m cap) ∧ FrW T p vs (.slice (some ⟨g, 0, none⟩) N cap) w (wr.setCell ⟨p, 4, none⟩ (.slice (some ⟨g, 0, none⟩) m cap)) := by
 obtain ⟨K, L, h1, h2, h3, h4, h5, h6, h7, h8⟩ := h
 have ho := h7.2.2.2.2.cut (m := m) (by show m ≤ L.length; omega)
 have h9 := h7.rows4 (w' := wr) rfl (Below.refl _ _) h7.2.2.2.1 ho
 refine ⟨bxOf h9 ?_, h8.trans (frP h7.2.1 _ _ 4 _) rfl (OwnTo.refl _ _)⟩
 unfold moveXW
 dsimp only
 rw [h5, h1, hk, List.take_length]
set_option maxRecDepth 100000 in
set_option maxHeartbeats 16000000 in
theorem moveBodies_impl {w : World} {T p : Nat} {x : Wd} {vl vs vb : Value} (h : BxW w T p x vl vs vb) (hf : FineX x) :
  Calls Tryz.prog 142 #[.pointer (some ⟨p, 0, none⟩)] w (RetBx w T p (moveXW x) vl vs vb) := by
 obtain ⟨hL, hn, -, hFi⟩ := hf
 have hg := levelB_facts hL
 have hN24 := hFi.2.1
 have hN1 := hFi.1
 have hT := Nat.le_of_lt h.low
 obtain ⟨g, cap, e0, hTg, hgw, hcap⟩ := h.2.2.2.2.shape (by omega)
 subst e0
 obtain ⟨al, cl, e0, -⟩ := id h.rd.1
 subst e0
 obtain ⟨N, hNN⟩ : ∃ N, N = x.bods.length := ⟨_, rfl⟩
 rw [← hNN] at h hN24 hN1 hcap ⊢
 have HNN := Lib.hid hNN
 have hR0 : MvR w T p x (.slice al x.rows.length cl) vs g N cap 0 0 w := ⟨[], x.bods, by simp [mvL], rfl, Nat.le_refl _, hNN.symm, rfl, rfl, h, FrW.refl _ _ _ _ _⟩
 have HR0 := Lib.hid hR0
 have cP := rowCells h.1
 unfold wdC at cP
 have hsl : (Instr.slice 28 (.slice (some ⟨g, 0, none⟩) N cap) none (some (.int .i64 0)) none).run Tryz.prog w = .ok (.slice (some ⟨g, 0, none⟩) 0 cap) w := bd_low w g 0 N cap 0 (by omega)
 have hNi : (N : Int) ≤ 24 := by omega
 clear hR0 hNN
 go_enter Tryz.func142, Tryz.ntmps142
 go_wp2_with (fail)
 go_loopw [2, 17] (fun s i wr => ∃ (k m : Nat), k ≤ N ∧ i = .int .i64 (k : Int) ∧ s = .slice (some ⟨g, 0, none⟩) m cap ∧ MvR w T p x (.slice al x.rows.length cl) vs g N cap k m wr) (fun _ i _ => N - (intOf i).toNat)
 case atStart => exact ⟨0, 0, Nat.zero_le _, rfl, rfl, HR0.out⟩
 case round =>
  obtain ⟨k, m, hk, rfl, rfl, hR⟩ := hrel
  have HR := Lib.hid hR
  obtain ⟨K, L, -, -, hmk, hLN, -, hdr, hBr, hFr⟩ := hR
  have cPr := rowCells hBr.1
  unfold wdC at cPr
  dsimp only at cPr
  by_cases hkN : k < N
  ·have hkx : k < x.bods.length := by rw [← HNN.out]; exact hkN
   have hkL : k < L.length := by omega
   have hLk : L[k] = x.bods[k] := by
    have e1 := congrArg (fun l => l[0]?) hdr
    simp only [List.getElem?_drop, Nat.add_zero, List.getElem?_eq_getElem hkL, List.getElem?_eq_getElem hkx, Option.some.injEq] at e1
    exact e1
   have hc0 := (hBr.2.2.2.2.body hkL).1
   rw [hLk] at hc0
   have HK := Lib.hid (mvR_skip (w2 := w) HR.out HNN.out hkx)
   have hfit := (hFi.2.2 k hkx).1
   have HSK : Hid (∀ {w2 : World}, mvB x.rows x.bods[k] = none → Below wr.heap.size wr w2 → MvR w T p x (.slice al x.rows.length cl) vs g N cap (k + 1) m w2) := Lib.hid (fun a b => mvR_skip HR.out HNN.out hkx a b)
   have HPU : Hid (∀ {w2 : World} {c : Bd}, mvB x.rows x.bods[k] = some c → Below wr.heap.size wr w2 → MvR w T p x (.slice al x.rows.length cl) vs g N cap (k + 1) (m + 1) (w2.setCells g (m * 9) (bdL c))) := Lib.hid (fun a b => mvR_put HR.out HNN.out hkx a b)
   clear HK
   generalize x.bods[k] = b at *
   obtain ⟨d0, d1, d2, d3, d4, d5, d6, d7, d8⟩ := cells9 hc0
   have hki : (k : Int) < (N : Int) := by omega
   have hmt := fun {W : World} (hb : Below wr.heap.size wr W) => moveInTick_impl ((hBr.keep hb (Nat.le_of_lt hBr.low)).rd.1) hg _ b hfit
   have hob := hBr.2.2.2.2
   have hTr := hBr.low
   have hPr := hBr.1
   have hpr := hBr.lt
   unfold wdC at hPr
   dsimp only at hPr
   have HLN := Lib.hid hLN
   clear hc0 hLk hdr hBr hkL hLN
   go_upto_region 4 with (fail)
   obtain ⟨w3, hw3, hQ, hb3⟩ : ∃ w3, wr.alloc (.cells #[.int .i64 b.kind, .int .i64 b.owner, .int .i64 b.x, .int .i64 b.y, .int .i64 b.vx, .int .i64 b.vy, .int .i64 b.aim, .int .i64 b.life, .int .i64 b.timer] 100) = w3 ∧ w3.heap[wr.heap.size]? = some (.cells #[.int .i64 b.kind, .int .i64 b.owner, .int .i64 b.x, .int .i64 b.y, .int .i64 b.vx, .int .i64 b.vy, .int .i64 b.aim, .int .i64 b.life, .int .i64 b.timer] 100 (0, 0)) ∧ Below wr.heap.size wr w3 := ⟨_, rfl, heap_alloc_new wr _, below1 wr _⟩
   have hP3 := keepHeap hb3 hPr
   rw [hw3]
   clear hw3 d0 d1 d2 d3 d4 d5 d6 d7 d8 cPr cP hPr
   have hs3 := hb3.size
   go_cut [5, 6] from 21 to 35 (fun q t wq => ∃ (q' : Nat) (c : Bd) (tt : Bool), q = .pointer (some ⟨q', 0, none⟩) ∧ t = .bool tt ∧ mvB x.rows b = (if tt = true then some c else none) ∧ wq.heap[q']? = some (.cells #[.int .i64 c.kind, .int .i64 c.owner, .int .i64 c.x, .int .i64 c.y, .int .i64 c.vx, .int .i64 c.vy, .int .i64 c.aim, .int .i64 c.life, .int .i64 c.timer] 100 (0, 0)) ∧ Below w3.heap.size w3 wq)
   case first =>
    have bs_0 : Below w3.heap.size w3 w3.drew := belowDrew w3 1
    have hP3_0 : w3.drew.heap[p]? = _ := hP3
    have hQ_0 : w3.drew.heap[wr.heap.size]? = _ := hQ
    refine wp_region_held_drew (S := (fun w' => (∀ j, w'.cell? ⟨p, j, none⟩ = #[Value.slice al x.rows.length cl, .int .i64 x.tick, .int .i64 x.seed, vs, .slice (some ⟨g, 0, none⟩) N cap][j]?) ∧ (∀ j, w'.cell? ⟨wr.heap.size, j, none⟩ = #[Value.int .i64 b.kind, .int .i64 b.owner, .int .i64 b.x, .int .i64 b.y, .int .i64 b.vx, .int .i64 b.vy, .int .i64 b.aim, .int .i64 b.life, .int .i64 b.timer][j]?))) (by kernel_rfl) ?_ (fun hHeld => ?_)
    ·exact ⟨rowCells hP3_0, rowCells hQ_0⟩
    refine tk 0 22 ?_
    (try simp only [zP, zA, zB, zC])
    refine tk 1 23 ?_
    (try simp only [zP, zA, zB, zC])
    refine tk 2 24 ?_
    (try simp only [zP, zA, zB, zC])
    refine tk 3 25 ?_
    (try simp only [zP, zA, zB, zC])
    refine tk 4 26 ?_
    (try simp only [zP, zA, zB, zC])
    refine wpAnyH_ready (rs := [5, 9]) (by kernel_rfl) (by simp) ?_
    refine AllReadyH.cons rfl (fun K hK => ?_) (AllReadyH.cons rfl (fun K hK => ?_) AllReadyH.nil)
    ·go_simp
     refine (hmt (hb3.trans (bs_0.mono hb3.size))).mono ?_
     rintro e w_1 ⟨c, tt, rfl, hmv, hb_1⟩
     have hP3_1 := keepHeap hb_1 hP3_0
     have hQ_1 := keepHeap hb_1 hQ_0
     have bs_1 := bs_0.trans (hb_1.mono bs_0.size)
     have sz_1 := hb_1.size
     (try go_wp2_with (fail))
     refine hK.out _ _ ?_ (fun hHeld => ?_)
     ·exact ⟨rowCells hP3_1, rowCells hQ_1⟩
     clear hK K
     (try simp only [zP, zA, zB, zC])
     refine tk 6 21 ?_
     (try simp only [zP, zA, zB, zC])
     refine tk 7 28 ?_
     (try simp only [zP, zA, zB, zC])
     refine tk 8 29 ?_
     (try simp only [zP, zA, zB, zC])
     refine wpAnyH_ready (rs := [9]) (by kernel_rfl) (by simp) ?_
     refine AllReadyH.cons rfl (fun K hK => ?_) AllReadyH.nil
     go_simp
     obtain ⟨w_2, hw_2, P_2, hb_2⟩ : ∃ W, w_1.alloc (.cells #[.int .i64 0, .int .i64 0, .int .i64 0, .int .i64 0, .int .i64 0, .int .i64 0, .int .i64 0, .int .i64 0, .int .i64 0] 100) = W ∧ W.heap[w_1.heap.size]? = some (.cells #[.int .i64 0, .int .i64 0, .int .i64 0, .int .i64 0, .int .i64 0, .int .i64 0, .int .i64 0, .int .i64 0, .int .i64 0] 100 (0, 0)) ∧ Below w_1.heap.size w_1 W := ⟨_, rfl, heap_alloc_new w_1 _, below1 w_1 _⟩
     try rw [hw_2]
     clear hw_2
     have hp_2 := bs_1.size
     have hP3_2 := keepHeap hb_2 hP3_1
     have hQ_2 := keepHeap hb_2 hQ_1
     have bs_2 := bs_1.trans (hb_2.mono bs_1.size)
     have sz_2 := hb_2.size
     refine hK.out _ _ ?_ (fun hHeld => ?_)
     ·exact ⟨rowCells hP3_2, rowCells hQ_2⟩
     clear hK K
     (try simp only [zP, zA, zB, zC])
     refine wpAnyH_ready (rs := [10]) (by kernel_rfl) (by simp) ?_
     refine AllReadyH.cons rfl (fun K hK => ?_) AllReadyH.nil
     have cn := rowCells P_2
     have fn := fun j => frozenHeap P_2 j
     go_simp
     have P_3 := putB_heapT P_2 rfl c c.x c.y c.vx c.vy
     have hpp : w3.heap.size ≤ w_1.heap.size := by have := hp_2; first | omega | (simp at this ⊢; omega) | (simp at this ⊢)
     have bs_3 := putB_below bs_2 (c := w_1.heap.size) hpp c c.x c.y c.vx c.vy
     have hP3_3 := putB_far hP3_2 (c := w_1.heap.size) (by have := (Array.getElem?_eq_some_iff.1 hP3).1; omega) c c.x c.y c.vx c.vy
     have hQ_3 := putB_far hQ_2 (c := w_1.heap.size) (by have := (Array.getElem?_eq_some_iff.1 hQ).1; omega) c c.x c.y c.vx c.vy
     obtain ⟨w_3, hw_3⟩ : ∃ W, putB w_2 (w_1.heap.size) c c.x c.y c.vx c.vy = W := ⟨_, rfl⟩
     rw [hw_3] at P_3 bs_3 hP3_3 hQ_3
     unfold putB at hw_3
     try rw [hw_3]
     clear hw_3 cn fn
     refine hK.out _ _ ?_ (fun hHeld => ?_)
     ·exact ⟨rowCells hP3_3, rowCells hQ_3⟩
     clear hK K
     (try simp only [zP, zA, zB, zC])
     refine tk 11 6 ?_
     (try simp only [zP, zA, zB, zC])
     refine wpAnyH_done (by kernel_rfl) ?_ _
     go_wp2_with (fail)
     go_meet
     case rel => exact ⟨_, c, tt, rfl, rfl, hmv, P_3, bs_3⟩
    ·go_simp
     obtain ⟨w_1, hw_1, P_1, hb_1⟩ : ∃ W, (w3.alloc (.cells #[.int .i64 0, .int .i64 0, .int .i64 0, .int .i64 0, .int .i64 0, .int .i64 0, .int .i64 0, .int .i64 0, .int .i64 0] 100)).drew = W ∧ W.heap[w3.heap.size]? = some (.cells #[.int .i64 0, .int .i64 0, .int .i64 0, .int .i64 0, .int .i64 0, .int .i64 0, .int .i64 0, .int .i64 0, .int .i64 0] 100 (0, 0)) ∧ Below w3.drew.heap.size w3.drew W := ⟨_, rfl, heap_alloc_new w3.drew _, below1 w3.drew _⟩
     try rw [hw_1]
     clear hw_1
     have hp_1 := bs_0.size
     have hP3_1 := keepHeap hb_1 hP3_0
     have hQ_1 := keepHeap hb_1 hQ_0
     have bs_1 := bs_0.trans (hb_1.mono bs_0.size)
     have sz_1 := hb_1.size
     refine hK.out _ _ ?_ (fun hHeld => ?_)
     ·exact ⟨rowCells hP3_1, rowCells hQ_1⟩
     clear hK K
     (try simp only [zP, zA, zB, zC])
     refine wpAnyH_ready (rs := [5]) (by kernel_rfl) (by simp) ?_
     refine AllReadyH.cons rfl (fun K hK => ?_) AllReadyH.nil
     go_simp
     refine (hmt (hb3.trans (bs_1.mono hb3.size))).mono ?_
     rintro e w_2 ⟨c, tt, rfl, hmv, hb_2⟩
     have hP3_2 := keepHeap hb_2 hP3_1
     have hQ_2 := keepHeap hb_2 hQ_1
     have bs_2 := bs_1.trans (hb_2.mono bs_1.size)
     have sz_2 := hb_2.size
     have P_2 := keepHeap hb_2 P_1
     (try go_wp2_with (fail))
     refine hK.out _ _ ?_ (fun hHeld => ?_)
     ·exact ⟨rowCells hP3_2, rowCells hQ_2⟩
     clear hK K
     (try simp only [zP, zA, zB, zC])
     refine tk 6 21 ?_
     (try simp only [zP, zA, zB, zC])
     refine tk 7 28 ?_
     (try simp only [zP, zA, zB, zC])
     refine tk 8 29 ?_
     (try simp only [zP, zA, zB, zC])
     refine wpAnyH_ready (rs := [10]) (by kernel_rfl) (by simp) ?_
     refine AllReadyH.cons rfl (fun K hK => ?_) AllReadyH.nil
     have cn := rowCells P_2
     have fn := fun j => frozenHeap P_2 j
     go_simp
     have P_3 := putB_heapT P_2 rfl c c.x c.y c.vx c.vy
     have hpp : w3.heap.size ≤ w3.heap.size := by have := hp_1; first | omega | (simp at this ⊢; omega) | (simp at this ⊢)
     have bs_3 := putB_below bs_2 (c := w3.heap.size) hpp c c.x c.y c.vx c.vy
     have hP3_3 := putB_far hP3_2 (c := w3.heap.size) (by have := (Array.getElem?_eq_some_iff.1 hP3).1; omega) c c.x c.y c.vx c.vy
     have hQ_3 := putB_far hQ_2 (c := w3.heap.size) (by have := (Array.getElem?_eq_some_iff.1 hQ).1; omega) c c.x c.y c.vx c.vy
     obtain ⟨w_3, hw_3⟩ : ∃ W, putB w_2 (w3.heap.size) c c.x c.y c.vx c.vy = W := ⟨_, rfl⟩
     rw [hw_3] at P_3 bs_3 hP3_3 hQ_3
     unfold putB at hw_3
     try rw [hw_3]
     clear hw_3 cn fn
     refine hK.out _ _ ?_ (fun hHeld => ?_)
     ·exact ⟨rowCells hP3_3, rowCells hQ_3⟩
     clear hK K
     (try simp only [zP, zA, zB, zC])
     refine tk 11 6 ?_
     (try simp only [zP, zA, zB, zC])
     refine wpAnyH_done (by kernel_rfl) ?_ _
     go_wp2_with (fail)
     go_meet
     case rel => exact ⟨_, c, tt, rfl, rfl, hmv, P_3, bs_3⟩
   obtain ⟨q', c, tt, rfl, rfl, hmv, hQ4, hb4⟩ := hcut
   obtain ⟨w4, ew⟩ : ∃ w4, w4 = wc := ⟨_, rfl⟩
   subst ew
   have hb34 := hb3.trans (hb4.mono hb3.size)
   cases tt with
   | false =>
    have HN := Lib.hid (HSK.out (by simpa using hmv) hb34)
    clear hmv
    go_wp2_with (fail)
    go_roundw
    case rel => exact ⟨k + 1, m, by omega, by go_num, rfl, HN.out⟩
    case measure => simp [intOf]; omega
   | true =>
    have hmv' : mvB x.rows b = some c := by simpa using hmv
    have cQ := rowCells hQ4
    have hob4 := hob.keep hb34 (Nat.le_refl _)
    have hba := below1 w4 (.cells #[.int .i64 c.kind, .int .i64 c.owner, .int .i64 c.x, .int .i64 c.y, .int .i64 c.vx, .int .i64 c.vy, .int .i64 c.aim, .int .i64 c.life, .int .i64 c.timer] 100)
    have HN := Lib.hid (HPU.out hmv' (hb34.trans (hba.mono hb34.size)))
    have HO := Lib.hid (hob4.keep hba (Nat.le_refl _))
    have hmL : m < L.length := by rw [HLN.out]; omega
    clear hmv hmv' hob4
    go_wp2_with (at_builtin; refine app_bodR rfl _ _ rfl (T := T) (n := N) (X := L) rfl HO.out HLN.out.symm hmL w4.heap.size c rfl (range_mk w4 c _) ?_; intro hO5)
    go_roundw
    case rel => exact ⟨k + 1, m + 1, by omega, by go_num, rfl, HN.out⟩
    case measure => simp [intOf]; omega
  ·have hkN' : k = N := by omega
   have HD := Lib.hid (mvR_done HR.out (by rw [hkN']; exact HNN.out) HNN.out)
   have hnl : ¬ (k : Int) < (N : Int) := by omega
   have fPr := fun j => frozenHeap hBr.1 j
   clear hkN' hdr hLN
   go_wp2_with (fail)
   refine bodyPost_ret (v := .tuple #[]) (by simp [results, Tryz.results142]) rfl ⟨rfl, _, _, HD.out.1, HD.out.2, rfl, OwnTo.refl _ _⟩
end Go.Proofs.YtnlonkkbjkfkmaaGreatDoor
