/-
  Texts of this proof: Wsl.
-/
import Derived.Test.YtnlonkkbjkfkmaaDoorM45
import Derived.Test.YtnlonkkbjkfkmaaDoorM48
import Derived.Deep.RegionHeld3
import Derived.Deep.Cut
import Derived.Deep.CutBlock
namespace Go.Proofs.YtnlonkkbjkfkmaaDoor
open Go.RowKit
set_option linter.all false
def ApW (w : World) (p : Nat) (y : Wd) (vl vs vb : Value) : Prop := (∃ w0, w0.heap.size ≤ p ∧ RdW w0 y vl vs vb ∧ Below w0.heap.size w0 w) ∨ OwnWIn w (p + 2) w.heap.size y vl vs vb
theorem ApW.rd {w : World} {p : Nat} {y : Wd} {vl vs vb : Value} (h : ApW w p y vl vs vb) : RdW w y vl vs vb := by
 rcases h with ⟨w0, -, h1, h2⟩ | h
 ·exact h1.keep h2
 ·exact h.rd
theorem ApW.far {w w' : World} {p : Nat} {y : Wd} {vl vs vb : Value} (h : ApW w p y vl vs vb) (hf : FarB p (p + 2) w w') : ApW w' p y vl vs vb := by
 rcases h with ⟨w0, h0, h1, h2⟩ | h
 ·exact .inl ⟨w0, h0, h1, h2.trans (hf.1.mono h0)⟩
 ·exact .inr ((h.apart hf (.inl (Nat.le_refl _))).wide (Nat.le_refl _) hf.1.size)
theorem FarB.grow {lo hi : Nat} {w w' : World} (h : Below w.heap.size w w') (hl : lo ≤ w.heap.size) : FarB lo hi w w' := ⟨h.mono hl, fun j _ hj => h.block j hj⟩
theorem FarB.wider {lo hi lo' hi' : Nat} {w w' : World} (h : FarB lo hi w w') (h1 : lo' ≤ lo) (h2 : hi ≤ hi') : FarB lo' hi' w w' := ⟨h.1.mono h1, fun j hj hl => h.2 j (by omega) hl⟩
theorem RdI.at {w : World} {b o n c : Nat} {xs : List Int} (h : RdI w (.slice (some ⟨b, o, none⟩) n c) xs) {k : Nat} (hk : k < xs.length) : w.cell? ⟨b, o + k, none⟩ = some (.int .i64 xs[k]) := by
 obtain ⟨a, c', e, h1⟩ := h
 obtain ⟨rfl, -, -⟩ := Value.slice.inj e
 obtain ⟨b', o', e', h2⟩ := h1.resolve_left (by intro e; rw [e] at hk; simp at hk)
 injection e' with e'
 injection e' with e1 e2 e3
 subst e1 e2
 exact h2 k hk
theorem RdBd.at {w : World} {b o n c : Nat} {X : List Bd} (h : RdBd w (.slice (some ⟨b, o, none⟩) n c) X) {k : Nat} (hk : k < X.length) : w.rangeAt b (o + k * 9) (bdL X[k]) := by
 obtain ⟨a, c', e, h1⟩ := h
 obtain ⟨rfl, -, -⟩ := Value.slice.inj e
 obtain ⟨b', o', e', h2⟩ := h1.resolve_left (by intro e; rw [e] at hk; simp at hk)
 injection e' with e'
 injection e' with e1 e2 e3
 subst e1 e2
 exact h2 k hk
def Lst (y : Wd) (t : Nat) (S : List Int) (j : Nat) : Prop := S.getD j 0 = 0 ∨ (0 < S.getD j 0 ∧ S.getD j 0 ≤ (t : Int) ∧ Since (y.bods.getD j b00) ((t : Int) - S.getD j 0))
theorem Lst.next {y z : Wd} {t : Nat} {S : List Int} {j : Nat} (h : Lst y t S j) (hr : TickR (y.bods.getD j b00) (z.bods.getD j b00)) : Lst z (t + 1) S j := by
 rcases h with h | ⟨h1, h2, h3⟩
 ·exact .inl h
 ·refine .inr ⟨h1, by omega, ?_⟩
  have := since_next hr (by omega) h3
  rw [show ((t + 1 : Nat) : Int) - S.getD j 0 = (t : Int) - S.getD j 0 + 1 by omega]
  exact this
theorem Lst.fired {z : Wd} {t : Nat} {S : List Int} {j : Nat} (hj : j < S.length) (h1 : (z.bods.getD j b00).timer = 12) (h2 : 0 < (z.bods.getD j b00).life) : Lst z (t + 1) (S.set j ((t : Int) + 1)) j := by
 have e : (S.set j ((t : Int) + 1)).getD j 0 = (t : Int) + 1 := by rw [List.getD_eq_getElem?_getD, List.getElem?_set_self hj]; rfl
 refine .inr ⟨by rw [e]; omega, by rw [e]; omega, ?_⟩
 rw [e, show ((t + 1 : Nat) : Int) - ((t : Int) + 1) = 0 by omega]
 exact since_fired h1 (by omega)
theorem Lst.other {z : Wd} {t : Nat} {S : List Int} {j k : Nat} {v : Int} (h : Lst z t S j) (hjk : ¬ k = j) : Lst z t (S.set k v) j := by
 have e : (S.set k v).getD j 0 = S.getD j 0 := by rw [List.getD_eq_getElem?_getD, List.getElem?_set_ne hjk, ← List.getD_eq_getElem?_getD]
 unfold Lst at *
 rw [e]; exact h
theorem row_ok {n : Nat} {r : List Int} (h : r.length = n ∧ Inp r) : rokB (n : Int) r = true := by
 rw [rokB_w (by rw [h.1])]
 exact allW_iff.2 fun k hk => h.2 _ (List.getElem_mem hk)
theorem getD_b {X : List Bd} {k : Nat} (h : k < X.length) : X.getD k b00 = X[k] := by rw [List.getD_eq_getElem?_getD, List.getElem?_eq_getElem h]; rfl
theorem getD_i {X : List Int} {k : Nat} (h : k < X.length) : X.getD k 0 = X[k] := by rw [List.getD_eq_getElem?_getD, List.getElem?_eq_getElem h]; rfl
set_option maxRecDepth 100000 in
set_option maxHeartbeats 8000000 in
theorem lawStays (a : Option Addr) (len cap : Nat) (zs : List Int) (w : World) (hr : IsRow .u8 w a len cap zs) :
  Calls Tryd.prog 3 #[.slice a len cap] w fun e w' => e = .returned (.bool true) ∧ Below w.heap.size w w' := by
 obtain ⟨hrd, hl⟩ := RdC.of_row hr
 clear hr
 by_cases h : 1048576 < (len : Int)
 ·have b1 : decide (1048576 < (len : Int)) = true := by simpa using h
  go_enter Tryd.func3, Tryd.ntmps3
  go_wp2_with (go_at_call 7; refine (big_any hrd hl).mono ?_; rintro e w' ⟨rfl, rfl⟩)
  go_ret
  exact ⟨rfl, Below.refl _ _⟩
 have b1 : decide (1048576 < (len : Int)) = false := by simpa using h
 go_enter Tryd.func3, Tryd.ntmps3
 go_wp2_with (go_at_call 7; refine (big_any hrd hl).mono ?_; rintro e w' ⟨rfl, rfl⟩)
 refine (drawPlay_any hrd (by omega)).mono ?_
 rintro e w1 ⟨L, n, s, vl, vs, vb, v, X, rfl, rdx, rdr, hb1, hok⟩
 obtain ⟨hnx, hwb⟩ := play_x hok
 have hsn := worldB_sane hwb (by rw [hnx]; exact hok.2.1)
 have hfw := worldB_few hwb
 have hLs : Sane L := hok.2.1
 have hn14 := hok.2.2.1
 have hXl : X.length ≤ 96 := hok.2.2.2.2.1
 have hRw : Rws n X := hok.2.2.2.2.2.1
 have hx0 : Hid ((nwX L n s).rows = L ∧ (nwX L n s).tick = ((0 : Nat) : Int) ∧ (nwX L n s).scores.length = n) := Lib.hid (by rw [hnx]; exact ⟨rfl, rfl, by simp⟩)
 generalize nwX L n s = x at *
 clear hnx hok hfw
 obtain ⟨al, cl, e0, -⟩ := id rdx.1
 subst e0
 obtain ⟨aq, cq, e0, -⟩ := id rdx.2.1
 subst e0
 obtain ⟨ab, cb, e0, -⟩ := id rdx.2.2
 subst e0
 obtain ⟨ar, cr, e0, hrr⟩ := rdr
 subst e0
 unfold wdC at ⊢
 go_upto_region 4 with (fail)
 obtain ⟨w2, hw2, P2, hb2⟩ : ∃ W, w1.alloc (.cells #[.slice al x.rows.length cl, .int .i64 x.tick, .int .i64 x.seed, .slice aq x.scores.length cq, .slice ab x.bods.length cb] 30) = W ∧ W.heap[w1.heap.size]? = some (.cells #[.slice al x.rows.length cl, .int .i64 x.tick, .int .i64 x.seed, .slice aq x.scores.length cq, .slice ab x.bods.length cb] 30 (0, 0)) ∧ Below w1.heap.size w1 W := ⟨_, rfl, heap_alloc_new w1 _, below1 w1 _⟩
 have HS2 : Hid (w2.heap.size = w1.heap.size + 1) := Lib.hid (by rw [← hw2]; simp)
 rw [hw2]
 clear hw2
 obtain ⟨p, hp⟩ : ∃ p, p = w1.heap.size := ⟨_, rfl⟩
 rw [← hp] at P2 ⊢
 have hs1 := hb1.size
 have hpw : w.heap.size ≤ p := by omega
 have bw2 := hb1.trans (hb2.mono hs1)
 have hpl := (Array.getElem?_eq_some_iff.1 P2).1
 have rdx2 := rdx.keep hb2
 have cP2 := rowCells P2
 have HPE := Lib.hid hp
 have h1p : w1.heap.size ≤ p := by omega
 clear hp
 go_upto_region 5 with (fail)
 obtain ⟨N, hN⟩ : ∃ N : Nat, N = x.scores.length := ⟨_, rfl⟩
 rw [← hN]
 have hNn : N = n := by rw [hN]; exact hx0.out.2.2
 subst hNn
 have HN := Lib.hid hN
 clear hN
 have hN4 : 1 ≤ N ∧ N ≤ 4 := hn14
 have hmk := fun W => run_make_ints W N (by omega)
 go_upto_region 6 with (fail)
 obtain ⟨w3, hw3, Q3, hb3⟩ : ∃ W, w2.alloc (.cells (madeCells #[.int .i64 0] N) 3) = W ∧ RowI W w2.heap.size (List.replicate N 0) ∧ Below w2.heap.size w2 W := ⟨_, rfl, RowI.zeros w2 N, below1 w2 _⟩
 have hs3 : w3.heap.size = w2.heap.size + 1 := by rw [← hw3]; simp
 have hs2 : w2.heap.size = p + 1 := by have := HS2.out; have := HPE.out; omega
 rw [hw3]
 clear hw3 cP2
 have hqe : w2.heap.size = p + 1 := hs2
 rw [hqe] at Q3 ⊢
 have P3 := keepHeap hb3 P2
 have P3 : w3.heap[p]? = some (.cells (wdC x (.slice al x.rows.length cl) (.slice aq x.scores.length cq) (.slice ab x.bods.length cb)) 30 (0, 0)) := P3
 have A3 : ApW w3 p x (.slice al x.rows.length cl) (.slice aq x.scores.length cq) (.slice ab x.bods.length cb) := .inl ⟨w1, by omega, rdx, hb2.trans (hb3.mono (by omega))⟩
 have bp3 : Below p w2 w3 := hb3.mono (by omega)
 have hp3 : p + 2 ≤ w3.heap.size := by omega
 have hL0 : ∀ j, j < N → Lst x 0 (List.replicate N 0) j := fun j hj => .inl (by rw [List.getD_eq_getElem?_getD, List.getElem?_eq_getElem (by simpa using hj)]; simp)
 clear hmk
 go_wp2_with (fail)
 go_loopw [7] (fun i wr => ∃ (t : Nat) (y : Wd) (ul us ub : Value) (S : List Int), t ≤ X.length ∧ i = .int .i64 (t : Int) ∧ (worldB y = true ∧ y.rows = L ∧ y.tick = (t : Int) ∧ y.scores.length = N) ∧ wr.heap[p]? = some (.cells (wdC y ul us ub) 30 (0, 0)) ∧ ApW wr p y ul us ub ∧ S.length = N ∧ RowI wr (p + 1) S ∧ (∀ j, j < N → Lst y t S j) ∧ Below p w2 wr ∧ p + 2 ≤ wr.heap.size) (fun i _ => X.length - (intOf i).toNat)
 case atStart => exact ⟨0, x, _, _, _, _, Nat.zero_le _, rfl, ⟨hwb, hx0.out.1, hx0.out.2.1, hx0.out.2.2⟩, P3, A3, by simp, Q3, hL0, bp3, hp3⟩
 case round =>
  clear P3 A3 Q3 hL0 bp3 hp3 hwb hx0 hsn hb3 hs3 hs2
  obtain ⟨t, y, ul, us, ub, S, ht, rfl, ⟨hwb, hyr, hyt, hyn⟩, hPr, hAy, hSl, hSr, hL, hbr, hsz⟩ := hrel
  have HYR := Lib.hid hyr
  clear hyr
  have hys := worldB_sane hwb (by rw [HYR.out]; exact hLs)
  have hyf := worldB_few hwb
  have hrdy := hAy.rd
  by_cases htX : t < X.length
  ·obtain ⟨b, off, rfl, hc⟩ := hrr.resolve_left (by intro e; rw [e] at htX; simp at htX)
   obtain ⟨u, c0, r0⟩ := hc t htX
   have b1r : Below w1.heap.size w1 wr := hb2.trans (hbr.mono h1p)
   have c1 : ∀ {W : World}, Below wr.heap.size wr W → W.cell? ⟨b, off + t, none⟩ = some u := fun hW => by have h := (b1r.cell (World.block_lt_of_cell? w1 _ c0)).trans c0; exact (hW.cell (World.block_lt_of_cell? wr _ h)).trans h
   have r1 := r0.keep b1r
   have HRL := Lib.hid (hRw _ (List.getElem_mem htX))
   have hti : (t : Int) < (X.length : Int) := by omega
   have ht96 : (t : Int) ≤ 96 := by omega
   generalize X[t] = r at *
   have hta := tick_all (row := r) hwb (by omega) (by rw [hyn]; exact row_ok HRL.out)
   have hst := fun {W : World} (h1 : RdW W y ul us ub) (h2 : RdI W u r) => stepWorld_impl h1 hys hyf h2 (by have := HRL.out.1; omega)
   have hzr := stepW_rows y r
   rw [HYR.out] at hzr
   have HZR := Lib.hid hzr
   clear hzr
   obtain ⟨ar', cr', e0, -⟩ := id r1
   subst e0
   obtain ⟨al2, cl2, e0, -⟩ := id (hrdy).1
   subst e0
   obtain ⟨aq2, cq2, e0, -⟩ := id (hrdy).2.1
   subst e0
   obtain ⟨ab2, cb2, e0, -⟩ := id (hrdy).2.2
   subst e0
   unfold wdC at hPr
   unfold RetStW wdC at hst
   rw [hyt] at hPr hst hta
   generalize stepW y r = z at *
   obtain ⟨hzb, hzt, hzn, hzk⟩ := hta
   rw [hyn] at hzn hzk
   have HZT := Lib.hid hzt
   have HZN := Lib.hid hzn
   clear hzt hzn
   rw [hyn] at hPr
   rw [hyn] at hst hrdy hAy
   have hprl := (Array.getElem?_eq_some_iff.1 hPr).1
   go_upto_region 9 with (fail)
   go_cut [8] from 28 to 34 (fun q wq => ∃ (pt lo hi : Nat) (vl vs vb : Value), q = .pointer (some ⟨pt, 0, none⟩) ∧ wq.heap[pt]? = some (.cells (wdC z vl vs vb) 30 (0, 0)) ∧ OwnWIn wq lo hi z vl vs vb ∧ (pt < lo ∨ hi ≤ pt) ∧ wr.heap.size ≤ lo ∧ hi ≤ wq.heap.size ∧ wr.heap.size ≤ pt ∧ Below wr.heap.size wr wq)
   case first =>
    have bs_0 : Below wr.heap.size wr wr.drew := belowDrew wr 1
    refine wp_region_held_drew (S := (fun w' => (∀ j, w'.cell? ⟨p, j, none⟩ = #[Value.slice al2 y.rows.length cl2, .int .i64 (t : Int), .int .i64 y.seed, .slice aq2 N cq2, .slice ab2 y.bods.length cb2][j]?) ∧ w'.cell? ⟨b, off + t, none⟩ = some (.slice ar' r.length cr'))) (by kernel_rfl) ?_ (fun hHeld => ?_)
    ·exact ⟨rowCells (keepHeap bs_0 hPr), c1 bs_0⟩
    refine tk 0 28 ?_
    (try simp only [zP, zA, zB, zC])
    refine tk 1 29 ?_
    (try simp only [zP, zA, zB, zC])
    refine tk 2 30 ?_
    (try simp only [zP, zA, zB, zC])
    refine tk 3 31 ?_
    (try simp only [zP, zA, zB, zC])
    refine tk 4 32 ?_
    (try simp only [zP, zA, zB, zC])
    refine wpAnyH_ready (rs := [5, 6]) (by kernel_rfl) (by simp) ?_
    refine AllReadyH.cons rfl (fun K hK => ?_) (AllReadyH.cons rfl (fun K hK => ?_) AllReadyH.nil)
    ·go_simp
     refine (hst (hrdy.keep bs_0) (r1.keep bs_0)).mono ?_
     rintro e u_1 ⟨vlz, vsz, vbz, rfl, ow_1, -, hb_1⟩
     have bs_1 := bs_0.trans (hb_1.mono bs_0.size)
     have sz_1 := hb_1.size
     obtain ⟨lo0, hi0, ow_1, hlo, hhi⟩ : ∃ lo hi, OwnWIn u_1 lo hi z vlz vsz vbz ∧ wr.drew.heap.size ≤ lo ∧ hi ≤ u_1.heap.size := ⟨_, _, ow_1, Nat.le_refl _, Nat.le_refl _⟩
     have rdz := ow_1.rd
     obtain ⟨alz, clz, e0, -⟩ := id rdz.1
     subst e0
     obtain ⟨aqz, cqz, e0, -⟩ := id rdz.2.1
     subst e0
     obtain ⟨abz, cbz, e0, -⟩ := id rdz.2.2
     subst e0
     clear rdz
     (try go_wp2_with (fail))
     refine hK.out _ _ ?_ (fun hHeld => ?_)
     ·exact ⟨rowCells (keepHeap bs_1 hPr), c1 bs_1⟩
     clear hK K
     (try simp only [zP, zA, zB, zC])
     refine wpAnyH_ready (rs := [6]) (by kernel_rfl) (by simp) ?_
     refine AllReadyH.cons rfl (fun K hK => ?_) AllReadyH.nil
     go_simp
     obtain ⟨u_2, hw_2, PZ_2, hb_2⟩ : ∃ W, u_1.alloc (.cells #[.slice none 0 0, .int .i64 0, .int .i64 0, .slice none 0 0, .slice none 0 0] 30) = W ∧ W.heap[u_1.heap.size]? = some (.cells #[.slice none 0 0, .int .i64 0, .int .i64 0, .slice none 0 0, .slice none 0 0] 30 (0, 0)) ∧ Below u_1.heap.size u_1 W := ⟨_, rfl, heap_alloc_new u_1 _, below1 u_1 _⟩
     try rw [hw_2]
     clear hw_2
     have bs_2 := bs_1.trans (hb_2.mono bs_1.size)
     have sz_2 := hb_2.size
     have ow_2 := ow_1.keep hb_2
     have hpl_2 := (Array.getElem?_eq_some_iff.1 PZ_2).1
     refine hK.out _ _ ?_ (fun hHeld => ?_)
     ·exact ⟨rowCells (keepHeap bs_2 hPr), c1 bs_2⟩
     clear hK K
     (try simp only [zP, zA, zB, zC])
     refine wpAnyH_ready (rs := [7]) (by kernel_rfl) (by simp) ?_
     refine AllReadyH.cons rfl (fun K hK => ?_) AllReadyH.nil
     have cn := rowCells PZ_2
     have fn := fun j => frozenHeap PZ_2 j
     go_simp
     have hsb := bs_2.size
     have hdr : wr.drew.heap.size = wr.heap.size := rfl
     have F_3 := putW_farB u_2 (u_1.heap.size) z (.slice alz z.rows.length clz) (.slice aqz z.scores.length cqz) (.slice abz z.bods.length cbz)
     have PZ_3 := putW_heap PZ_2 rfl z (.slice alz z.rows.length clz) (.slice aqz z.scores.length cqz) (.slice abz z.bods.length cbz)
     have bs_3 := putW_below bs_2 (c := u_1.heap.size) (by first | omega | (simp; done) | (simp; omega)) z (.slice alz z.rows.length clz) (.slice aqz z.scores.length cqz) (.slice abz z.bods.length cbz)
     have ow_3 := ow_2.apart F_3 (by first | omega | (simp at *; omega))
     obtain ⟨u_3, hw_3⟩ : ∃ W, putW u_2 (u_1.heap.size) z (.slice alz z.rows.length clz) (.slice aqz z.scores.length cqz) (.slice abz z.bods.length cbz) = W := ⟨_, rfl⟩
     have hz_3 : u_3.heap.size = u_2.heap.size := by rw [← hw_3]; simp [putW]
     rw [hw_3] at PZ_3 bs_3 ow_3
     unfold putW at hw_3
     try rw [hw_3]
     clear hw_3 cn fn F_3
     refine hK.out _ _ ?_ (fun hHeld => ?_)
     ·exact ⟨rowCells (keepHeap bs_3 hPr), c1 bs_3⟩
     clear hK K
     (try simp only [zP, zA, zB, zC])
     refine wpAnyH_done (by kernel_rfl) ?_ _
     have hszf := bs_3.size
     go_wp2_with (fail)
     go_meet
     case rel => exact ⟨_, _, _, _, _, _, rfl, PZ_3, ow_3, by first | omega | (simp at *; omega), by first | omega | (simp at *; omega), by first | omega | (simp at *; omega), by first | omega | (simp at *; omega), bs_3⟩
    ·go_simp
     obtain ⟨u_1, hw_1, PZ_1, hb_1⟩ : ∃ W, (wr.alloc (.cells #[.slice none 0 0, .int .i64 0, .int .i64 0, .slice none 0 0, .slice none 0 0] 30)).drew = W ∧ W.heap[wr.heap.size]? = some (.cells #[.slice none 0 0, .int .i64 0, .int .i64 0, .slice none 0 0, .slice none 0 0] 30 (0, 0)) ∧ Below wr.drew.heap.size wr.drew W := ⟨_, rfl, heap_alloc_new wr.drew _, below1 wr.drew _⟩
     try rw [hw_1]
     clear hw_1
     have bs_1 := bs_0.trans (hb_1.mono bs_0.size)
     have sz_1 := hb_1.size
     have hpl_1 := (Array.getElem?_eq_some_iff.1 PZ_1).1
     refine hK.out _ _ ?_ (fun hHeld => ?_)
     ·exact ⟨rowCells (keepHeap bs_1 hPr), c1 bs_1⟩
     clear hK K
     (try simp only [zP, zA, zB, zC])
     refine wpAnyH_ready (rs := [5]) (by kernel_rfl) (by simp) ?_
     refine AllReadyH.cons rfl (fun K hK => ?_) AllReadyH.nil
     go_simp
     refine (hst (hrdy.keep bs_1) (r1.keep bs_1)).mono ?_
     rintro e u_2 ⟨vlz, vsz, vbz, rfl, ow_2, -, hb_2⟩
     have bs_2 := bs_1.trans (hb_2.mono bs_1.size)
     have sz_2 := hb_2.size
     have PZ_2 := keepHeap hb_2 PZ_1
     obtain ⟨lo0, hi0, ow_2, hlo, hhi⟩ : ∃ lo hi, OwnWIn u_2 lo hi z vlz vsz vbz ∧ u_1.heap.size ≤ lo ∧ hi ≤ u_2.heap.size := ⟨_, _, ow_2, Nat.le_refl _, Nat.le_refl _⟩
     have rdz := ow_2.rd
     obtain ⟨alz, clz, e0, -⟩ := id rdz.1
     subst e0
     obtain ⟨aqz, cqz, e0, -⟩ := id rdz.2.1
     subst e0
     obtain ⟨abz, cbz, e0, -⟩ := id rdz.2.2
     subst e0
     clear rdz
     (try go_wp2_with (fail))
     refine hK.out _ _ ?_ (fun hHeld => ?_)
     ·exact ⟨rowCells (keepHeap bs_2 hPr), c1 bs_2⟩
     clear hK K
     (try simp only [zP, zA, zB, zC])
     refine wpAnyH_ready (rs := [7]) (by kernel_rfl) (by simp) ?_
     refine AllReadyH.cons rfl (fun K hK => ?_) AllReadyH.nil
     have cn := rowCells PZ_2
     have fn := fun j => frozenHeap PZ_2 j
     go_simp
     have hsb := bs_2.size
     have hdr : wr.drew.heap.size = wr.heap.size := rfl
     have F_3 := putW_farB u_2 (wr.heap.size) z (.slice alz z.rows.length clz) (.slice aqz z.scores.length cqz) (.slice abz z.bods.length cbz)
     have PZ_3 := putW_heap PZ_2 rfl z (.slice alz z.rows.length clz) (.slice aqz z.scores.length cqz) (.slice abz z.bods.length cbz)
     have bs_3 := putW_below bs_2 (c := wr.heap.size) (by first | omega | (simp; done) | (simp; omega)) z (.slice alz z.rows.length clz) (.slice aqz z.scores.length cqz) (.slice abz z.bods.length cbz)
     have ow_3 := ow_2.apart F_3 (by first | omega | (simp at *; omega))
     obtain ⟨u_3, hw_3⟩ : ∃ W, putW u_2 (wr.heap.size) z (.slice alz z.rows.length clz) (.slice aqz z.scores.length cqz) (.slice abz z.bods.length cbz) = W := ⟨_, rfl⟩
     have hz_3 : u_3.heap.size = u_2.heap.size := by rw [← hw_3]; simp [putW]
     rw [hw_3] at PZ_3 bs_3 ow_3
     unfold putW at hw_3
     try rw [hw_3]
     clear hw_3 cn fn F_3
     refine hK.out _ _ ?_ (fun hHeld => ?_)
     ·exact ⟨rowCells (keepHeap bs_3 hPr), c1 bs_3⟩
     clear hK K
     (try simp only [zP, zA, zB, zC])
     refine wpAnyH_done (by kernel_rfl) ?_ _
     have hszf := bs_3.size
     go_wp2_with (fail)
     go_meet
     case rel => exact ⟨_, _, _, _, _, _, rfl, PZ_3, ow_3, by first | omega | (simp at *; omega), by first | omega | (simp at *; omega), by first | omega | (simp at *; omega), by first | omega | (simp at *; omega), bs_3⟩
   obtain ⟨pz, lo, hi, vlz, vsz, vbz, rfl, Z9, oz9, hdz, hloz, hhiz, hptz, hb9⟩ := hcut
   obtain ⟨w9, ew⟩ : ∃ W, W = wc := ⟨_, rfl⟩
   subst ew
   have hzt := HZT.out
   have hzn := HZN.out
   clear hst c1 r1 r0 hc
   have rz9 := oz9.rd
   obtain ⟨alz, clz, e0, -⟩ := id rz9.1
   subst e0
   obtain ⟨aqz, cqz, e0, -⟩ := id rz9.2.1
   subst e0
   obtain ⟨abz, cbz, e0, -⟩ := id rz9.2.2
   subst e0
   clear rz9
   rw [hzn] at oz9
   have rz9 := oz9.rd
   unfold wdC at Z9
   rw [hzt] at Z9
   have P9 := keepHeap hb9 hPr
   have S9 := hSr.keep (by intro e; rw [e] at hSl; simp at hSl; omega) hb9 (by omega)
   have A9 := hAy.far (FarB.grow hb9 (by omega))
   have bw9 := hbr.trans (hb9.mono (by omega))
   have hs9 := hb9.size
   have hzs := worldB_sane hzb (by rw [HZR.out]; exact hLs)
   have hwok := worldOk_impl rz9 hzs
   rw [hzb] at hwok
   unfold wdC at hwok
   rw [hzt] at hwok
   rw [hzn] at Z9
   have hzf := fineX_of hzb
   have hyfx := fineX_of hwb
   have hzF : Fine L N z.bods := by have := (fineX_of hzb).2.2.2; rw [HZR.out, hzn] at this; exact this
   have hyF : Fine L N y.bods := by have := (fineX_of hwb).2.2.2; rw [HYR.out, hyn] at this; exact this
   have hLv : levelB L = true := by have := (fineX_of hzb).1; rw [HZR.out] at this; exact this
   have hgd := levelB_facts hLv
   clear hzf hyfx hPr hSr hAy hrdy hb9 hbr hys hyf
   have cZ := rowCells Z9
   have cP := rowCells P9
   go_wp2_with (fail)
   refine hwok.mono ?_
   rintro e wk ⟨rfl, hbk⟩
   have Zk := keepHeap hbk Z9
   have Pk := keepHeap hbk P9
   have Sk := S9.keep (by intro e; rw [e] at hSl; simp at hSl; omega) hbk (by omega)
   have Ak := A9.far (FarB.grow hbk (by omega))
   have ozk := oz9.keep hbk
   have bwk := bw9.trans (hbk.mono (by omega))
   have hsk := hbk.size
   clear hwok cZ cP Z9 P9 S9 A9 oz9 rz9 bw9 hbk
   have cZ := rowCells Zk
   have cP := rowCells Pk
   have z1 : (((t : Int) + 1) != ((t : Int) + 1)) = false := by simp
   have z2 : ((N : Int) != (N : Int)) = false := by simp
   have hw1 : IntKind.i64.wrap ((t : Int) + 1) = (t : Int) + 1 := IntWalk.i64_in _ (by omega)
   have hI0 : ∀ j, j < N → if j < 0 then Lst z (t + 1) S j else Lst y t S j := fun j hj => by rw [if_neg (by omega)]; exact hL j hj
   have hF0 : FarB (p + 1) (p + 2) wk wk := ⟨Below.refl _ _, fun _ _ _ => rfl⟩
   clear hL
   go_wp2_with (fail)
   clear z1 z2 cZ cP
   obtain ⟨v0, hv0⟩ : ∃ W, W = wr := ⟨_, rfl⟩
   subst hv0
   go_loopw [9] (fun i wq => ∃ (k : Nat) (S' : List Int), k ≤ N ∧ i = .int .i64 (k : Int) ∧ S'.length = N ∧ RowI wq (p + 1) S' ∧ FarB (p + 1) (p + 2) wk wq ∧ (∀ j, j < N → if j < k then Lst z (t + 1) S' j else Lst y t S' j)) (fun i _ => N - (intOf i).toNat)
   case atStart => exact ⟨0, S, Nat.zero_le _, rfl, hSl, Sk, hF0, hI0⟩
   case round =>
    clear Sk hI0 hF0
    obtain ⟨k, S', hk, rfl, hSl', hSq, hFq, hIk⟩ := hrel
    have hsq := hFq.1.size
    have Zq := keepHeapFar hFq Zk (by omega)
    have Pq := keepHeapFar hFq Pk (by omega)
    have Aq := Ak.far (hFq.wider (by omega) (Nat.le_refl _))
    have ozq := ozk.apart hFq (by omega)
    have rz := ozq.rd
    have ry := Aq.rd
    by_cases hkN : k < N
    ·have hki : (k : Int) < (N : Int) := by omega
     obtain ⟨hup, htr⟩ := hzk k hkN
     have hkz : k < z.bods.length := by have := hzF.1; omega
     have hky : k < y.bods.length := by have := hyF.1; omega
     have hkzi : (k : Int) < (z.bods.length : Int) := by omega
     have hkyi : (k : Int) < (y.bods.length : Int) := by omega
     have hksz : k < z.scores.length := by omega
     have hksy : k < y.scores.length := by omega
     rw [getD_i hksy, getD_i hksz] at hup
     obtain ⟨zfit, zkd, -⟩ := hzF.2.2 k hkz
     obtain ⟨yfit, ykd, -⟩ := hyF.2.2 k hky
     have zkd := zkd.2 hkN
     have ykd := ykd.2 hkN
     have hbo := fun {W : World} (h1 : RdS W (.slice alz z.rows.length clz) L) => bodyOk_impl h1 hLs (z.bods[k]) (by obtain ⟨p0, p1, p2, -⟩ := fit_parts zfit; rw [zkd] at p2; have := blockB_place hgd (S := 12) p2; exact ⟨by omega, by omega⟩) (by obtain ⟨p0, p1, p2, -⟩ := fit_parts zfit; rw [zkd] at p2; have := blockB_place hgd (S := 12) p2; exact ⟨by omega, by omega⟩) (N : Int)
     rw [show bodyOkB L (N : Int) (z.bods[k]) = true by unfold bodyOkB; rw [fit_pos, hLv, zfit]; rfl] at hbo
     have rzl : ∀ L', z.rows = L' → RdS wr (.slice alz z.rows.length clz) L' := fun _ e => by subst e; exact rz.1
     have rzl := rzl L HZR.out
     have hyt12 : ¬ (y.bods[k]).life = 0 → (y.bods[k]).timer ≤ 12 := fun h => ((kind0_facts ykd (fit_parts yfit).2.2.2.2.2).2.2.2.2 h).2
     obtain ⟨az, cz', e0, hzz⟩ := id rz.2.1
     rw [hzn] at e0
     obtain ⟨rfl, -, rfl⟩ := Value.slice.inj e0
     obtain ⟨b1, o1, e0, -⟩ := hzz.resolve_left (by intro e; rw [e] at hksz; simp at hksz)
     subst e0
     obtain ⟨az, cz', e0, hzz⟩ := id rz.2.2
     obtain ⟨rfl, -, rfl⟩ := Value.slice.inj e0
     obtain ⟨b2, o2, e0, -⟩ := hzz.resolve_left (by intro e; rw [e] at hkz; simp at hkz)
     subst e0
     obtain ⟨az, cz', e0, hzz⟩ := id ry.2.1
     rw [hyn] at e0
     obtain ⟨rfl, -, rfl⟩ := Value.slice.inj e0
     obtain ⟨b3, o3, e0, -⟩ := hzz.resolve_left (by intro e; rw [e] at hksy; simp at hksy)
     subst e0
     obtain ⟨az, cz', e0, hzz⟩ := id ry.2.2
     obtain ⟨rfl, -, rfl⟩ := Value.slice.inj e0
     obtain ⟨b4, o4, e0, -⟩ := hzz.resolve_left (by intro e; rw [e] at hky; simp at hky)
     subst e0
     have hIkk := hIk k hkN
     rw [if_neg (Nat.lt_irrefl k)] at hIkk
     have hLn := hIkk.next htr
     have hInx : ∀ (v : Int), Lst z (t + 1) (S'.set k v) k → ∀ j, j < N → if j < k + 1 then Lst z (t + 1) (S'.set k v) j else Lst y t (S'.set k v) j := fun v hv j hj => by
      by_cases e : j = k
      ·subst e; rw [if_pos (by omega)]; exact hv
      ·have h := hIk j hj
       by_cases hlt : j < k
       ·rw [if_pos hlt] at h; rw [if_pos (by omega)]; exact h.other (fun h2 => e h2.symm)
       ·rw [if_neg hlt] at h; rw [if_neg (by omega)]; exact h.other (fun h2 => e h2.symm)
     have hInn : ∀ j, j < N → if j < k + 1 then Lst z (t + 1) S' j else Lst y t S' j := fun j hj => by
      by_cases e : j = k
      ·subst e; rw [if_pos (by omega)]; exact hLn
      ·have h := hIk j hj
       by_cases hlt : j < k
       ·rw [if_pos hlt] at h; rw [if_pos (by omega)]; exact h
       ·rw [if_neg hlt] at h; rw [if_neg (by omega)]; exact h
     have hfg := fun h1 h2 h3 h4 h5 => fire_gap (e := (t : Int) - S'.getD k 0) htr h1 h2 h3 h4 h5
     have hfd := fun h1 h2 => Lst.fired (z := z) (t := t) (S := S') (j := k) (by omega) h1 h2
     rw [getD_b hkz] at hfd hfg
     rw [getD_b hky] at hfg
     unfold Lst at hIkk
     rw [getD_b hky] at hIkk
     clear hIk htr hLn hzz zfit yfit zkd ykd
     have hS : ∀ {W : World}, W.heap[pz]? = some (.cells #[Value.slice alz z.rows.length clz, .int .i64 ((t : Int) + 1), .int .i64 z.seed, .slice (some ⟨b1, o1, none⟩) N cqz, .slice (some ⟨b2, o2, none⟩) z.bods.length cbz] 30 (0, 0)) → W.heap[p]? = some (.cells #[Value.slice al2 y.rows.length cl2, .int .i64 (t : Int), .int .i64 y.seed, .slice (some ⟨b3, o3, none⟩) N cq2, .slice (some ⟨b4, o4, none⟩) y.bods.length cb2] 30 (0, 0)) → RdW W z (.slice alz z.rows.length clz) (.slice (some ⟨b1, o1, none⟩) N cqz) (.slice (some ⟨b2, o2, none⟩) z.bods.length cbz) → RdW W y (.slice al2 y.rows.length cl2) (.slice (some ⟨b3, o3, none⟩) N cq2) (.slice (some ⟨b4, o4, none⟩) y.bods.length cb2) → (fun w' : World => (∀ j, w'.cell? ⟨pz, j, none⟩ = #[Value.slice alz z.rows.length clz, .int .i64 ((t : Int) + 1), .int .i64 z.seed, .slice (some ⟨b1, o1, none⟩) N cqz, .slice (some ⟨b2, o2, none⟩) z.bods.length cbz][j]?) ∧ (∀ j, w'.cell? ⟨p, j, none⟩ = #[Value.slice al2 y.rows.length cl2, .int .i64 (t : Int), .int .i64 y.seed, .slice (some ⟨b3, o3, none⟩) N cq2, .slice (some ⟨b4, o4, none⟩) y.bods.length cb2][j]?) ∧ w'.cell? ⟨b1, o1 + k, none⟩ = some (.int .i64 z.scores[k]) ∧ w'.cell? ⟨b3, o3 + k, none⟩ = some (.int .i64 y.scores[k]) ∧ (w'.cell? ⟨b2, o2 + k * 9, none⟩ = some (.int .i64 (z.bods[k]).kind) ∧ w'.cell? ⟨b2, o2 + k * 9 + 1, none⟩ = some (.int .i64 (z.bods[k]).owner) ∧ w'.cell? ⟨b2, o2 + k * 9 + 2, none⟩ = some (.int .i64 (z.bods[k]).x) ∧ w'.cell? ⟨b2, o2 + k * 9 + 3, none⟩ = some (.int .i64 (z.bods[k]).y) ∧ w'.cell? ⟨b2, o2 + k * 9 + 4, none⟩ = some (.int .i64 (z.bods[k]).vx) ∧ w'.cell? ⟨b2, o2 + k * 9 + 5, none⟩ = some (.int .i64 (z.bods[k]).vy) ∧ w'.cell? ⟨b2, o2 + k * 9 + 6, none⟩ = some (.int .i64 (z.bods[k]).aim) ∧ w'.cell? ⟨b2, o2 + k * 9 + 7, none⟩ = some (.int .i64 (z.bods[k]).life) ∧ w'.cell? ⟨b2, o2 + k * 9 + 8, none⟩ = some (.int .i64 (z.bods[k]).timer)) ∧ w'.cell? ⟨b4, o4 + k * 9 + 7, none⟩ = some (.int .i64 (y.bods[k]).life)) W := fun h1 h2 h3 h4 => ⟨rowCells h1, rowCells h2, h3.2.1.at hksz, h4.2.1.at hksy, cells9 (h3.2.2.at hkz), (cells9 (h4.2.2.at hky)).2.2.2.2.2.2.2.1⟩
     generalize z.bods[k] = zb at *
     generalize y.bods[k] = yb at *
     generalize z.scores[k] = zs at *
     generalize y.scores[k] = ys at *
     have zl : decide (zs < ys) = false := decide_eq_false (by omega)
     clear hup
     go_upto_region 15 with (fail)
     have bs_0 : Below wr.heap.size wr wr.drew := belowDrew wr 1
     have Zq_0 : wr.drew.heap[pz]? = _ := Zq
     have Pq_0 : wr.drew.heap[p]? = _ := Pq
     refine wp_region_held_drew (S := (fun w' => (∀ j, w'.cell? ⟨pz, j, none⟩ = #[Value.slice alz z.rows.length clz, .int .i64 ((t : Int) + 1), .int .i64 z.seed, .slice (some ⟨b1, o1, none⟩) N cqz, .slice (some ⟨b2, o2, none⟩) z.bods.length cbz][j]?) ∧ (∀ j, w'.cell? ⟨p, j, none⟩ = #[Value.slice al2 y.rows.length cl2, .int .i64 (t : Int), .int .i64 y.seed, .slice (some ⟨b3, o3, none⟩) N cq2, .slice (some ⟨b4, o4, none⟩) y.bods.length cb2][j]?) ∧ w'.cell? ⟨b1, o1 + k, none⟩ = some (.int .i64 zs) ∧ w'.cell? ⟨b3, o3 + k, none⟩ = some (.int .i64 ys) ∧ (w'.cell? ⟨b2, o2 + k * 9, none⟩ = some (.int .i64 zb.kind) ∧ w'.cell? ⟨b2, o2 + k * 9 + 1, none⟩ = some (.int .i64 zb.owner) ∧ w'.cell? ⟨b2, o2 + k * 9 + 2, none⟩ = some (.int .i64 zb.x) ∧ w'.cell? ⟨b2, o2 + k * 9 + 3, none⟩ = some (.int .i64 zb.y) ∧ w'.cell? ⟨b2, o2 + k * 9 + 4, none⟩ = some (.int .i64 zb.vx) ∧ w'.cell? ⟨b2, o2 + k * 9 + 5, none⟩ = some (.int .i64 zb.vy) ∧ w'.cell? ⟨b2, o2 + k * 9 + 6, none⟩ = some (.int .i64 zb.aim) ∧ w'.cell? ⟨b2, o2 + k * 9 + 7, none⟩ = some (.int .i64 zb.life) ∧ w'.cell? ⟨b2, o2 + k * 9 + 8, none⟩ = some (.int .i64 zb.timer)) ∧ w'.cell? ⟨b4, o4 + k * 9 + 7, none⟩ = some (.int .i64 yb.life))) (by kernel_rfl) ?_ (fun hHeld => ?_)
     ·exact hS Zq_0 Pq_0 (rz.keep bs_0) (ry.keep bs_0)
     refine tk 0 57 ?_
     (try simp only [zP, zA, zB, zC])
     refine tk 1 58 ?_
     (try simp only [zP, zA, zB, zC])
     refine tk 2 59 ?_
     (try simp only [zP, zA, zB, zC])
     refine tk 3 60 ?_
     (try simp only [zP, zA, zB, zC])
     refine tk 4 61 ?_
     (try simp only [zP, zA, zB, zC])
     refine tk 5 62 ?_
     (try simp only [zP, zA, zB, zC])
     refine tk 6 63 ?_
     (try simp only [zP, zA, zB, zC])
     refine tk 7 64 ?_
     (try simp only [zP, zA, zB, zC])
     refine tk 8 65 ?_
     (try simp only [zP, zA, zB, zC])
     refine tk 9 66 ?_
     (try simp only [zP, zA, zB, zC])
     refine tk 10 67 ?_
     (try simp only [zP, zA, zB, zC])
     refine tk 11 68 ?_
     (try simp only [zP, zA, zB, zC])
     refine tw 12 69 11 68 false ?_
     (try simp only [zP, zA, zB, zC])
     refine tw 13 70 11 68 false ?_
     (try simp only [zP, zA, zB, zC])
     refine tw 14 71 11 68 false ?_
     (try simp only [zP, zA, zB, zC])
     refine tw 15 72 11 68 false ?_
     (try simp only [zP, zA, zB, zC])
     refine tw 16 73 11 68 false ?_
     (try simp only [zP, zA, zB, zC])
     refine tw 17 74 11 68 false ?_
     (try simp only [zP, zA, zB, zC])
     refine tw 18 75 11 68 false ?_
     (try simp only [zP, zA, zB, zC])
     refine tw 19 76 11 68 false ?_
     (try simp only [zP, zA, zB, zC])
     refine wpAnyH_ready (rs := [20]) (by kernel_rfl) (by simp) ?_
     refine AllReadyH.cons rfl (fun K hK => ?_) AllReadyH.nil
     go_simp
     refine (hbo (rzl.keep bs_0)).mono ?_
     rintro e w_1 ⟨rfl, hb_1⟩
     have Zq_1 := keepHeap hb_1 Zq_0
     have Pq_1 := keepHeap hb_1 Pq_0
     have bs_1 := bs_0.trans (hb_1.mono bs_0.size)
     have sz_1 := hb_1.size
     (try go_wp2_with (fail))
     refine hK.out _ _ ?_ (fun hHeld => ?_)
     ·exact hS Zq_1 Pq_1 (rz.keep bs_1) (ry.keep bs_1)
     clear hK K
     (try simp only [zP, zA, zB, zC])
     refine tw 21 78 11 68 false ?_
     (try simp only [zP, zA, zB, zC])
     refine tk 22 79 ?_
     (try simp only [zP, zA, zB, zC])
     refine wpAnyH_done (by kernel_rfl) ?_ _
     have Se := hSq.keep (by intro e; rw [e] at hSl'; simp at hSl'; omega) bs_1 (by have := hSq.lt (by intro e; rw [e] at hSl'; simp at hSl'; omega); omega)
     have Fe := hFq.trans (FarB.grow bs_1 (by omega))
     obtain ⟨cZ, cP, ca1, ca3, cz9, cy7⟩ := hS Zq_1 Pq_1 (rz.keep bs_1) (ry.keep bs_1)
     obtain ⟨-, -, -, -, -, -, -, cz7, cz8⟩ := cz9
     clear hS hbo rzl rz ry Zq Pq Aq ozq hSq hFq ca1 ca3
     by_cases h12 : zb.timer = 12
     rotate_left
     ·have z3 : ((zb.timer : Int) == 12) = false := by simpa using h12
      go_wp2_with (fail)
      go_roundw
      case rel => exact ⟨k + 1, S', by omega, by go_num, hSl', Se, Fe, hInn⟩
      case measure => simp [intOf]; omega
     have z3 : ((zb.timer : Int) == 12) = true := by simpa using h12
     by_cases hzl : 0 < zb.life
     rotate_left
     ·have z4 : decide (0 < zb.life) = false := decide_eq_false hzl
      go_wp2_with (fail)
      go_roundw
      case rel => exact ⟨k + 1, S', by omega, by go_num, hSl', Se, Fe, hInn⟩
      case measure => simp [intOf]; omega
     have z4 : decide (0 < zb.life) = true := decide_eq_true hzl
     by_cases hyl : 0 < yb.life
     rotate_left
     ·have z5 : decide (0 < yb.life) = false := decide_eq_false hyl
      go_wp2_with (fail)
      go_roundw
      case rel => exact ⟨k + 1, S', by omega, by go_num, hSl', Se, Fe, hInn⟩
      case measure => simp [intOf]; omega
     have z5 : decide (0 < yb.life) = true := decide_eq_true hyl
     have hkS : k < S'.length := by omega
     have cs := Se.1 k hkS
     have fs := Se.2 k hkS
     have hIn2 := hInx ((t : Int) + 1) (hfd h12 hzl)
     have Se2 := Se.set k hkS ((t : Int) + 1)
     have Fe2 : FarB (p + 1) (p + 2) wk (w_1.setCell ⟨p + 1, k, none⟩ (.int .i64 ((t : Int) + 1))) := Fe.trans ⟨(Below.refl _ _).setCell (p := ⟨p + 1, k, none⟩) (Nat.le_refl _) _, fun j hj hl => Below.heap_setCell _ _ _ j (by show j ≠ p + 1; omega)⟩
     rw [getD_i hkS] at hIkk
     have hgap : 0 < S'[k] → 12 ≤ (t : Int) - S'[k] + 1 := fun h0 => by
      have h := hIkk.resolve_left (by omega)
      have := hfg (by rw [getD_i hkS]; exact h.2.2) h12 hzl hyl (hyt12 (by omega))
      rw [getD_i hkS] at this; exact this
     have hsb : -1 ≤ S'[k] ∧ S'[k] ≤ 100 := by rcases hIkk with h | h <;> omega
     generalize S'[k] = sk at *
     clear cZ cP cz7 cz8 cy7 hfg hfd hInn hInx hIkk
     by_cases hs0 : 0 < sk
     ·have z6 : decide (0 < sk) = true := decide_eq_true hs0
      have hg := hgap hs0
      have hw2 : IntKind.i64.wrap ((t : Int) + 1 - sk) = (t : Int) + 1 - sk := IntWalk.i64_in _ (by omega)
      have z7 : decide ((t : Int) + 1 - sk < 12) = false := decide_eq_false (by omega)
      go_wp2_with (fail)
      go_roundw
      case rel => exact ⟨k + 1, S'.set k ((t : Int) + 1), by omega, by go_num, by simpa using hSl', Se2, Fe2, hIn2⟩
      case measure => simp [intOf]; omega
     ·have z6 : decide (0 < sk) = false := decide_eq_false hs0
      go_wp2_with (fail)
      go_roundw
      case rel => exact ⟨k + 1, S'.set k ((t : Int) + 1), by omega, by go_num, by simpa using hSl', Se2, Fe2, hIn2⟩
      case measure => simp [intOf]; omega
    ·have hkn : ¬ (k : Int) < (N : Int) := by omega
     obtain rfl : k = N := by omega
     have hLz : ∀ j, j < k → Lst z (t + 1) S' j := fun j hj => by have h := hIk j hj; rw [if_pos hj] at h; exact h
     have cZ := rowCells Zq
     have cP := rowCells Pq
     have fP := fun j => frozenHeap Pq j
     have bwq := bwk.trans (hFq.1.mono (by omega))
     clear hIk
     have hzt' : z.tick = ((t + 1 : Nat) : Int) := by rw [hzt]; omega
     go_upto_region 8 with (fail)
     have TH0 : (wdC z (.slice alz z.rows.length clz) (.slice aqz k cqz) (.slice abz z.bods.length cbz)) = #[Value.slice alz z.rows.length clz, .int .i64 ((t : Int) + 1), .int .i64 z.seed, .slice aqz k cqz, .slice abz z.bods.length cbz] := by unfold wdC; rw [hzt]
     obtain ⟨W5, e5⟩ : ∃ W, W = putW wr p z (.slice alz z.rows.length clz) (.slice aqz k cqz) (.slice abz z.bods.length cbz) := ⟨_, rfl⟩
     have P5 := putW_heap Pq rfl z (.slice alz z.rows.length clz) (.slice aqz k cqz) (.slice abz z.bods.length cbz)
     have F5 := putW_farB wr p z (.slice alz z.rows.length clz) (.slice aqz k cqz) (.slice abz z.bods.length cbz)
     have hz5 : (putW wr p z (.slice alz z.rows.length clz) (.slice aqz k cqz) (.slice abz z.bods.length cbz)).heap.size = wr.heap.size := by simp [putW]
     have S5 := hSq.same (w' := putW wr p z (.slice alz z.rows.length clz) (.slice aqz k cqz) (.slice abz z.bods.length cbz)) (F5.2 _ (Nat.le_refl _) (by omega))
     rw [← e5] at P5 F5 hz5 S5
     unfold putW at e5
     rw [hzt] at e5
     try dsimp only at e5
     rw [← e5]
     clear e5 cZ cP fP
     have o5 : OwnWIn W5 lo hi z (.slice alz z.rows.length clz) (.slice aqz k cqz) (.slice abz z.bods.length cbz) := ozq.apart F5 (by omega)
     have A5 : ApW W5 p z (.slice alz z.rows.length clz) (.slice aqz k cqz) (.slice abz z.bods.length cbz) := .inr (o5.wide (by omega) (by omega))
     have b5 := bwq.trans F5.1
     go_wp2_with (fail)
     go_roundw
     case rel => exact ⟨t + 1, z, _, _, _, S', by omega, by go_num, ⟨hzb, HZR.out, hzt', hzn⟩, P5, A5, hSl', S5, hLz, b5, by omega⟩
     case measure => simp [intOf]; omega
  ·have hti : ¬ (t : Int) < (X.length : Int) := by omega
   have hwok := worldOk_impl hrdy hys
   rw [hwb] at hwok
   obtain ⟨al2, cl2, e0, -⟩ := id (hrdy).1
   subst e0
   obtain ⟨aq2, cq2, e0, -⟩ := id (hrdy).2.1
   subst e0
   obtain ⟨ab2, cb2, e0, -⟩ := id (hrdy).2.2
   subst e0
   unfold wdC at hPr hwok
   rw [hyt, hyn] at hPr hwok
   have cP := rowCells hPr
   go_wp2_with (fail)
   refine hwok.mono ?_
   rintro e wk ⟨rfl, hbk⟩
   go_wp2_with (fail)
   go_ret
   exact ⟨rfl, (hb1.trans (hb2.mono hs1)).trans ((hbr.mono (by omega)).trans (hbk.mono (by have := hbr.size; omega)))⟩
end Go.Proofs.YtnlonkkbjkfkmaaDoor
