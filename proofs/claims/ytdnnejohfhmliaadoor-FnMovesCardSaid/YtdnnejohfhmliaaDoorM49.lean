/-
  Texts of this proof: Fst.
-/
import Derived.Test.YtdnnejohfhmliaaDoorM30
import Derived.Test.YtdnnejohfhmliaaDoorM47
import Derived.Test.YtdnnejohfhmliaaDoorM48
import Derived.Test.YtdnnejohfhmliaaDoorM32
import Derived.Test.YtdnnejohfhmliaaDoorM07
namespace Go.Proofs.YtdnnejohfhmliaaDoor
open Go.RowKit
set_option linter.all false
theorem runW_ok {x : Wd} (h : worldB x = true) (R : List (List Int)) : worldB (runW x R) = true := by
  induction R generalizing x with
  | nil => exact h
  | cons r R ih => exact ih (stepW_ok h)
theorem runW_rows (x : Wd) (R : List (List Int)) : (runW x R).rows = x.rows := by
  induction R generalizing x with
  | nil => rfl
  | cons r R ih => exact (ih _).trans (stepW_rows x r)
theorem play_x {L : Rowz} {n : Nat} {s : Int} {X : Rowi} (h : PlayOk L n s X) : nwX L n s = ⟨L, 0, s, List.replicate n 0, frsS L n⟩ ∧ worldB (nwX L n s) = true := by
  obtain ⟨h1, -, h3, h4, -, -⟩ := h
  have hk : ((n : Nat) : Int) = max 0 (min (n : Int) 5) := by omega
  have e : nwOk L n s = true := by
    unfold nwOk
    rw [h1, (inR_iff _ _ _).2 (by omega : (1 : Int) ≤ (n : Int) ∧ (n : Int) ≤ 4), (inR_iff _ _ _).2 h4]; rfl
  have e2 := nwX_s e hk
  exact ⟨e2, by rw [e2, nw_validS hk]; exact e⟩
theorem first_player {x : Wd} (h : worldB x = true) : ∃ hb : 0 < x.bods.length, fitB x.rows (x.scores.length : Int) x.bods[0] = true ∧ x.bods[0].kind = 0 ∧ x.bods[0].owner = 0 := by
  have hf := fineX_of h
  have h0 : 0 < x.bods.length := by have := hf.2.1; have := hf.2.2.2.1; omega
  obtain ⟨h1, h2, h3⟩ := hf.2.2.2.2.2 0 h0
  have hn : 0 < x.scores.length := by have := hf.2.1; omega
  exact ⟨h0, h1, h2.2 hn, by have := h3 hn; simpa using this⟩
theorem st_bits (m : Nat) (hm : m ≤ 15) : ∃ i i1 i2 i3 : Int, bits .and .i64 (m : Int) 12 = i ∧ bits .or .i64 i 1 = i1 ∧ bits .or .i64 i 2 = i2 ∧ bits .or .i64 i1 2 = i3 ∧ ((0 ≤ i ∧ i ≤ 15) ∧ (0 ≤ i1 ∧ i1 ≤ 15) ∧ (0 ≤ i2 ∧ i2 ≤ 15) ∧ (0 ≤ i3 ∧ i3 ≤ 15)) ∧
    (bits .and .i64 i 3 = 0 ∧ bits .and .i64 i1 3 = 1 ∧ bits .and .i64 i2 3 = 2 ∧ bits .and .i64 i3 3 = 3) ∧ (bits .and .i64 i1 4 = bits .and .i64 i 4 ∧ bits .and .i64 i2 4 = bits .and .i64 i 4 ∧ bits .and .i64 i3 4 = bits .and .i64 i 4) ∧ (bits .and .i64 i1 8 = bits .and .i64 i 8 ∧ bits .and .i64 i2 8 = bits .and .i64 i 8 ∧ bits .and .i64 i3 8 = bits .and .i64 i 8) := by
  have key : ∀ n : Fin 16, ((0 ≤ bits .and .i64 ((n : Nat) : Int) 12 ∧ bits .and .i64 ((n : Nat) : Int) 12 ≤ 15) ∧ (0 ≤ bits .or .i64 (bits .and .i64 ((n : Nat) : Int) 12) 1 ∧ bits .or .i64 (bits .and .i64 ((n : Nat) : Int) 12) 1 ≤ 15) ∧ (0 ≤ bits .or .i64 (bits .and .i64 ((n : Nat) : Int) 12) 2 ∧ bits .or .i64 (bits .and .i64 ((n : Nat) : Int) 12) 2 ≤ 15) ∧ (0 ≤ bits .or .i64 (bits .or .i64 (bits .and .i64 ((n : Nat) : Int) 12) 1) 2 ∧ bits .or .i64 (bits .or .i64 (bits .and .i64 ((n : Nat) : Int) 12) 1) 2 ≤ 15)) ∧
    (bits .and .i64 (bits .and .i64 ((n : Nat) : Int) 12) 3 = 0 ∧ bits .and .i64 (bits .or .i64 (bits .and .i64 ((n : Nat) : Int) 12) 1) 3 = 1 ∧ bits .and .i64 (bits .or .i64 (bits .and .i64 ((n : Nat) : Int) 12) 2) 3 = 2 ∧ bits .and .i64 (bits .or .i64 (bits .or .i64 (bits .and .i64 ((n : Nat) : Int) 12) 1) 2) 3 = 3) ∧
    (bits .and .i64 (bits .or .i64 (bits .and .i64 ((n : Nat) : Int) 12) 1) 4 = bits .and .i64 (bits .and .i64 ((n : Nat) : Int) 12) 4 ∧ bits .and .i64 (bits .or .i64 (bits .and .i64 ((n : Nat) : Int) 12) 2) 4 = bits .and .i64 (bits .and .i64 ((n : Nat) : Int) 12) 4 ∧ bits .and .i64 (bits .or .i64 (bits .or .i64 (bits .and .i64 ((n : Nat) : Int) 12) 1) 2) 4 = bits .and .i64 (bits .and .i64 ((n : Nat) : Int) 12) 4) ∧
    (bits .and .i64 (bits .or .i64 (bits .and .i64 ((n : Nat) : Int) 12) 1) 8 = bits .and .i64 (bits .and .i64 ((n : Nat) : Int) 12) 8 ∧ bits .and .i64 (bits .or .i64 (bits .and .i64 ((n : Nat) : Int) 12) 2) 8 = bits .and .i64 (bits .and .i64 ((n : Nat) : Int) 12) 8 ∧ bits .and .i64 (bits .or .i64 (bits .or .i64 (bits .and .i64 ((n : Nat) : Int) 12) 1) 2) 8 = bits .and .i64 (bits .and .i64 ((n : Nat) : Int) 12) 8) := by decide
  exact ⟨_, _, _, _, rfl, rfl, rfl, rfl, key ⟨m, by omega⟩⟩
theorem vy_eq {L : Rowz} {b : Bd} {i j : Int} (h : bits .and .i64 i 4 = bits .and .i64 j 4) : vyI L b i = vyI L b j := by unfold vyI; rw [h]
theorem t_eq {b : Bd} {i j : Int} (h : bits .and .i64 i 8 = bits .and .i64 j 8) : strT b i = strT b j := by unfold strT; rw [h]
theorem st_player {L : Rowz} {n : Int} {b : Bd} (hL : levelB L = true) (hf : fitB L n b = true) (hk : b.kind = 0) (ho : b.owner = 0) (hl : ¬ b.life = 0) (i : Int) (hi : 0 ≤ i ∧ i ≤ 15) : stB L b i = strB L b i ∧ stT L b i = strT b i := by
  obtain ⟨h0, h1, h2, h3, h4, h5⟩ := fit_parts hf
  have hk0 := kind0_facts hk h5
  refine st_go (yes_all (by rw [ho]; decide) hL (fit_mk h0 (by rw [ho]; decide) h2 h3 h4 h5) hk (by omega) ((inR_iff _ _ _).2 hi))
theorem st_four {L : Rowz} {n : Int} {b : Bd} (hL : levelB L = true) (hf : fitB L n b = true) (hk : b.kind = 0) (ho : b.owner = 0) (hl : ¬ b.life = 0) (m : Nat) (hm : m ≤ 15) :
    ∃ (i i1 i2 i3 V Tm : Int) (T : Bool), bits .and .i64 (m : Int) 12 = i ∧ bits .or .i64 i 1 = i1 ∧ bits .or .i64 i 2 = i2 ∧ bits .or .i64 i1 2 = i3 ∧
      (stB L b i = ⟨b.kind, b.owner, b.x, b.y, 0, V, b.aim, b.life, Tm⟩ ∧ stT L b i = T) ∧ (stB L b i1 = ⟨b.kind, b.owner, b.x, b.y, -3, V, -1, b.life, Tm⟩ ∧ stT L b i1 = T) ∧ (stB L b i2 = ⟨b.kind, b.owner, b.x, b.y, 3, V, 1, b.life, Tm⟩ ∧ stT L b i2 = T) ∧ (stB L b i3 = ⟨b.kind, b.owner, b.x, b.y, 0, V, b.aim, b.life, Tm⟩ ∧ stT L b i3 = T) := by
  obtain ⟨i, i1, i2, i3, e0, e1, e2, e3, ⟨r0, r1, r2, r3⟩, ⟨a0, a1, a2, a3⟩, ⟨f1, f2, f3⟩, ⟨g1, g2, g3⟩⟩ := st_bits m hm
  have hs := fun (j : Int) (hj : 0 ≤ j ∧ j ≤ 15) => st_player hL hf hk ho hl j hj
  refine ⟨i, i1, i2, i3, vyI L b i, if strT b i = true then 12 else tm1 b, strT b i, e0, e1, e2, e3, ⟨?_, (hs i r0).2⟩, ⟨?_, (hs i1 r1).2.trans (t_eq g1)⟩, ⟨?_, (hs i2 r2).2.trans (t_eq g2)⟩, ⟨?_, (hs i3 r3).2.trans (t_eq g3)⟩⟩
  · rw [(hs i r0).1]; unfold strB vxI amI; rw [a0]; rfl
  · rw [(hs i1 r1).1]; unfold strB vxI amI; rw [a1, vy_eq f1, t_eq g1]; rfl
  · rw [(hs i2 r2).1]; unfold strB vxI amI; rw [a2, vy_eq f2, t_eq g2]; rfl
  · rw [(hs i3 r3).1]; unfold strB vxI amI; rw [a3, vy_eq f3, t_eq g3]; rfl
theorem shot_l {b : Bd} (h1 : 0 ≤ b.x ∧ b.x ≤ 1000) (h2 : 0 ≤ b.y ∧ b.y ≤ 1000) (V Tm : Int) : shotB ⟨b.kind, b.owner, b.x, b.y, -3, V, -1, b.life, Tm⟩ = ⟨1, b.owner, b.x + 4, b.y + 4, -6, 0, 0, 0, 25⟩ := by
  unfold shotB
  rw [(inR_iff _ _ _).2 h1, (inR_iff _ _ _).2 h2]; rfl
theorem meet_l {b : Bd} (hk : b.kind = 0) (h1 : 0 ≤ b.x ∧ b.x ≤ 500) (h2 : 0 ≤ b.y ∧ b.y ≤ 500) (V Tm : Int) : meetB ⟨1, b.owner, b.x + 4, b.y + 4, -6, 0, 0, 0, 25⟩ ⟨b.kind, b.owner, b.x, b.y, -3, V, -1, b.life, Tm⟩ = true := by
  unfold meetB
  have s1 : sizeI 1 = 4 := rfl
  have s0 : sizeI b.kind = 12 := by rw [hk]; rfl
  dsimp only
  rw [s1, s0, (inR_iff _ _ _).2 (by omega : 0 ≤ b.x + 4 ∧ b.x + 4 ≤ 1000), (inR_iff _ _ _).2 (by omega : 0 ≤ b.y + 4 ∧ b.y + 4 ≤ 1000), (inR_iff _ _ _).2 (by omega : 0 ≤ b.x ∧ b.x ≤ 1000), (inR_iff _ _ _).2 (by omega : 0 ≤ b.y ∧ b.y ≤ 1000), decide_eq_true (by omega : b.x + 4 < b.x + 12), decide_eq_true (by omega : b.x < b.x + 4 + 4), decide_eq_true (by omega : b.y + 4 < b.y + 12), decide_eq_true (by omega : b.y < b.y + 4 + 4)]
  rfl
set_option maxRecDepth 100000 in
set_option maxHeartbeats 8000000 in
theorem lawSteered (a : Option Addr) (len cap : Nat) (zs : List Int) (w : World) (hr : IsRow .u8 w a len cap zs) :
    Calls Tryd.prog 6 #[.slice a len cap] w fun e w' => e = .returned (.bool true) ∧ Below w.heap.size w w' := by
  obtain ⟨hrd, hl⟩ := RdC.of_row hr
  clear hr
  by_cases h : 1048576 < (len : Int)
  · have b1 : decide (1048576 < (len : Int)) = true := by simpa using h
    go_enter Tryd.func6, Tryd.ntmps6
    go_wp2_with (go_at_call 7; refine (big_any hrd hl).mono ?_; rintro e w' ⟨rfl, rfl⟩)
    go_ret
    exact ⟨rfl, Below.refl _ _⟩
  have b1 : decide (1048576 < (len : Int)) = false := by simpa using h
  go_enter Tryd.func6, Tryd.ntmps6
  go_wp2_with (go_at_call 7; refine (big_any hrd hl).mono ?_; rintro e w' ⟨rfl, rfl⟩)
  refine (drawPlay_any hrd (by omega)).mono ?_
  rintro e w1 ⟨L, n, s, vl, vs, vb, v, X, rfl, rdx, rdr, hb1, hok⟩
  obtain ⟨hnx, hwb⟩ := play_x hok
  have hsn := worldB_sane hwb (by rw [hnx]; exact hok.2.1)
  have hfw := worldB_few hwb
  have hXl : X.length ≤ 1048576 := by have := hok.2.2.2.2.1; omega
  have hXr : ∀ r ∈ X, r.length ≤ 1048576 := fun r hr => by have := (hok.2.2.2.2.2 r hr).1; have := hok.2.2.1; omega
  have hrun := fun {W : World} (h1 : RdW W (nwX L n s) vl vs vb) (h2 : RdR W v X) => runWorld_spec h1 hsn hfw h2 hXl hXr
  have hyb := runW_ok hwb X
  have hLs : Sane L := hok.2.1
  have hyr : Hid ((runW (nwX L n s) X).rows = L) := Lib.hid (by rw [runW_rows, hnx])
  generalize runW (nwX L n s) X = y at *
  generalize nwX L n s = x at *
  clear hnx hok hwb hXl hXr hfw
  obtain ⟨al, cl, e0, -⟩ := id rdx.1
  subst e0
  obtain ⟨aq, cq, e0, -⟩ := id rdx.2.1
  subst e0
  obtain ⟨ab, cb, e0, -⟩ := id rdx.2.2
  subst e0
  obtain ⟨ar, cr, e0, -⟩ := id rdr
  subst e0
  unfold wdC at hrun ⊢
  go_upto_region 4 with (fail)
  obtain ⟨w2, hw2, P2, hb2⟩ : ∃ W, w1.alloc (.cells #[.slice al x.rows.length cl, .int .i64 x.tick, .int .i64 x.seed, .slice aq x.scores.length cq, .slice ab x.bods.length cb] 30) = W ∧ W.heap[w1.heap.size]? = some (.cells #[.slice al x.rows.length cl, .int .i64 x.tick, .int .i64 x.seed, .slice aq x.scores.length cq, .slice ab x.bods.length cb] 30 (0, 0)) ∧ Below w1.heap.size w1 W := ⟨_, rfl, heap_alloc_new w1 _, below1 w1 _⟩
  rw [hw2]
  clear hw2
  obtain ⟨p, hp⟩ : ∃ p, p = w1.heap.size := ⟨_, rfl⟩
  rw [← hp] at P2 ⊢
  have hs1 := hb1.size
  have hpw : w.heap.size ≤ p := by omega
  have bw2 := hb1.trans (hb2.mono hs1)
  have hpb : p < w2.heap.size := (Array.getElem?_eq_some_iff.1 P2).1
  clear hp
  have cP2 := rowCells P2
  go_wp2_with (fail)
  refine (hrun (rdx.keep hb2) (rdr.keep hb2)).mono ?_
  rintro e w3 ⟨vl3, vs3, vb3, rfl, ow3, -, hb3⟩
  have P3 := keepHeap hb3 P2
  have hpl := (Array.getElem?_eq_some_iff.1 P2).1
  have bw3 := bw2.trans (hb3.mono bw2.size)
  obtain ⟨h0l, hfit, hkd, how⟩ := first_player hyb
  have HKD := Lib.hid hkd
  have HOW := Lib.hid how
  clear hkd how
  have hrd3 := ow3.rd
  obtain ⟨al3, cl3, e0, -⟩ := id hrd3.1
  subst e0
  obtain ⟨aq3, cq3, e0, -⟩ := id hrd3.2.1
  subst e0
  obtain ⟨ab3, cb3, e0, -⟩ := id hrd3.2.2
  subst e0
  have P3w : w3.heap[p]? = some (.cells #[.slice al x.rows.length cl, .int .i64 x.tick, .int .i64 x.seed, .slice aq x.scores.length cq, .slice ab x.bods.length cb] 30 (0, 0)) := P3
  have hs2 := hb2.size
  have hs3 := hb3.size
  have cP3 := rowCells P3
  have fP3 := fun j => frozenHeap P3 j
  unfold wdC
  clear cP2
  go_upto_region 5 with (fail)
  obtain ⟨w4, e4⟩ : ∃ W, W = putW w3 p y (.slice al3 y.rows.length cl3) (.slice aq3 y.scores.length cq3) (.slice ab3 y.bods.length cb3) := ⟨_, rfl⟩
  have P4 := putW_heap P3 rfl y (.slice al3 y.rows.length cl3) (.slice aq3 y.scores.length cq3) (.slice ab3 y.bods.length cb3)
  have bw4 := putW_below bw3 (c := p) hpw y (.slice al3 y.rows.length cl3) (.slice aq3 y.scores.length cq3) (.slice ab3 y.bods.length cb3)
  have ow4 := ow3.afar (putW_farB w3 p y (.slice al3 y.rows.length cl3) (.slice aq3 y.scores.length cq3) (.slice ab3 y.bods.length cb3)) (by omega)
  rw [← e4] at P4 bw4 ow4
  unfold putW at e4
  rw [← e4]
  clear e4 cP3 fP3 P3 P3w bw3 ow3 hrd3 hrun rdx rdr
  unfold wdC at P4
  obtain ⟨a', c', e', hbd⟩ := ow4.rd.2.2
  obtain ⟨rfl, -, rfl⟩ := Value.slice.inj e'
  obtain ⟨bb, ob, e0, hcells⟩ := hbd.resolve_left (by intro e; rw [e] at h0l; simp at h0l)
  subst e0
  have hc0 := hcells 0 h0l
  rw [Nat.zero_mul, Nat.add_zero] at hc0
  have rl4 := ow4.rd.1
  have hL := (fineX_of hyb).1
  have hgd := levelB_facts hL
  have hLy : Sane y.rows := by rw [hyr.out]; exact hLs
  have h0i : (0 : Int) < (y.bods.length : Int) := by omega
  clear hcells hbd ow4 hyr hyb
  generalize y.bods[0] = b at *
  obtain ⟨d0, d1, d2, d3, d4, d5, d6, d7, d8⟩ := cells9 hc0
  have cP4 := rowCells P4
  go_upto_region 6 with (fail)
  obtain ⟨w5, hw, Qb5, ha5⟩ : ∃ W, w4.alloc (.cells #[.int .i64 b.kind, .int .i64 b.owner, .int .i64 b.x, .int .i64 b.y, .int .i64 b.vx, .int .i64 b.vy, .int .i64 b.aim, .int .i64 b.life, .int .i64 b.timer] 36) = W ∧ W.heap[w4.heap.size]? = some (.cells #[.int .i64 b.kind, .int .i64 b.owner, .int .i64 b.x, .int .i64 b.y, .int .i64 b.vx, .int .i64 b.vy, .int .i64 b.aim, .int .i64 b.life, .int .i64 b.timer] 36 (0, 0)) ∧ Below w4.heap.size w4 W := ⟨_, rfl, heap_alloc_new w4 _, below1 w4 _⟩
  rw [hw]
  clear hw
  have bw5 := bw4.trans (ha5.mono bw4.size)
  have P5 := keepHeap ha5 P4
  have rl5 := rl4.keep ha5
  obtain ⟨q5, hq⟩ : ∃ q, q = w4.heap.size := ⟨_, rfl⟩
  rw [← hq] at Qb5 ⊢
  clear hq cP4 d0 d1 d2 d3 d4 d5 d6 d7 d8 hc0 P4 bw4 rl4 ha5
  have cQ5 := rowCells Qb5
  by_cases hlf : b.life = 0
  · have z0 : ((b.life : Int) == 0) = true := by simpa using hlf
    clear hlf
    go_wp2_with (fail)
    go_ret
    exact ⟨rfl, bw5⟩
  have z0 : ((b.life : Int) == 0) = false := by simpa using hlf
  go_wp2_with (fail)
  refine (at_any (hrd.keep bw5) hl 0 (by omega) (by omega)).mono ?_
  rintro e w6 ⟨y0, hy0, rfl, rfl⟩
  obtain ⟨m, hm⟩ : ∃ m, m = y0 % 16 := ⟨_, rfl⟩
  have e1 : (y0 : Int) % 16 = (m : Int) := by omega
  obtain ⟨i, i1, i2, i3, V, Tm, T, b0, b1, b2, b3, k0, k1, k2, k3⟩ := st_four hL hfit HKD.out HOW.out hlf m (by omega)
  obtain ⟨p0, p1, p2, p3, p4, p5⟩ := fit_parts hfit
  have hpl : (0 ≤ b.x ∧ b.x < 320) ∧ (0 ≤ b.y ∧ b.y < 192) := by
    rw [HKD.out] at p2
    have := blockB_place hgd (S := 12) p2
    omega
  have hsh := shotOf_impl ⟨b.kind, b.owner, b.x, b.y, -3, V, -1, b.life, Tm⟩
  rw [shot_l (by omega) (by omega) V Tm] at hsh
  have hmt := meet_impl ⟨1, b.owner, b.x + 4, b.y + 4, -6, 0, 0, 0, 25⟩ ⟨b.kind, b.owner, b.x, b.y, -3, V, -1, b.life, Tm⟩
  rw [meet_l HKD.out (by omega) (by omega) V Tm] at hmt
  have hst := fun {W : World} (h1 : RdS W (.slice al3 y.rows.length cl3) y.rows) (j : Int) => steerPlayer_impl h1 hLy b ⟨by omega, by omega⟩ ⟨by omega, by omega⟩ j
  have hst0 := fun {W : World} (h1 : RdS W (.slice al3 y.rows.length cl3) y.rows) => hst h1 i
  have hst1 := fun {W : World} (h1 : RdS W (.slice al3 y.rows.length cl3) y.rows) => hst h1 i1
  have hst2 := fun {W : World} (h1 : RdS W (.slice al3 y.rows.length cl3) y.rows) => hst h1 i2
  have hst3 := fun {W : World} (h1 : RdS W (.slice al3 y.rows.length cl3) y.rows) => hst h1 i3
  simp only [k0.1, k0.2] at hst0
  simp only [k1.1, k1.2] at hst1
  simp only [k2.1, k2.2] at hst2
  simp only [k3.1, k3.2] at hst3
  unfold bdV at hst0 hst1 hst2 hst3 hsh hmt
  dsimp only at hst0 hst1 hst2 hst3 hsh hmt
  clear k0 k1 k2 k3 hst p0 p1 p2 p3 p4 p5 hpl hm hy0 hlf HKD HOW hfit hL hgd hLy
  have cP5 := rowCells P5
  go_wp2_with (fail)
  refine (hst3 rl5).mono ?_
  rintro e v6 ⟨rfl, hb6⟩
  have bv6 := bw5.trans (hb6.mono bw5.size)
  have PP6 := keepHeap hb6 P5
  have rv6 := rl5.keep hb6
  have Qb5_6 := keepHeap hb6 Qb5
  clear Qb5 P5 bw5 rl5 cP5 cQ5
  go_upto_region 10 with (fail)
  obtain ⟨w7, hw, QA, ha7⟩ : ∃ W, v6.alloc (.cells #[.int .i64 b.kind, .int .i64 b.owner, .int .i64 b.x, .int .i64 b.y, .int .i64 0, .int .i64 V, .int .i64 b.aim, .int .i64 b.life, .int .i64 Tm] 36) = W ∧ W.heap[v6.heap.size]? = some (.cells #[.int .i64 b.kind, .int .i64 b.owner, .int .i64 b.x, .int .i64 b.y, .int .i64 0, .int .i64 V, .int .i64 b.aim, .int .i64 b.life, .int .i64 Tm] 36 (0, 0)) ∧ Below v6.heap.size v6 W := ⟨_, rfl, heap_alloc_new v6 _, below1 v6 _⟩
  rw [hw]
  clear hw
  have bw7 := bv6.trans (ha7.mono bv6.size)
  have P7 := keepHeap ha7 PP6
  have rl7 := rv6.keep ha7
  have Qb5_6_7 := keepHeap ha7 Qb5_6
  obtain ⟨q7, hq⟩ : ∃ q, q = v6.heap.size := ⟨_, rfl⟩
  rw [← hq] at QA ⊢
  clear hq ha7 hb6 Qb5_6 PP6 bv6 rv6
  have cP7 := rowCells P7
  have cQ7 := rowCells Qb5_6_7
  go_wp2_with (fail)
  refine (hst0 rl7).mono ?_
  rintro e v8 ⟨rfl, hb8⟩
  have bv8 := bw7.trans (hb8.mono bw7.size)
  have PP8 := keepHeap hb8 P7
  have rv8 := rl7.keep hb8
  have Qb5_6_7_8 := keepHeap hb8 Qb5_6_7
  have QA_8 := keepHeap hb8 QA
  clear Qb5_6_7 QA P7 bw7 rl7 cP7 cQ7
  go_upto_region 11 with (fail)
  obtain ⟨w9, hw, QC, ha9⟩ : ∃ W, v8.alloc (.cells #[.int .i64 b.kind, .int .i64 b.owner, .int .i64 b.x, .int .i64 b.y, .int .i64 0, .int .i64 V, .int .i64 b.aim, .int .i64 b.life, .int .i64 Tm] 36) = W ∧ W.heap[v8.heap.size]? = some (.cells #[.int .i64 b.kind, .int .i64 b.owner, .int .i64 b.x, .int .i64 b.y, .int .i64 0, .int .i64 V, .int .i64 b.aim, .int .i64 b.life, .int .i64 Tm] 36 (0, 0)) ∧ Below v8.heap.size v8 W := ⟨_, rfl, heap_alloc_new v8 _, below1 v8 _⟩
  rw [hw]
  clear hw
  have bw9 := bv8.trans (ha9.mono bv8.size)
  have P9 := keepHeap ha9 PP8
  have rl9 := rv8.keep ha9
  have Qb5_6_7_8_9 := keepHeap ha9 Qb5_6_7_8
  have QA_8_9 := keepHeap ha9 QA_8
  obtain ⟨q9, hq⟩ : ∃ q, q = v8.heap.size := ⟨_, rfl⟩
  rw [← hq] at QC ⊢
  clear hq ha9 hb8 Qb5_6_7_8 QA_8 PP8 bv8 rv8
  have cP9 := rowCells P9
  have cQ9 := rowCells Qb5_6_7_8_9
  go_wp2_with (fail)
  refine (hst1 rl9).mono ?_
  rintro e v10 ⟨rfl, hb10⟩
  have bv10 := bw9.trans (hb10.mono bw9.size)
  have PP10 := keepHeap hb10 P9
  have rv10 := rl9.keep hb10
  have Qb5_6_7_8_9_10 := keepHeap hb10 Qb5_6_7_8_9
  have QA_8_9_10 := keepHeap hb10 QA_8_9
  have QC_10 := keepHeap hb10 QC
  clear Qb5_6_7_8_9 QA_8_9 QC P9 bw9 rl9 cP9 cQ9
  go_upto_region 12 with (fail)
  obtain ⟨w11, hw, QD, ha11⟩ : ∃ W, v10.alloc (.cells #[.int .i64 b.kind, .int .i64 b.owner, .int .i64 b.x, .int .i64 b.y, .int .i64 (-3), .int .i64 V, .int .i64 (-1), .int .i64 b.life, .int .i64 Tm] 36) = W ∧ W.heap[v10.heap.size]? = some (.cells #[.int .i64 b.kind, .int .i64 b.owner, .int .i64 b.x, .int .i64 b.y, .int .i64 (-3), .int .i64 V, .int .i64 (-1), .int .i64 b.life, .int .i64 Tm] 36 (0, 0)) ∧ Below v10.heap.size v10 W := ⟨_, rfl, heap_alloc_new v10 _, below1 v10 _⟩
  rw [hw]
  clear hw
  have bw11 := bv10.trans (ha11.mono bv10.size)
  have P11 := keepHeap ha11 PP10
  have rl11 := rv10.keep ha11
  have Qb5_6_7_8_9_10_11 := keepHeap ha11 Qb5_6_7_8_9_10
  have QA_8_9_10_11 := keepHeap ha11 QA_8_9_10
  have QC_10_11 := keepHeap ha11 QC_10
  obtain ⟨q11, hq⟩ : ∃ q, q = v10.heap.size := ⟨_, rfl⟩
  rw [← hq] at QD ⊢
  clear hq ha11 hb10 Qb5_6_7_8_9_10 QA_8_9_10 QC_10 PP10 bv10 rv10
  have cP11 := rowCells P11
  have cQ11 := rowCells Qb5_6_7_8_9_10_11
  go_wp2_with (fail)
  refine (hst2 rl11).mono ?_
  rintro e v12 ⟨rfl, hb12⟩
  have bv12 := bw11.trans (hb12.mono bw11.size)
  have PP12 := keepHeap hb12 P11
  have rv12 := rl11.keep hb12
  have Qb5_6_7_8_9_10_11_12 := keepHeap hb12 Qb5_6_7_8_9_10_11
  have QA_8_9_10_11_12 := keepHeap hb12 QA_8_9_10_11
  have QC_10_11_12 := keepHeap hb12 QC_10_11
  have QD_12 := keepHeap hb12 QD
  clear Qb5_6_7_8_9_10_11 QA_8_9_10_11 QC_10_11 QD P11 bw11 rl11 cP11 cQ11
  go_upto_region 13 with (fail)
  obtain ⟨w13, hw, QE, ha13⟩ : ∃ W, v12.alloc (.cells #[.int .i64 b.kind, .int .i64 b.owner, .int .i64 b.x, .int .i64 b.y, .int .i64 3, .int .i64 V, .int .i64 1, .int .i64 b.life, .int .i64 Tm] 36) = W ∧ W.heap[v12.heap.size]? = some (.cells #[.int .i64 b.kind, .int .i64 b.owner, .int .i64 b.x, .int .i64 b.y, .int .i64 3, .int .i64 V, .int .i64 1, .int .i64 b.life, .int .i64 Tm] 36 (0, 0)) ∧ Below v12.heap.size v12 W := ⟨_, rfl, heap_alloc_new v12 _, below1 v12 _⟩
  rw [hw]
  clear hw
  have bw13 := bv12.trans (ha13.mono bv12.size)
  have P13 := keepHeap ha13 PP12
  have rl13 := rv12.keep ha13
  have Qb5_6_7_8_9_10_11_12_13 := keepHeap ha13 Qb5_6_7_8_9_10_11_12
  have QA_8_9_10_11_12_13 := keepHeap ha13 QA_8_9_10_11_12
  have QC_10_11_12_13 := keepHeap ha13 QC_10_11_12
  have QD_12_13 := keepHeap ha13 QD_12
  obtain ⟨q13, hq⟩ : ∃ q, q = v12.heap.size := ⟨_, rfl⟩
  rw [← hq] at QE ⊢
  clear hq ha13 hb12 Qb5_6_7_8_9_10_11_12 QA_8_9_10_11_12 QC_10_11_12 QD_12 PP12 bv12 rv12
  have cP13 := rowCells P13
  have cQ13 := rowCells Qb5_6_7_8_9_10_11_12_13
  have cD := rowCells QD_12_13
  go_wp2_with (fail)
  refine (hsh _).mono ?_
  rintro e v14 ⟨rfl, hb14⟩
  have bv14 := bw13.trans (hb14.mono bw13.size)
  have Qb5_6_7_8_9_10_11_12_13_14 := keepHeap hb14 Qb5_6_7_8_9_10_11_12_13
  have QA_8_9_10_11_12_13_14 := keepHeap hb14 QA_8_9_10_11_12_13
  have QC_10_11_12_13_14 := keepHeap hb14 QC_10_11_12_13
  have QD_12_13_14 := keepHeap hb14 QD_12_13
  have QE_14 := keepHeap hb14 QE
  clear cD cP13 cQ13 Qb5_6_7_8_9_10_11_12_13 QA_8_9_10_11_12_13 QC_10_11_12_13 QD_12_13 QE P13 bw13 rl13
  go_upto_region 14 with (fail)
  obtain ⟨w15, hw, QS, ha15⟩ : ∃ W, v14.alloc (.cells #[.int .i64 1, .int .i64 b.owner, .int .i64 (b.x + 4), .int .i64 (b.y + 4), .int .i64 (-6), .int .i64 0, .int .i64 0, .int .i64 0, .int .i64 25] 36) = W ∧ W.heap[v14.heap.size]? = some (.cells #[.int .i64 1, .int .i64 b.owner, .int .i64 (b.x + 4), .int .i64 (b.y + 4), .int .i64 (-6), .int .i64 0, .int .i64 0, .int .i64 0, .int .i64 25] 36 (0, 0)) ∧ Below v14.heap.size v14 W := ⟨_, rfl, heap_alloc_new v14 _, below1 v14 _⟩
  rw [hw]
  clear hw
  have bw15 := bv14.trans (ha15.mono bv14.size)
  have Qb5_6_7_8_9_10_11_12_13_14_15 := keepHeap ha15 Qb5_6_7_8_9_10_11_12_13_14
  have QA_8_9_10_11_12_13_14_15 := keepHeap ha15 QA_8_9_10_11_12_13_14
  have QC_10_11_12_13_14_15 := keepHeap ha15 QC_10_11_12_13_14
  have QD_12_13_14_15 := keepHeap ha15 QD_12_13_14
  have QE_14_15 := keepHeap ha15 QE_14
  obtain ⟨q15, hq⟩ : ∃ q, q = v14.heap.size := ⟨_, rfl⟩
  rw [← hq] at QS ⊢
  clear hq ha15 hb14 Qb5_6_7_8_9_10_11_12_13_14 QA_8_9_10_11_12_13_14 QC_10_11_12_13_14 QD_12_13_14 QE_14 bv14
  have cB0 := rowCells Qb5_6_7_8_9_10_11_12_13_14_15
  have cB1 := rowCells QA_8_9_10_11_12_13_14_15
  have cB2 := rowCells QC_10_11_12_13_14_15
  have cB3 := rowCells QD_12_13_14_15
  have cB4 := rowCells QE_14_15
  have cB5 := rowCells QS
  go_wp2_with (fail)
  refine (hmt _).mono ?_
  rintro e w20 ⟨rfl, hb20⟩
  have bw20 := bw15.trans (hb20.mono bw15.size)
  go_wp2_with (fail)
  go_ret
  exact ⟨rfl, bw20⟩
end Go.Proofs.YtdnnejohfhmliaaDoor
