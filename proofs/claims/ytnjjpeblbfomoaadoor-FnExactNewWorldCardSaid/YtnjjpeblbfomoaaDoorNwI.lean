/-
  NewWorld of the program. Levels of at most 2^20 rows.
-/
import Derived.Test.YtnjjpeblbfomoaaDoorCpW
import Derived.Test.YtnjjpeblbfomoaaDoorMkW
import Derived.Test.YtnjjpeblbfomoaaDoorReg
import Derived.Deep.Cut
import Derived.Deep.CutBlock
namespace Go.Proofs.YtnjjpeblbfomoaaDoor
open Go.RowKit
set_option linter.all false
theorem zeroRow (w : World) (m : Nat) : OwnIn (w.alloc (.cells (madeCells #[.int .i64 0] m) 3)) w.heap.size (w.alloc (.cells (madeCells #[.int .i64 0] m) 3)).heap.size (.slice (some ⟨w.heap.size, 0, none⟩) m m) (List.replicate m 0) :=
  ⟨some ⟨w.heap.size, 0, none⟩, m, by simp, .inr ⟨w.heap.size, Nat.le_refl _, by simp, rfl, RowI.zeros w m⟩⟩
theorem putW_farB (w : World) (c : Nat) (x : Wd) (vl vs vb : Value) : FarB c (c + 1) w (putW w c x vl vs vb) :=
  ⟨putW_below (Below.refl _ _) (Nat.le_refl _) x vl vs vb, fun j hj _ => by
    unfold putW
    repeat (rw [Below.heap_setCell _ _ _ j (by show j ≠ c; omega)])⟩
theorem ownW_zero (w : World) (B : Nat) (hB : B ≤ w.heap.size) : OwnWIn w B w.heap.size wd0 (.slice none 0 0) (.slice none 0 0) (.slice none 0 0) :=
  ⟨B, B, B, B, B, B, ⟨Nat.le_refl _, Nat.le_refl _, hB⟩, ⟨Nat.le_refl _, Nat.le_refl _, hB⟩, ⟨Nat.le_refl _, Nat.le_refl _, hB⟩, .inl (Nat.le_refl _), .inl (Nat.le_refl _), .inl (Nat.le_refl _), ⟨none, 0, rfl, .inl rfl⟩, .inl rfl, ⟨none, 0, rfl, .inl rfl⟩, ⟨none, 0, rfl, .inl rfl⟩⟩
/-- What NewWorld leaves. -/
def RetNw (w : World) (L : Rowz) (n s : Int) (e : Ending) (w' : World) : Prop := ∃ vl vs vb, e = .returned (.tuple #[.agg (wdC (nwX L n s) vl vs vb), .bool (nwOk L n s)]) ∧ OwnWIn w' w.heap.size w'.heap.size (nwX L n s) vl vs vb ∧ CapW vl vs vb ∧ Below w.heap.size w w'
def frs (L : Rowz) (k : Nat) : List Bd := (List.range k).map fun (j : Nat) => freshB L j
theorem frs_next (L : Rowz) (k : Nat) : frs L (k + 1) = frs L k ++ [freshB L k] := by unfold frs; rw [List.range_succ, List.map_append]; rfl
theorem frs_len (L : Rowz) (k : Nat) : (frs L k).length = k := by simp [frs]
/-- The world's box behind some players; the row of bodies is the call's own. -/
def NwR (w3 wr : World) (p : Nat) (vl vs vb : Value) (s : Int) (X : List Bd) : Prop := wr.heap[p]? = some (.cells #[vl, .int .i64 0, .int .i64 s, vs, vb] 41 (0, 0)) ∧ OwnRB wr w3.heap.size vb X ∧ Below p w3 wr ∧ (∀ j, j < w3.heap.size → j ≠ p → wr.heap[j]? = w3.heap[j]?) ∧ w3.heap.size ≤ wr.heap.size
theorem nwR_next {w3 wr w2 w5 : World} {o : Obj} {p : Nat} {vl vs vb v5 : Value} {s : Int} {X Y : List Bd} (h : NwR w3 wr p vl vs vb s X) (hp : p < w3.heap.size) (h2 : Below wr.heap.size wr w2) (h5 : Below w3.heap.size (w2.alloc o) w5) (ho : OwnRB w5 w3.heap.size v5 Y) : NwR w3 (w5.setCell ⟨p, 4, none⟩ v5) p vl vs v5 s Y := by
  obtain ⟨h1, -, h3, h4, h6⟩ := h
  have hP5 := (h5.block p hp).trans (keepHeap (below1 w2 o) (keepHeap h2 h1))
  have s2 := h2.size
  have s3 := (below1 w2 o).size
  have s5 := h5.size
  refine ⟨?_, ho.aside (p := ⟨p, 4, none⟩) (ho.notBox hP5 (by decide)) v5, ?_, ?_, ?_⟩
  · exact setHeap (k := 4) (v := v5) hP5
  · exact ((h3.trans (h2.mono (by omega))).trans (((below1 w2 o).mono (by omega)).trans (h5.mono (by omega)))).setCell (p := ⟨p, 4, none⟩) (Nat.le_refl _) v5
  · intro j hj hne
    rw [Below.heap_setCell _ _ _ j (by show j ≠ p; exact hne), h5.block j hj, (below1 w2 o).block j (by omega), h2.block j (by omega)]
    exact h4 j hj hne
  · simp; omega
theorem NwR.far {w3 wr : World} {p : Nat} {vl vs vb : Value} {s : Int} {X : List Bd} (h : NwR w3 wr p vl vs vb s X) : FarB p (p + 1) w3 wr := ⟨h.2.2.1, fun j h1 h2 => h.2.2.2.1 j h2 (by omega)⟩
theorem range_made (w : World) (b : Bd) (T : TypeId) : (w.alloc (.cells #[.int .i64 b.kind, .int .i64 b.owner, .int .i64 b.x, .int .i64 b.y, .int .i64 b.vx, .int .i64 b.vy, .int .i64 b.aim, .int .i64 b.life, .int .i64 b.timer] T)).rangeAt w.heap.size 0 (bdL b) := by
  intro i v hv
  rw [Nat.zero_add, cell_of_row _ w.heap.size i _ _ (0, 0) (heap_alloc_new w _), ← hv]
  unfold bdL
  simp
theorem capW_nil : CapW (.slice none 0 0) (.slice none 0 0) (.slice none 0 0) := ⟨⟨_, _, _, rfl, Nat.le_refl _⟩, ⟨_, _, _, rfl, Nat.le_refl _⟩, ⟨_, _, _, rfl, Nat.le_refl _⟩⟩
theorem nwR_own {w3 wr : World} {p a1 b1 a2 b2 lo : Nat} {vl vs vb : Value} {s : Int} {L : Rowz} {S : List Int} {X : List Bd} (h : NwR w3 wr p vl vs vb s X) (y1 : lo ≤ a1 ∧ a1 ≤ b1 ∧ b1 ≤ w3.heap.size) (y2 : lo ≤ a2 ∧ a2 ≤ b2 ∧ b2 ≤ w3.heap.size) (z1 : b1 ≤ a2 ∨ b2 ≤ a1) (z2 : b1 ≤ p ∨ p < a1) (z3 : b2 ≤ p ∨ p < a2) (wl : WrS w3 a1 vl L) (lw : LowS b1 vl L) (oz : OwnIn w3 a2 b2 vs S) : OwnWIn wr lo wr.heap.size ⟨L, 0, s, S, X⟩ vl vs vb := by
  have hs := h.2.2.2.2
  exact ⟨a1, b1, a2, b2, w3.heap.size, wr.heap.size, ⟨by omega, by omega, by omega⟩, ⟨by omega, by omega, by omega⟩, ⟨by omega, hs, Nat.le_refl _⟩, z1, .inl y1.2.2, .inl y2.2.2, wl.apart2 lw h.far (by omega), lw, oz.apart2 h.far (by omega), OwnBdIn.of h.2.1.own⟩
set_option maxRecDepth 100000 in
set_option maxHeartbeats 16000000 in
theorem newWorld_impl {w : World} {v : Value} {L : Rowz} (h : RdS w v L) (hs : Sane L) (hfew : L.length ≤ 1048576) (n s : Int) :
    Calls Tryd.prog 26 #[.agg #[v], .int .i64 n, .int .i64 s] w (RetNw w L n s) := by
  obtain ⟨a, cap, rfl, -⟩ := id h
  obtain ⟨W0, hW, hA, hC, hB0, hS0⟩ := rows2 w #[.slice a L.length cap] #[.slice none 0 0, .int .i64 0, .int .i64 0, .slice none 0 0, .slice none 0 0] 38 41
  have cA := rowCells hA
  go_enter Tryd.func26, Tryd.ntmps26
  go_wp2_with (fail)
  try rw [hW]
  clear hW
  refine (levelOk_impl (h.keep hB0) hs).mono ?_
  rintro e w1 ⟨rfl, hb1⟩
  have hA1 := keepHeap hb1 hA
  have hC1 := keepHeap hb1 hC
  have hb01 := hB0.trans (hb1.mono hB0.size)
  have hs1 := hb1.size
  have cA1 := rowCells hA1
  have cC1 := rowCells hC1
  have fC1 := fun j => frozenHeap hC1 j
  clear cA hA hC
  cases ql : levelB L with
  | false =>
    have HO := Lib.hid (nwOk_l (n := n) (s := s) ql)
    have HX := Lib.hid (nw_no HO.out)
    go_wp2_with (fail)
    have hP := putW_heap hC1 rfl wd0 (.slice none 0 0) (.slice none 0 0) (.slice none 0 0)
    have hbP := putW_below hb01 (c := w.heap.size + 1) (by omega) wd0 (.slice none 0 0) (.slice none 0 0) (.slice none 0 0)
    have hW0 := ownW_zero (putW w1 (w.heap.size + 1) wd0 (.slice none 0 0) (.slice none 0 0) (.slice none 0 0)) w.heap.size (by have := hbP.size; omega)
    have hL := load_wd hP rfl
    unfold putW at hL hbP hW0
    refine bodyPost_ret (v := .tuple #[.agg (wdC wd0 (.slice none 0 0) (.slice none 0 0) (.slice none 0 0)), .bool false]) (results_two rfl _ _ _ _ _ rfl rfl hL) rfl ⟨(.slice none 0 0), (.slice none 0 0), (.slice none 0 0), ?_, ?_, capW_nil, hbP⟩
    · rw [HO.out, HX.out]
    · rw [HX.out]; exact hW0
  | true =>
  have QL := Lib.hid ql
  have hg : Good L := levelB_facts ql
  clear ql
  go_wp2_with (fail)
  refine (within_impl _ _ _ _).mono ?_
  rintro e w2 ⟨rfl, rfl⟩
  cases q2 : inR n 1 4 with
  | false =>
    have HO := Lib.hid (nwOk_n (L := L) (s := s) q2)
    have HX := Lib.hid (nw_no HO.out)
    go_wp2_with (fail)
    have hP := putW_heap hC1 rfl wd0 (.slice none 0 0) (.slice none 0 0) (.slice none 0 0)
    have hbP := putW_below hb01 (c := w.heap.size + 1) (by omega) wd0 (.slice none 0 0) (.slice none 0 0) (.slice none 0 0)
    have hW0 := ownW_zero (putW w1 (w.heap.size + 1) wd0 (.slice none 0 0) (.slice none 0 0) (.slice none 0 0)) w.heap.size (by have := hbP.size; omega)
    have hL := load_wd hP rfl
    unfold putW at hL hbP hW0
    refine bodyPost_ret (v := .tuple #[.agg (wdC wd0 (.slice none 0 0) (.slice none 0 0) (.slice none 0 0)), .bool false]) (results_two rfl _ _ _ _ _ rfl rfl hL) rfl ⟨(.slice none 0 0), (.slice none 0 0), (.slice none 0 0), ?_, ?_, capW_nil, hbP⟩
    · rw [HO.out, HX.out]
    · rw [HX.out]; exact hW0
  | true =>
  have hn := (inR_iff _ _ _).1 q2
  have Q2 := Lib.hid q2
  clear q2
  go_wp2_with (fail)
  refine (within_impl _ _ _ _).mono ?_
  rintro e w2 ⟨rfl, rfl⟩
  cases q3 : inR s 0 65535 with
  | false =>
    have HO := Lib.hid (nwOk_s (L := L) (n := n) q3)
    have HX := Lib.hid (nw_no HO.out)
    go_wp2_with (fail)
    have hP := putW_heap hC1 rfl wd0 (.slice none 0 0) (.slice none 0 0) (.slice none 0 0)
    have hbP := putW_below hb01 (c := w.heap.size + 1) (by omega) wd0 (.slice none 0 0) (.slice none 0 0) (.slice none 0 0)
    have hW0 := ownW_zero (putW w1 (w.heap.size + 1) wd0 (.slice none 0 0) (.slice none 0 0) (.slice none 0 0)) w.heap.size (by have := hbP.size; omega)
    have hL := load_wd hP rfl
    unfold putW at hL hbP hW0
    refine bodyPost_ret (v := .tuple #[.agg (wdC wd0 (.slice none 0 0) (.slice none 0 0) (.slice none 0 0)), .bool false]) (results_two rfl _ _ _ _ _ rfl rfl hL) rfl ⟨(.slice none 0 0), (.slice none 0 0), (.slice none 0 0), ?_, ?_, capW_nil, hbP⟩
    · rw [HO.out, HX.out]
    · rw [HX.out]; exact hW0
  | true =>
  have Q3 := Lib.hid q3
  clear q3
  obtain ⟨m, rfl⟩ : ∃ m : Nat, n = (m : Int) := ⟨n.toNat, by omega⟩
  have hm4 : m ≤ 4 := by omega
  have hm1 : 1 ≤ m := by omega
  have hmk := fun W => run_make_ints W m (by omega)
  have rl1 := h.keep hb01
  go_upto_region 3 with (fail)
  go_cut [8] from 24 (fun q wr => ∃ (p : Nat) (vl vs : Value) (a1 b1 a2 b2 : Nat), q = .pointer (some ⟨p, 0, none⟩) ∧ wr.heap[p]? = some (.cells #[vl, .int .i64 0, .int .i64 s, vs, .slice none 0 0] 41 (0, 0)) ∧ w1.heap.size ≤ p ∧ (w1.heap.size ≤ a1 ∧ a1 ≤ b1 ∧ b1 ≤ wr.heap.size) ∧ (w1.heap.size ≤ a2 ∧ a2 ≤ b2 ∧ b2 ≤ wr.heap.size) ∧ (b1 ≤ a2 ∨ b2 ≤ a1) ∧ (b1 ≤ p ∨ p < a1) ∧ (b2 ≤ p ∨ p < a2) ∧ WrS wr a1 vl L ∧ LowS b1 vl L ∧ CapI vl ∧ OwnIn wr a2 b2 vs (List.replicate m 0) ∧ CapI vs ∧ Below w1.heap.size w1 wr)
  case first =>
    have hdr : w1.drew.heap.size = w1.heap.size := rfl
    have bs_0 : Below w1.heap.size w1 w1.drew := belowDrew w1 1
    refine wp_region_held_drew (S := (fun w' => (∀ j, w'.cell? ⟨w.heap.size, j, none⟩ = #[Value.slice a L.length cap][j]?))) (by kernel_rfl) ?_ (fun hHeld => ?_)
    · exact rowCells (keepHeap bs_0 hA1)
    refine take_on (i := 0) (v := ?_) (some 24) rfl (by kernel_rfl) (by kernel_rfl) (by kernel_rfl) rfl (fun _ _ _ h => h) (by rfl) ?_ (by assumption) ?_
    rotate_left
    · intro w hSw; (try dsimp only at hSw); go_simp; (try with_reducible rfl)
    (try simp only [Act.put, List.setIfInBounds_toArray, List.set_cons_zero, List.set_cons_succ])
    refine take_on (i := 2) (v := ?_) (some 26) rfl (by kernel_rfl) (by kernel_rfl) (by kernel_rfl) rfl (fun _ _ _ h => h) (by rfl) ?_ (by assumption) ?_
    rotate_left
    · intro w hSw; (try dsimp only at hSw); go_simp; (try with_reducible rfl)
    (try simp only [Act.put, List.setIfInBounds_toArray, List.set_cons_zero, List.set_cons_succ])
    refine take_on (i := 3) (v := ?_) (some 27) rfl (by kernel_rfl) (by kernel_rfl) (by kernel_rfl) rfl (fun _ _ _ h => h) (by rfl) ?_ (by assumption) ?_
    rotate_left
    · intro w hSw; (try dsimp only at hSw); go_simp; (try with_reducible rfl)
    (try simp only [Act.put, List.setIfInBounds_toArray, List.set_cons_zero, List.set_cons_succ])
    refine wpAnyH_ready (rs := [1, 4, 6]) (by kernel_rfl) (by simp) ?_
    refine AllReadyH.cons rfl (fun K hK => ?_) (AllReadyH.cons rfl (fun K hK => ?_) (AllReadyH.cons rfl (fun K hK => ?_) AllReadyH.nil))
    · go_simp
      refine (copyLevel_impl (rl1.keep bs_0) hfew).mono ?_
      rintro e w_1 ⟨ul, rfl, wl_1, cl, hb_1⟩
      have bs_1 := bs_0.trans (hb_1.mono bs_0.size)
      have low := WrS.low wl_1
      obtain ⟨ua, uc, rfl, -⟩ := id wl_1
      (try go_wp2_with (fail))
      have sz_1 := hb_1.size
      refine hK.out _ _ ?_ (fun hHeld => ?_)
      · exact rowCells (keepHeap bs_1 hA1)
      clear hK K
      (try simp only [Act.put, List.setIfInBounds_toArray, List.set_cons_zero, List.set_cons_succ])
      refine wpAnyH_ready (rs := [4, 6]) (by kernel_rfl) (by simp) ?_
      refine AllReadyH.cons rfl (fun K hK => ?_) (AllReadyH.cons rfl (fun K hK => ?_) AllReadyH.nil)
      · go_simp
        obtain ⟨w_2, hw_2, oz_2, hb_2⟩ : ∃ W, w_1.alloc (.cells (madeCells #[.int .i64 0] m) 3) = W ∧ OwnIn W w_1.heap.size W.heap.size (.slice (some ⟨w_1.heap.size, 0, none⟩) m m) (List.replicate m 0) ∧ Below w_1.heap.size w_1 W := ⟨_, rfl, zeroRow w_1 m, below1 w_1 _⟩
        try rw [hw_2]
        have sz_2 := hb_2.size
        have bs_2 := bs_1.trans (hb_2.mono bs_1.size)
        have wl_2 := wl_1.keep hb_2
        refine hK.out _ _ ?_ (fun hHeld => ?_)
        · exact rowCells (keepHeap bs_2 hA1)
        clear hK K
        (try simp only [Act.put, List.setIfInBounds_toArray, List.set_cons_zero, List.set_cons_succ])
        refine take_on (i := 5) (v := ?_) (some 29) rfl (by kernel_rfl) (by kernel_rfl) (by kernel_rfl) rfl (fun _ _ _ h => h) (by rfl) ?_ (by assumption) ?_
        rotate_left
        · intro w hSw; (try dsimp only at hSw); go_simp; (try with_reducible rfl)
        (try simp only [Act.put, List.setIfInBounds_toArray, List.set_cons_zero, List.set_cons_succ])
        refine wpAnyH_ready (rs := [6]) (by kernel_rfl) (by simp) ?_
        refine AllReadyH.cons rfl (fun K hK => ?_) AllReadyH.nil
        go_simp
        obtain ⟨w_3, hw_3, P_3, hb_3⟩ : ∃ W, w_2.alloc (.cells #[.slice none 0 0, .int .i64 0, .int .i64 0, .slice none 0 0, .slice none 0 0] 41) = W ∧ W.heap[w_2.heap.size]? = some (.cells #[.slice none 0 0, .int .i64 0, .int .i64 0, .slice none 0 0, .slice none 0 0] 41 (0, 0)) ∧ Below w_2.heap.size w_2 W := ⟨_, rfl, heap_alloc_new w_2 _, below1 w_2 _⟩
        try rw [hw_3]
        clear hw_3
        have hp_3 := bs_2.size
        have bs_3 := bs_2.trans (hb_3.mono bs_2.size)
        have wl_3 := wl_2.keep hb_3
        have oz_3 := oz_2.keep hb_3
        have sz_3 := hb_3.size
        have ltp := (Array.getElem?_eq_some_iff.1 P_3).1
        refine hK.out _ _ ?_ (fun hHeld => ?_)
        · exact rowCells (keepHeap bs_3 hA1)
        clear hK K
        (try simp only [Act.put, List.setIfInBounds_toArray, List.set_cons_zero, List.set_cons_succ])
        refine wpAnyH_ready (rs := [7]) (by kernel_rfl) (by simp) ?_
        refine AllReadyH.cons rfl (fun K hK => ?_) AllReadyH.nil
        have cn := rowCells P_3
        have fn := fun j => frozenHeap P_3 j
        go_simp
        have F_4 := putW_farB w_3 (w_2.heap.size) ⟨[], 0, s, [], []⟩ (.slice ua L.length uc) (.slice (some ⟨w_1.heap.size, 0, none⟩) m m) (.slice none 0 0)
        have P_4 := putW_heap P_3 rfl ⟨[], 0, s, [], []⟩ (.slice ua L.length uc) (.slice (some ⟨w_1.heap.size, 0, none⟩) m m) (.slice none 0 0)
        have wl_4 := wl_3.apart2 low F_4 (by omega)
        have oz_4 := oz_3.apart2 F_4 (by omega)
        have bs_4 := putW_below bs_3 (c := w_2.heap.size) (by have := hp_3; first | omega | (simp at this ⊢; omega) | (simp at this ⊢)) ⟨[], 0, s, [], []⟩ (.slice ua L.length uc) (.slice (some ⟨w_1.heap.size, 0, none⟩) m m) (.slice none 0 0)
        obtain ⟨w_4, hw_4⟩ : ∃ W, putW w_3 (w_2.heap.size) ⟨[], 0, s, [], []⟩ (.slice ua L.length uc) (.slice (some ⟨w_1.heap.size, 0, none⟩) m m) (.slice none 0 0) = W := ⟨_, rfl⟩
        have hzz : w_4.heap.size = w_3.heap.size := by rw [← hw_4]; simp [putW]
        rw [hw_4] at P_4 bs_4 wl_4 oz_4
        unfold putW at hw_4
        try rw [hw_4]
        clear hw_4 cn fn F_4
        refine hK.out _ _ ?_ (fun hHeld => ?_)
        · exact rowCells (keepHeap bs_4 hA1)
        clear hK K
        (try simp only [Act.put, List.setIfInBounds_toArray, List.set_cons_zero, List.set_cons_succ])
        refine wpAnyH_done (by kernel_rfl) ?_ _
        go_wp2_with (fail)
        have hbs := bs_4.size
        go_meet
        case rel => exact ⟨_, _, _, w1.heap.size, w_1.heap.size, w_1.heap.size, w_2.heap.size, rfl, P_4, by omega, ⟨by omega, by omega, by omega⟩, ⟨by omega, by omega, by omega⟩, by omega, by omega, by omega, wl_4, low, cl, oz_4, ⟨_, _, _, rfl, Nat.le_refl _⟩, bs_4⟩
      · go_simp
        obtain ⟨w_2, hw_2, P_2, hb_2⟩ : ∃ W, w_1.alloc (.cells #[.slice none 0 0, .int .i64 0, .int .i64 0, .slice none 0 0, .slice none 0 0] 41) = W ∧ W.heap[w_1.heap.size]? = some (.cells #[.slice none 0 0, .int .i64 0, .int .i64 0, .slice none 0 0, .slice none 0 0] 41 (0, 0)) ∧ Below w_1.heap.size w_1 W := ⟨_, rfl, heap_alloc_new w_1 _, below1 w_1 _⟩
        try rw [hw_2]
        clear hw_2
        have hp_2 := bs_1.size
        have bs_2 := bs_1.trans (hb_2.mono bs_1.size)
        have wl_2 := wl_1.keep hb_2
        have sz_2 := hb_2.size
        have ltp := (Array.getElem?_eq_some_iff.1 P_2).1
        refine hK.out _ _ ?_ (fun hHeld => ?_)
        · exact rowCells (keepHeap bs_2 hA1)
        clear hK K
        (try simp only [Act.put, List.setIfInBounds_toArray, List.set_cons_zero, List.set_cons_succ])
        refine wpAnyH_ready (rs := [4]) (by kernel_rfl) (by simp) ?_
        refine AllReadyH.cons rfl (fun K hK => ?_) AllReadyH.nil
        go_simp
        obtain ⟨w_3, hw_3, oz_3, hb_3⟩ : ∃ W, w_2.alloc (.cells (madeCells #[.int .i64 0] m) 3) = W ∧ OwnIn W w_2.heap.size W.heap.size (.slice (some ⟨w_2.heap.size, 0, none⟩) m m) (List.replicate m 0) ∧ Below w_2.heap.size w_2 W := ⟨_, rfl, zeroRow w_2 m, below1 w_2 _⟩
        try rw [hw_3]
        have sz_3 := hb_3.size
        have bs_3 := bs_2.trans (hb_3.mono bs_2.size)
        have wl_3 := wl_2.keep hb_3
        have P_3 := keepHeap hb_3 P_2
        refine hK.out _ _ ?_ (fun hHeld => ?_)
        · exact rowCells (keepHeap bs_3 hA1)
        clear hK K
        (try simp only [Act.put, List.setIfInBounds_toArray, List.set_cons_zero, List.set_cons_succ])
        refine take_on (i := 5) (v := ?_) (some 29) rfl (by kernel_rfl) (by kernel_rfl) (by kernel_rfl) rfl (fun _ _ _ h => h) (by rfl) ?_ (by assumption) ?_
        rotate_left
        · intro w hSw; (try dsimp only at hSw); go_simp; (try with_reducible rfl)
        (try simp only [Act.put, List.setIfInBounds_toArray, List.set_cons_zero, List.set_cons_succ])
        refine wpAnyH_ready (rs := [7]) (by kernel_rfl) (by simp) ?_
        refine AllReadyH.cons rfl (fun K hK => ?_) AllReadyH.nil
        have cn := rowCells P_3
        have fn := fun j => frozenHeap P_3 j
        go_simp
        have F_4 := putW_farB w_3 (w_1.heap.size) ⟨[], 0, s, [], []⟩ (.slice ua L.length uc) (.slice (some ⟨w_2.heap.size, 0, none⟩) m m) (.slice none 0 0)
        have P_4 := putW_heap P_3 rfl ⟨[], 0, s, [], []⟩ (.slice ua L.length uc) (.slice (some ⟨w_2.heap.size, 0, none⟩) m m) (.slice none 0 0)
        have wl_4 := wl_3.apart2 low F_4 (by omega)
        have oz_4 := oz_3.apart2 F_4 (by omega)
        have bs_4 := putW_below bs_3 (c := w_1.heap.size) (by have := hp_2; first | omega | (simp at this ⊢; omega) | (simp at this ⊢)) ⟨[], 0, s, [], []⟩ (.slice ua L.length uc) (.slice (some ⟨w_2.heap.size, 0, none⟩) m m) (.slice none 0 0)
        obtain ⟨w_4, hw_4⟩ : ∃ W, putW w_3 (w_1.heap.size) ⟨[], 0, s, [], []⟩ (.slice ua L.length uc) (.slice (some ⟨w_2.heap.size, 0, none⟩) m m) (.slice none 0 0) = W := ⟨_, rfl⟩
        have hzz : w_4.heap.size = w_3.heap.size := by rw [← hw_4]; simp [putW]
        rw [hw_4] at P_4 bs_4 wl_4 oz_4
        unfold putW at hw_4
        try rw [hw_4]
        clear hw_4 cn fn F_4
        refine hK.out _ _ ?_ (fun hHeld => ?_)
        · exact rowCells (keepHeap bs_4 hA1)
        clear hK K
        (try simp only [Act.put, List.setIfInBounds_toArray, List.set_cons_zero, List.set_cons_succ])
        refine wpAnyH_done (by kernel_rfl) ?_ _
        go_wp2_with (fail)
        have hbs := bs_4.size
        go_meet
        case rel => exact ⟨_, _, _, w1.heap.size, w_1.heap.size, w_2.heap.size, w_3.heap.size, rfl, P_4, by omega, ⟨by omega, by omega, by omega⟩, ⟨by omega, by omega, by omega⟩, by omega, by omega, by omega, wl_4, low, cl, oz_4, ⟨_, _, _, rfl, Nat.le_refl _⟩, bs_4⟩
    · go_simp
      obtain ⟨w_1, hw_1, oz_1, hb_1⟩ : ∃ W, (w1.alloc (.cells (madeCells #[.int .i64 0] m) 3)).drew = W ∧ OwnIn W w1.heap.size W.heap.size (.slice (some ⟨w1.heap.size, 0, none⟩) m m) (List.replicate m 0) ∧ Below w1.drew.heap.size w1.drew W := ⟨_, rfl, zeroRow w1.drew m, below1 w1.drew _⟩
      try rw [hw_1]
      have sz_1 := hb_1.size
      have bs_1 := bs_0.trans (hb_1.mono bs_0.size)
      refine hK.out _ _ ?_ (fun hHeld => ?_)
      · exact rowCells (keepHeap bs_1 hA1)
      clear hK K
      (try simp only [Act.put, List.setIfInBounds_toArray, List.set_cons_zero, List.set_cons_succ])
      refine wpAnyH_ready (rs := [1, 6]) (by kernel_rfl) (by simp) ?_
      refine AllReadyH.cons rfl (fun K hK => ?_) (AllReadyH.cons rfl (fun K hK => ?_) AllReadyH.nil)
      · go_simp
        refine (copyLevel_impl (rl1.keep bs_1) hfew).mono ?_
        rintro e w_2 ⟨ul, rfl, wl_2, cl, hb_2⟩
        have bs_2 := bs_1.trans (hb_2.mono bs_1.size)
        have oz_2 := oz_1.keep hb_2
        have low := WrS.low wl_2
        obtain ⟨ua, uc, rfl, -⟩ := id wl_2
        (try go_wp2_with (fail))
        have sz_2 := hb_2.size
        refine hK.out _ _ ?_ (fun hHeld => ?_)
        · exact rowCells (keepHeap bs_2 hA1)
        clear hK K
        (try simp only [Act.put, List.setIfInBounds_toArray, List.set_cons_zero, List.set_cons_succ])
        refine take_on (i := 5) (v := ?_) (some 29) rfl (by kernel_rfl) (by kernel_rfl) (by kernel_rfl) rfl (fun _ _ _ h => h) (by rfl) ?_ (by assumption) ?_
        rotate_left
        · intro w hSw; (try dsimp only at hSw); go_simp; (try with_reducible rfl)
        (try simp only [Act.put, List.setIfInBounds_toArray, List.set_cons_zero, List.set_cons_succ])
        refine wpAnyH_ready (rs := [6]) (by kernel_rfl) (by simp) ?_
        refine AllReadyH.cons rfl (fun K hK => ?_) AllReadyH.nil
        go_simp
        obtain ⟨w_3, hw_3, P_3, hb_3⟩ : ∃ W, w_2.alloc (.cells #[.slice none 0 0, .int .i64 0, .int .i64 0, .slice none 0 0, .slice none 0 0] 41) = W ∧ W.heap[w_2.heap.size]? = some (.cells #[.slice none 0 0, .int .i64 0, .int .i64 0, .slice none 0 0, .slice none 0 0] 41 (0, 0)) ∧ Below w_2.heap.size w_2 W := ⟨_, rfl, heap_alloc_new w_2 _, below1 w_2 _⟩
        try rw [hw_3]
        clear hw_3
        have hp_3 := bs_2.size
        have bs_3 := bs_2.trans (hb_3.mono bs_2.size)
        have oz_3 := oz_2.keep hb_3
        have wl_3 := wl_2.keep hb_3
        have sz_3 := hb_3.size
        have ltp := (Array.getElem?_eq_some_iff.1 P_3).1
        refine hK.out _ _ ?_ (fun hHeld => ?_)
        · exact rowCells (keepHeap bs_3 hA1)
        clear hK K
        (try simp only [Act.put, List.setIfInBounds_toArray, List.set_cons_zero, List.set_cons_succ])
        refine wpAnyH_ready (rs := [7]) (by kernel_rfl) (by simp) ?_
        refine AllReadyH.cons rfl (fun K hK => ?_) AllReadyH.nil
        have cn := rowCells P_3
        have fn := fun j => frozenHeap P_3 j
        go_simp
        have F_4 := putW_farB w_3 (w_2.heap.size) ⟨[], 0, s, [], []⟩ (.slice ua L.length uc) (.slice (some ⟨w1.heap.size, 0, none⟩) m m) (.slice none 0 0)
        have P_4 := putW_heap P_3 rfl ⟨[], 0, s, [], []⟩ (.slice ua L.length uc) (.slice (some ⟨w1.heap.size, 0, none⟩) m m) (.slice none 0 0)
        have wl_4 := wl_3.apart2 low F_4 (by omega)
        have oz_4 := oz_3.apart2 F_4 (by omega)
        have bs_4 := putW_below bs_3 (c := w_2.heap.size) (by have := hp_3; first | omega | (simp at this ⊢; omega) | (simp at this ⊢)) ⟨[], 0, s, [], []⟩ (.slice ua L.length uc) (.slice (some ⟨w1.heap.size, 0, none⟩) m m) (.slice none 0 0)
        obtain ⟨w_4, hw_4⟩ : ∃ W, putW w_3 (w_2.heap.size) ⟨[], 0, s, [], []⟩ (.slice ua L.length uc) (.slice (some ⟨w1.heap.size, 0, none⟩) m m) (.slice none 0 0) = W := ⟨_, rfl⟩
        have hzz : w_4.heap.size = w_3.heap.size := by rw [← hw_4]; simp [putW]
        rw [hw_4] at P_4 bs_4 wl_4 oz_4
        unfold putW at hw_4
        try rw [hw_4]
        clear hw_4 cn fn F_4
        refine hK.out _ _ ?_ (fun hHeld => ?_)
        · exact rowCells (keepHeap bs_4 hA1)
        clear hK K
        (try simp only [Act.put, List.setIfInBounds_toArray, List.set_cons_zero, List.set_cons_succ])
        refine wpAnyH_done (by kernel_rfl) ?_ _
        go_wp2_with (fail)
        have hbs := bs_4.size
        go_meet
        case rel => exact ⟨_, _, _, w_1.heap.size, w_2.heap.size, w1.heap.size, w_1.heap.size, rfl, P_4, by omega, ⟨by omega, by omega, by omega⟩, ⟨by omega, by omega, by omega⟩, by omega, by omega, by omega, wl_4, low, cl, oz_4, ⟨_, _, _, rfl, Nat.le_refl _⟩, bs_4⟩
      · go_simp
        obtain ⟨w_2, hw_2, P_2, hb_2⟩ : ∃ W, w_1.alloc (.cells #[.slice none 0 0, .int .i64 0, .int .i64 0, .slice none 0 0, .slice none 0 0] 41) = W ∧ W.heap[w_1.heap.size]? = some (.cells #[.slice none 0 0, .int .i64 0, .int .i64 0, .slice none 0 0, .slice none 0 0] 41 (0, 0)) ∧ Below w_1.heap.size w_1 W := ⟨_, rfl, heap_alloc_new w_1 _, below1 w_1 _⟩
        try rw [hw_2]
        clear hw_2
        have hp_2 := bs_1.size
        have bs_2 := bs_1.trans (hb_2.mono bs_1.size)
        have oz_2 := oz_1.keep hb_2
        have sz_2 := hb_2.size
        have ltp := (Array.getElem?_eq_some_iff.1 P_2).1
        refine hK.out _ _ ?_ (fun hHeld => ?_)
        · exact rowCells (keepHeap bs_2 hA1)
        clear hK K
        (try simp only [Act.put, List.setIfInBounds_toArray, List.set_cons_zero, List.set_cons_succ])
        refine wpAnyH_ready (rs := [1]) (by kernel_rfl) (by simp) ?_
        refine AllReadyH.cons rfl (fun K hK => ?_) AllReadyH.nil
        go_simp
        refine (copyLevel_impl (rl1.keep bs_2) hfew).mono ?_
        rintro e w_3 ⟨ul, rfl, wl_3, cl, hb_3⟩
        have bs_3 := bs_2.trans (hb_3.mono bs_2.size)
        have oz_3 := oz_2.keep hb_3
        have P_3 := keepHeap hb_3 P_2
        have low := WrS.low wl_3
        obtain ⟨ua, uc, rfl, -⟩ := id wl_3
        (try go_wp2_with (fail))
        have sz_3 := hb_3.size
        refine hK.out _ _ ?_ (fun hHeld => ?_)
        · exact rowCells (keepHeap bs_3 hA1)
        clear hK K
        (try simp only [Act.put, List.setIfInBounds_toArray, List.set_cons_zero, List.set_cons_succ])
        refine take_on (i := 5) (v := ?_) (some 29) rfl (by kernel_rfl) (by kernel_rfl) (by kernel_rfl) rfl (fun _ _ _ h => h) (by rfl) ?_ (by assumption) ?_
        rotate_left
        · intro w hSw; (try dsimp only at hSw); go_simp; (try with_reducible rfl)
        (try simp only [Act.put, List.setIfInBounds_toArray, List.set_cons_zero, List.set_cons_succ])
        refine wpAnyH_ready (rs := [7]) (by kernel_rfl) (by simp) ?_
        refine AllReadyH.cons rfl (fun K hK => ?_) AllReadyH.nil
        have cn := rowCells P_3
        have fn := fun j => frozenHeap P_3 j
        go_simp
        have F_4 := putW_farB w_3 (w_1.heap.size) ⟨[], 0, s, [], []⟩ (.slice ua L.length uc) (.slice (some ⟨w1.heap.size, 0, none⟩) m m) (.slice none 0 0)
        have P_4 := putW_heap P_3 rfl ⟨[], 0, s, [], []⟩ (.slice ua L.length uc) (.slice (some ⟨w1.heap.size, 0, none⟩) m m) (.slice none 0 0)
        have wl_4 := wl_3.apart2 low F_4 (by omega)
        have oz_4 := oz_3.apart2 F_4 (by omega)
        have bs_4 := putW_below bs_3 (c := w_1.heap.size) (by have := hp_2; first | omega | (simp at this ⊢; omega) | (simp at this ⊢)) ⟨[], 0, s, [], []⟩ (.slice ua L.length uc) (.slice (some ⟨w1.heap.size, 0, none⟩) m m) (.slice none 0 0)
        obtain ⟨w_4, hw_4⟩ : ∃ W, putW w_3 (w_1.heap.size) ⟨[], 0, s, [], []⟩ (.slice ua L.length uc) (.slice (some ⟨w1.heap.size, 0, none⟩) m m) (.slice none 0 0) = W := ⟨_, rfl⟩
        have hzz : w_4.heap.size = w_3.heap.size := by rw [← hw_4]; simp [putW]
        rw [hw_4] at P_4 bs_4 wl_4 oz_4
        unfold putW at hw_4
        try rw [hw_4]
        clear hw_4 cn fn F_4
        refine hK.out _ _ ?_ (fun hHeld => ?_)
        · exact rowCells (keepHeap bs_4 hA1)
        clear hK K
        (try simp only [Act.put, List.setIfInBounds_toArray, List.set_cons_zero, List.set_cons_succ])
        refine wpAnyH_done (by kernel_rfl) ?_ _
        go_wp2_with (fail)
        have hbs := bs_4.size
        go_meet
        case rel => exact ⟨_, _, _, w_2.heap.size, w_3.heap.size, w1.heap.size, w_1.heap.size, rfl, P_4, by omega, ⟨by omega, by omega, by omega⟩, ⟨by omega, by omega, by omega⟩, by omega, by omega, by omega, wl_4, low, cl, oz_4, ⟨_, _, _, rfl, Nat.le_refl _⟩, bs_4⟩
    · go_simp
      obtain ⟨w_1, hw_1, P_1, hb_1⟩ : ∃ W, (w1.alloc (.cells #[.slice none 0 0, .int .i64 0, .int .i64 0, .slice none 0 0, .slice none 0 0] 41)).drew = W ∧ W.heap[w1.heap.size]? = some (.cells #[.slice none 0 0, .int .i64 0, .int .i64 0, .slice none 0 0, .slice none 0 0] 41 (0, 0)) ∧ Below w1.drew.heap.size w1.drew W := ⟨_, rfl, heap_alloc_new w1.drew _, below1 w1.drew _⟩
      try rw [hw_1]
      clear hw_1
      have hp_1 := bs_0.size
      have bs_1 := bs_0.trans (hb_1.mono bs_0.size)
      have sz_1 := hb_1.size
      have ltp := (Array.getElem?_eq_some_iff.1 P_1).1
      refine hK.out _ _ ?_ (fun hHeld => ?_)
      · exact rowCells (keepHeap bs_1 hA1)
      clear hK K
      (try simp only [Act.put, List.setIfInBounds_toArray, List.set_cons_zero, List.set_cons_succ])
      refine wpAnyH_ready (rs := [1, 4]) (by kernel_rfl) (by simp) ?_
      refine AllReadyH.cons rfl (fun K hK => ?_) (AllReadyH.cons rfl (fun K hK => ?_) AllReadyH.nil)
      · go_simp
        refine (copyLevel_impl (rl1.keep bs_1) hfew).mono ?_
        rintro e w_2 ⟨ul, rfl, wl_2, cl, hb_2⟩
        have bs_2 := bs_1.trans (hb_2.mono bs_1.size)
        have P_2 := keepHeap hb_2 P_1
        have low := WrS.low wl_2
        obtain ⟨ua, uc, rfl, -⟩ := id wl_2
        (try go_wp2_with (fail))
        have sz_2 := hb_2.size
        refine hK.out _ _ ?_ (fun hHeld => ?_)
        · exact rowCells (keepHeap bs_2 hA1)
        clear hK K
        (try simp only [Act.put, List.setIfInBounds_toArray, List.set_cons_zero, List.set_cons_succ])
        refine wpAnyH_ready (rs := [4]) (by kernel_rfl) (by simp) ?_
        refine AllReadyH.cons rfl (fun K hK => ?_) AllReadyH.nil
        go_simp
        obtain ⟨w_3, hw_3, oz_3, hb_3⟩ : ∃ W, w_2.alloc (.cells (madeCells #[.int .i64 0] m) 3) = W ∧ OwnIn W w_2.heap.size W.heap.size (.slice (some ⟨w_2.heap.size, 0, none⟩) m m) (List.replicate m 0) ∧ Below w_2.heap.size w_2 W := ⟨_, rfl, zeroRow w_2 m, below1 w_2 _⟩
        try rw [hw_3]
        have sz_3 := hb_3.size
        have bs_3 := bs_2.trans (hb_3.mono bs_2.size)
        have P_3 := keepHeap hb_3 P_2
        have wl_3 := wl_2.keep hb_3
        refine hK.out _ _ ?_ (fun hHeld => ?_)
        · exact rowCells (keepHeap bs_3 hA1)
        clear hK K
        (try simp only [Act.put, List.setIfInBounds_toArray, List.set_cons_zero, List.set_cons_succ])
        refine take_on (i := 5) (v := ?_) (some 29) rfl (by kernel_rfl) (by kernel_rfl) (by kernel_rfl) rfl (fun _ _ _ h => h) (by rfl) ?_ (by assumption) ?_
        rotate_left
        · intro w hSw; (try dsimp only at hSw); go_simp; (try with_reducible rfl)
        (try simp only [Act.put, List.setIfInBounds_toArray, List.set_cons_zero, List.set_cons_succ])
        refine wpAnyH_ready (rs := [7]) (by kernel_rfl) (by simp) ?_
        refine AllReadyH.cons rfl (fun K hK => ?_) AllReadyH.nil
        have cn := rowCells P_3
        have fn := fun j => frozenHeap P_3 j
        go_simp
        have F_4 := putW_farB w_3 (w1.heap.size) ⟨[], 0, s, [], []⟩ (.slice ua L.length uc) (.slice (some ⟨w_2.heap.size, 0, none⟩) m m) (.slice none 0 0)
        have P_4 := putW_heap P_3 rfl ⟨[], 0, s, [], []⟩ (.slice ua L.length uc) (.slice (some ⟨w_2.heap.size, 0, none⟩) m m) (.slice none 0 0)
        have wl_4 := wl_3.apart2 low F_4 (by omega)
        have oz_4 := oz_3.apart2 F_4 (by omega)
        have bs_4 := putW_below bs_3 (c := w1.heap.size) (by have := hp_1; first | omega | (simp at this ⊢; omega) | (simp at this ⊢)) ⟨[], 0, s, [], []⟩ (.slice ua L.length uc) (.slice (some ⟨w_2.heap.size, 0, none⟩) m m) (.slice none 0 0)
        obtain ⟨w_4, hw_4⟩ : ∃ W, putW w_3 (w1.heap.size) ⟨[], 0, s, [], []⟩ (.slice ua L.length uc) (.slice (some ⟨w_2.heap.size, 0, none⟩) m m) (.slice none 0 0) = W := ⟨_, rfl⟩
        have hzz : w_4.heap.size = w_3.heap.size := by rw [← hw_4]; simp [putW]
        rw [hw_4] at P_4 bs_4 wl_4 oz_4
        unfold putW at hw_4
        try rw [hw_4]
        clear hw_4 cn fn F_4
        refine hK.out _ _ ?_ (fun hHeld => ?_)
        · exact rowCells (keepHeap bs_4 hA1)
        clear hK K
        (try simp only [Act.put, List.setIfInBounds_toArray, List.set_cons_zero, List.set_cons_succ])
        refine wpAnyH_done (by kernel_rfl) ?_ _
        go_wp2_with (fail)
        have hbs := bs_4.size
        go_meet
        case rel => exact ⟨_, _, _, w_1.heap.size, w_2.heap.size, w_2.heap.size, w_3.heap.size, rfl, P_4, by omega, ⟨by omega, by omega, by omega⟩, ⟨by omega, by omega, by omega⟩, by omega, by omega, by omega, wl_4, low, cl, oz_4, ⟨_, _, _, rfl, Nat.le_refl _⟩, bs_4⟩
      · go_simp
        obtain ⟨w_2, hw_2, oz_2, hb_2⟩ : ∃ W, w_1.alloc (.cells (madeCells #[.int .i64 0] m) 3) = W ∧ OwnIn W w_1.heap.size W.heap.size (.slice (some ⟨w_1.heap.size, 0, none⟩) m m) (List.replicate m 0) ∧ Below w_1.heap.size w_1 W := ⟨_, rfl, zeroRow w_1 m, below1 w_1 _⟩
        try rw [hw_2]
        have sz_2 := hb_2.size
        have bs_2 := bs_1.trans (hb_2.mono bs_1.size)
        have P_2 := keepHeap hb_2 P_1
        refine hK.out _ _ ?_ (fun hHeld => ?_)
        · exact rowCells (keepHeap bs_2 hA1)
        clear hK K
        (try simp only [Act.put, List.setIfInBounds_toArray, List.set_cons_zero, List.set_cons_succ])
        refine wpAnyH_ready (rs := [1]) (by kernel_rfl) (by simp) ?_
        refine AllReadyH.cons rfl (fun K hK => ?_) AllReadyH.nil
        go_simp
        refine (copyLevel_impl (rl1.keep bs_2) hfew).mono ?_
        rintro e w_3 ⟨ul, rfl, wl_3, cl, hb_3⟩
        have bs_3 := bs_2.trans (hb_3.mono bs_2.size)
        have P_3 := keepHeap hb_3 P_2
        have oz_3 := oz_2.keep hb_3
        have low := WrS.low wl_3
        obtain ⟨ua, uc, rfl, -⟩ := id wl_3
        (try go_wp2_with (fail))
        have sz_3 := hb_3.size
        refine hK.out _ _ ?_ (fun hHeld => ?_)
        · exact rowCells (keepHeap bs_3 hA1)
        clear hK K
        (try simp only [Act.put, List.setIfInBounds_toArray, List.set_cons_zero, List.set_cons_succ])
        refine take_on (i := 5) (v := ?_) (some 29) rfl (by kernel_rfl) (by kernel_rfl) (by kernel_rfl) rfl (fun _ _ _ h => h) (by rfl) ?_ (by assumption) ?_
        rotate_left
        · intro w hSw; (try dsimp only at hSw); go_simp; (try with_reducible rfl)
        (try simp only [Act.put, List.setIfInBounds_toArray, List.set_cons_zero, List.set_cons_succ])
        refine wpAnyH_ready (rs := [7]) (by kernel_rfl) (by simp) ?_
        refine AllReadyH.cons rfl (fun K hK => ?_) AllReadyH.nil
        have cn := rowCells P_3
        have fn := fun j => frozenHeap P_3 j
        go_simp
        have F_4 := putW_farB w_3 (w1.heap.size) ⟨[], 0, s, [], []⟩ (.slice ua L.length uc) (.slice (some ⟨w_1.heap.size, 0, none⟩) m m) (.slice none 0 0)
        have P_4 := putW_heap P_3 rfl ⟨[], 0, s, [], []⟩ (.slice ua L.length uc) (.slice (some ⟨w_1.heap.size, 0, none⟩) m m) (.slice none 0 0)
        have wl_4 := wl_3.apart2 low F_4 (by omega)
        have oz_4 := oz_3.apart2 F_4 (by omega)
        have bs_4 := putW_below bs_3 (c := w1.heap.size) (by have := hp_1; first | omega | (simp at this ⊢; omega) | (simp at this ⊢)) ⟨[], 0, s, [], []⟩ (.slice ua L.length uc) (.slice (some ⟨w_1.heap.size, 0, none⟩) m m) (.slice none 0 0)
        obtain ⟨w_4, hw_4⟩ : ∃ W, putW w_3 (w1.heap.size) ⟨[], 0, s, [], []⟩ (.slice ua L.length uc) (.slice (some ⟨w_1.heap.size, 0, none⟩) m m) (.slice none 0 0) = W := ⟨_, rfl⟩
        have hzz : w_4.heap.size = w_3.heap.size := by rw [← hw_4]; simp [putW]
        rw [hw_4] at P_4 bs_4 wl_4 oz_4
        unfold putW at hw_4
        try rw [hw_4]
        clear hw_4 cn fn F_4
        refine hK.out _ _ ?_ (fun hHeld => ?_)
        · exact rowCells (keepHeap bs_4 hA1)
        clear hK K
        (try simp only [Act.put, List.setIfInBounds_toArray, List.set_cons_zero, List.set_cons_succ])
        refine wpAnyH_done (by kernel_rfl) ?_ _
        go_wp2_with (fail)
        have hbs := bs_4.size
        go_meet
        case rel => exact ⟨_, _, _, w_2.heap.size, w_3.heap.size, w_1.heap.size, w_2.heap.size, rfl, P_4, by omega, ⟨by omega, by omega, by omega⟩, ⟨by omega, by omega, by omega⟩, by omega, by omega, by omega, wl_4, low, cl, oz_4, ⟨_, _, _, rfl, Nat.le_refl _⟩, bs_4⟩
  obtain ⟨p, vl, vs, a1, b1, a2, b2, rfl, hP3, hp1, y1, y2, z1, z2, z3, wl3, lo3, cl3, oz3, cs3, hb3⟩ := hcut
  obtain ⟨w3, ew⟩ : ∃ w3, w3 = wc := ⟨_, rfl⟩
  subst ew
  have hA3 := keepHeap hb3 hA1
  have hC3 := keepHeap hb3 hC1
  have hs3 := hb3.size
  have hp3 : p < w3.heap.size := (Array.getElem?_eq_some_iff.1 hP3).1
  have HX := Lib.hid (nw_yes (nwOk_ok QL.out Q2.out Q3.out))
  have HOK := Lib.hid (nwOk_ok QL.out Q2.out Q3.out)
  clear cA1 cC1 fC1 hmk hA1 hC1 rl1
  have HC3 := Lib.hid cl3
  have HS3 := Lib.hid cs3
  clear cl3 cs3
  obtain ⟨ua, uc, rfl, -⟩ := id wl3
  obtain ⟨us, vc, hvs, -⟩ := id oz3
  rw [List.length_replicate] at hvs
  subst hvs
  go_wp2_with (fail)
  go_loopw [31] (fun i wr => ∃ (k : Nat) (vb : Value), k ≤ m ∧ i = .int .i64 (k : Int) ∧ NwR w3 wr p (.slice ua L.length uc) (.slice us m vc) vb s (frs L k)) (fun i _ => m - (intOf i).toNat)
  case atStart => exact ⟨0, .slice none 0 0, Nat.zero_le _, rfl, hP3, OwnRB.nil _ _, Below.refl _ _, fun _ _ _ => rfl, Nat.le_refl _⟩
  case round =>
    obtain ⟨k, vb, hk, rfl, hR⟩ := hrel
    have hPr := hR.1
    have hOr := hR.2.1
    have hsr := hR.2.2.2.2
    have hAr := (hR.2.2.2.1 w.heap.size (by omega) (by omega)).trans hA3
    have hCr := (hR.2.2.2.1 (w.heap.size + 1) (by omega) (by omega)).trans hC3
    have hb0r : Below w.heap.size w wr := (hb01.trans (hb3.mono (by omega))).trans (hR.2.2.1.mono (by omega))
    obtain ⟨ab, cb, rfl, -⟩ := id hOr.own
    have cA := rowCells hAr
    have cP := rowCells hPr
    by_cases hkm : k < m
    · obtain ⟨X1, hX1⟩ : ∃ X1, X1 = frs L (k + 1) := ⟨_, rfl⟩
      have HX1 := Lib.hid hX1
      have hN := frs_next L k
      obtain ⟨nb, hnb⟩ : ∃ nb, nb = freshB L k := ⟨_, rfl⟩
      have hNP : ∀ {W : World}, Below wr.heap.size wr W → Calls Tryd.prog 73 #[.agg #[.slice a L.length cap], .int .i64 (k : Int)] W fun e w' => e = .returned (bdV nb) ∧ Below W.heap.size W w' := fun hb => by rw [hnb]; exact newPlayer_impl ((h.keep hb0r).keep hb) hg k (by omega)
      unfold bdV at hNP
      rw [← hnb, ← hX1] at hN
      have HN := Lib.hid hN
      have HLN := Lib.hid (frs_len L k)
      have hkk : (k : Int) < (m : Int) := by omega
      have HO := Lib.hid hOr
      have HR := Lib.hid hR
      clear hN hX1 hOr hR hnb
      go_wp2_with (fail)
      go_region_law (first
        | (refine step_body rfl (.tmp 35) (.tmp 39) rfl w3.heap.size _ (frs L k) rfl (World.ownsRow.alloc hO2 _) w2.heap.size nb rfl (range_made w2 nb _) (by have := HLN.out; omega) (by simp; omega) ?_; intro v5 w5 hown5 hb5 hg5; rw [← HN.out] at hown5; obtain ⟨a5, c5, rfl, -⟩ := id hown5.own; have hP5 := (hb5.block p hp3).trans (keepHeap (below1 w2 _) hP2); have cP5 := rowCells hP5; have fP5 := frozenHeap hP5 4)
        | (go_simp; go_at_call 73; refine (hNP (belowDrew wr 1)).mono ?_; rintro e w2 ⟨rfl, hb2⟩; have hb2r := (belowDrew wr 1).trans hb2; have hP2 := keepHeap hb2r hPr; have hO2 := HO.out.keep hb2r (Nat.le_refl _); have cP2 := rowCells hP2; have cP2b := rowCells (keepHeap (below1 w2 (.cells #[.int .i64 nb.kind, .int .i64 nb.owner, .int .i64 nb.x, .int .i64 nb.y, .int .i64 nb.vx, .int .i64 nb.vy, .int .i64 nb.aim, .int .i64 nb.life, .int .i64 nb.timer] 89)) hP2); have hs2 := hb2r.size))
      all_goals
        go_wp2_with (fail)
        go_roundw
        case rel => exact ⟨k + 1, _, by omega, by go_num, by rw [← HX1.out]; exact nwR_next HR.out hp3 hb2r hb5 hown5⟩
        case measure => simp [intOf]; omega
    · obtain rfl : k = m := by omega
      have hkk : ¬ (k : Int) < (k : Int) := by omega
      have HW := Lib.hid (nwR_own hR y1 y2 z1 z2 z3 wl3 lo3 oz3)
      have HCB := Lib.hid hOr.capd
      have cC := rowCells hCr
      have fC := fun j => frozenHeap hCr j
      have HLN := Lib.hid (frs_len L k)
      clear hOr hR
      go_wp2_with (fail)
      have hP := putW_heap hCr rfl ⟨L, 0, s, List.replicate k 0, frs L k⟩ (.slice ua L.length uc) (.slice us k vc) (.slice ab (frs L k).length cb)
      have hbP := putW_below hb0r (c := w.heap.size + 1) (by omega) ⟨L, 0, s, List.replicate k 0, frs L k⟩ (.slice ua L.length uc) (.slice us k vc) (.slice ab (frs L k).length cb)
      have hOwn := (HW.out.afar (putW_farB wr (w.heap.size + 1) ⟨L, 0, s, List.replicate k 0, frs L k⟩ (.slice ua L.length uc) (.slice us k vc) (.slice ab (frs L k).length cb)) (by omega)).wide (lo' := w.heap.size) (hi' := (putW wr (w.heap.size + 1) ⟨L, 0, s, List.replicate k 0, frs L k⟩ (.slice ua L.length uc) (.slice us k vc) (.slice ab (frs L k).length cb)).heap.size) (by omega) (by simp [putW])
      have hL := load_wd hP rfl
      unfold putW at hL hbP hOwn
      refine bodyPost_ret (v := .tuple #[.agg (wdC ⟨L, 0, s, List.replicate k 0, frs L k⟩ (.slice ua L.length uc) (.slice us k vc) (.slice ab (frs L k).length cb)), .bool true]) (results_two rfl _ _ _ _ _ rfl rfl hL) rfl ⟨_, _, _, ?_, ?_, ⟨HC3.out, HS3.out, HCB.out⟩, hbP⟩
      · rw [HOK.out, HX.out]; rfl
      · rw [HX.out]; exact hOwn
end Go.Proofs.YtnjjpeblbfomoaaDoor
