/-
  The model's draws of tracks: whatever the code, valid tracks come.
-/
import Derived.Test.YtgbdpmaajihfdaaDrI
import Derived.Test.YtgbdpmaajihfdaaCpT
import Derived.Test.YtgbdpmaajihfdaaStI
namespace Go.Proofs.Ytgbdpmaajihfdaa
open Go.RowKit
set_option linter.all false
/-- Inputs as they are drawn. -/
def Ins (xs : List Int) : Prop := ∀ x ∈ xs, 0 ≤ x ∧ x ≤ 15
/-- The track's box while it is drawn. -/
def DrR (w : World) (B c len : Nat) (wr : World) (v : Value) (xs : List Int) : Prop := wr.heap[w.heap.size]? = some (.cells #[.slice none 0 0] 29 (0, 0)) ∧ wr.heap[w.heap.size + 1]? = some (.cells #[v] 29 (0, 0)) ∧ OwnR wr (w.heap.size + 2) v xs ∧ Cur wr B c len ∧ w.grownBy wr (some c) ∧ w.heap.size + 2 ≤ wr.heap.size ∧ Ins xs
theorem DrR.drawn {w wr w1 : World} {B c len : Nat} {v : Value} {xs : List Int} (h : DrR w B c len wr v xs) (hc : c < w.heap.size) (hcur : Cur w1 B c len) (g : wr.grownBy w1 (some c)) : DrR w B c len w1 v xs := by
  obtain ⟨h1, h2, h3, h4, h5, h6, h7⟩ := h
  refine ⟨(g.block _ (by omega) (by simp; omega)).trans h1, (g.block _ (by omega) (by simp; omega)).trans h2, World.ownsRow.kept h3.row g ?_, hcur, grown_trans h5 g, Nat.le_trans h6 g.size, h7⟩
  rcases h3.2 with ⟨rfl, _⟩ | ⟨k, cap, cur, rfl, hB, _⟩
  · exact .inl rfl
  · refine .inr fun e => ?_
    have : k = c := Option.some.inj e
    omega
theorem DrR.more {w wr w1 : World} {B c len : Nat} {v v' : Value} {xs : List Int} {x : Int} (h : DrR w B c len wr v xs) (hc : c < w.heap.size) (hb : Below (w.heap.size + 2) wr w1) (ho : OwnR w1 (w.heap.size + 2) v' (xs ++ [x])) (hx : 0 ≤ x ∧ x ≤ 15) : DrR w B c len (w1.setCell ⟨w.heap.size + 1, 0, none⟩ v') v' (xs ++ [x]) := by
  obtain ⟨h1, h2, h3, h4, h5, h6, h7⟩ := h
  have hP := (hb.block (w.heap.size + 1) (by omega)).trans h2
  have hb2 : Below (w.heap.size + 1) w1 (w1.setCell ⟨w.heap.size + 1, 0, none⟩ v') := (Below.refl _ _).setCell (p := ⟨w.heap.size + 1, 0, none⟩) (Nat.le_refl _) v'
  refine ⟨?_, setHeap (k := 0) (v := v') hP, ho.aside (p := ⟨w.heap.size + 1, 0, none⟩) (ho.notBox hP (by decide)) v', (h4.low hb (by omega)).low hb2 (by omega), grown_low (grown_low h5 hb (by omega)) hb2 (by omega), by have := hb.size; simp; omega, ?_⟩
  · rw [hb2.block _ (by omega), hb.block _ (by omega)]; exact h1
  · intro y hy
    rcases List.mem_append.1 hy with hy | hy
    · exact h7 y hy
    · simp at hy; subst hy; exact hx
def RetDr (w : World) (B c len : Nat) (e : Ending) (w' : World) : Prop := ∃ v xs, e = .returned (.agg #[v]) ∧ OwnI w' w.heap.size v xs ∧ CapI v ∧ Ins xs ∧ xs.length ≤ 35 ∧ Cur w' B c len ∧ w.grownBy w' (some c)
set_option maxHeartbeats 2000000 in
theorem drawTrack_any {w : World} {B c len : Nat} (hcur : Cur w B c len) (hl : len ≤ 1048576) :
    Calls Try.prog 21 #[.pointer (some ⟨c, 0, none⟩)] w (RetDr w B c len) := by
  have hlt := hcur.lt
  obtain ⟨W0, hW, hA, hP, hB0, hS0⟩ := rows2 w #[.slice none 0 0] #[.slice none 0 0] 29 29
  have cP0 := rowCells hP
  have fP0 := frozenHeap hP 0
  go_enter Try.func21, Try.ntmps21
  go_wp2_with (fail)
  try rw [hW]
  clear hW cP0 fP0
  have hb' : Below w.heap.size w (W0.setCell ⟨w.heap.size + 1, 0, none⟩ (.slice none 0 0)) := hB0.setCell (p := ⟨w.heap.size + 1, 0, none⟩) (by show _ ≤ w.heap.size + 1; omega) _
  have hR0 : DrR w B c len (W0.setCell ⟨w.heap.size + 1, 0, none⟩ (.slice none 0 0)) (.slice none 0 0) [] := ⟨(Below.heap_setCell _ _ _ w.heap.size (by show w.heap.size ≠ w.heap.size + 1; omega)).trans hA, setHeap (k := 0) (v := .slice none 0 0) hP, World.ownsRow_nil _ _ _ _, hcur.low hb' hlt, ⟨hb'.os, hb'.tape, hb'.output, hb'.size, fun k hk _ => hb'.block k hk⟩, by simp; omega, fun x hx => by cases hx⟩
  refine (below_any hR0.2.2.2.1 hl 8 (by omega)).mono ?_
  rintro e w1 ⟨t, ⟨ht0, ht1, _⟩, rfl, cur1, g1⟩
  have hR1 := hR0.drawn hlt cur1 g1
  obtain ⟨n0, rfl⟩ := Int.eq_ofNat_of_zero_le ht0
  clear hR0 hA hP hB0 hb'
  go_wp2_with (fail)
  go_loopw [4] (fun i wr => ∃ (n : Nat) (v : Value) (xs : List Int), n ≤ 7 ∧ i = .int .i64 (n : Int) ∧ DrR w B c len wr v xs ∧ xs.length + 5 * n ≤ 35) (fun i _ => (intOf i).toNat)
  case atStart => exact ⟨n0, _, [], by omega, rfl, hR1, by simp; omega⟩
  case round =>
    obtain ⟨n, v, xs, hn, rfl, hR, hlen⟩ := hrel
    by_cases hz : 0 < n
    · have hz' : (0 : Int) < (n : Int) := by omega
      go_wp2_with (fail)
      refine (input_any hR.2.2.2.1 hl).mono ?_
      rintro e w2 ⟨x, hx, rfl, cur2, g2⟩
      have hR2 := hR.drawn hlt cur2 g2
      go_wp2_with (fail)
      refine (below_any hR2.2.2.2.1 hl 5 (by omega)).mono ?_
      rintro e w3 ⟨t, ⟨ht0, ht1, _⟩, rfl, cur3, g3⟩
      have hR3 := hR2.drawn hlt cur3 g3
      obtain ⟨i0, rfl⟩ := Int.eq_ofNat_of_zero_le ht0
      clear hR hR2
      go_wp2_with (fail)
      go_loopw [6] (fun i wr => ∃ (m : Nat) (v : Value) (ys : List Int), m ≤ 5 ∧ i = .int .i64 ((m : Int) - 1) ∧ DrR w B c len wr v ys ∧ ys.length + m + 5 * (n - 1) ≤ 35) (fun i _ => (intOf i + 1).toNat)
      case atStart => exact ⟨i0 + 1, _, xs, by omega, by congr 1; omega, hR3, by omega⟩
      case round =>
        obtain ⟨m, v, ys, hm, rfl, hR, hl2⟩ := hrel
        have hPr := hR.2.1
        have hO := hR.2.2.1
        have hsr := hR.2.2.2.2.2.1
        have cP := rowCells hPr
        obtain ⟨av, cv, rfl, -⟩ := id hO.own
        by_cases hm0 : 0 < m
        · have z0 : (0 : Int) ≤ (m : Int) - 1 := by omega
          have HO := Lib.hid hO
          have HR := Lib.hid hR
          obtain ⟨ys1, hys⟩ : ∃ ys1, ys1 = ys ++ [x] := ⟨_, rfl⟩
          have HY := Lib.hid hys
          have hyl : ys1.length = ys.length + 1 := by rw [hys]; simp
          have HYL := Lib.hid hyl
          clear hO hR hys hyl
          go_wp2_with (at_builtin; refine app_int rfl _ _ rfl (w.heap.size + 2) _ ys rfl HO.out x rfl (by omega) hsr ?_; intro v5 w5 hown5 hb5; rw [← HY.out] at hown5; obtain ⟨a5, c5, rfl, -⟩ := id hown5.own; have hP5 := (hb5.block (w.heap.size + 1) (by omega)).trans hPr; have cP5 := rowCells hP5; have fP5 := frozenHeap hP5 0)
          go_roundw
          case rel =>
            have hk := HR.out.more hlt hb5 (x := x) (by rw [← HY.out]; exact hown5) hx
            rw [← HY.out] at hk
            exact ⟨m - 1, _, ys1, by omega, by congr 1; omega, hk, by have := HYL.out; omega⟩
          case measure => simp [intOf]; omega
        · have z0 : ¬ (0 : Int) ≤ (m : Int) - 1 := by omega
          obtain rfl : m = 0 := by omega
          go_wp2_with (fail)
          go_roundw
          case rel => exact ⟨n - 1, _, ys, by omega, by congr 1; omega, hR, by omega⟩
          case measure => simp [intOf]; omega
    · have hz' : ¬ (0 : Int) < (n : Int) := by omega
      have hAr := hR.1
      have hPr := hR.2.1
      have cA := rowCells hAr
      have fA := frozenHeap hAr 0
      have cP := rowCells hPr
      obtain ⟨av, cv, rfl, -⟩ := id hR.2.2.1.own
      have HR := Lib.hid hR
      have hxl : xs.length ≤ 35 := by omega
      clear hR
      go_wp2_with (fail)
      obtain ⟨h1, h2, h3, h4, h5, h6, h7⟩ := HR.out
      have hcap : CapI (.slice av xs.length cv) := by
        rcases h3.2 with ⟨e, _⟩ | ⟨g, cap, cur, e, _, _, hn, _⟩
        · rw [e]; exact ⟨_, _, _, rfl, Nat.le_refl _⟩
        · rw [e]; exact ⟨_, _, _, rfl, hn⟩
      have hb2 : Below w.heap.size wr (wr.setCell ⟨w.heap.size, 0, none⟩ (.slice av xs.length cv)) := (Below.refl _ _).setCell (p := ⟨w.heap.size, 0, none⟩) (Nat.le_refl _) _
      have c9 := rowCells (setHeap (k := 0) (v := .slice av xs.length cv) h1) 0
      refine bodyPost_ret (v := .agg #[.slice av xs.length cv]) (by simp [results, Try.results21, go_sem, c9]) rfl ⟨.slice av xs.length cv, xs, rfl, ?_, hcap, h7, hxl, h4.low hb2 hlt, grown_low h5 hb2 (Nat.le_refl _)⟩
      exact (h3.far (p := ⟨w.heap.size, 0, none⟩) (by show w.heap.size < _; omega) _).own.up (by omega)
theorem ins_trk {xs : List Int} (h : Ins xs) (hl : xs.length ≤ 35) : trkB xs = true := by
  unfold trkB
  rw [decide_eq_true (by omega : xs.length ≤ 400), Bool.true_and]
  unfold allW
  rw [List.all_eq_true]
  exact fun x hx => (inR_iff _ _ _).2 (h x hx)
def Trs (X : Rowi) : Prop := ∀ x ∈ X, Ins x ∧ x.length ≤ 35
theorem OwnTT.slot0 {w : World} {lo hi : Nat} {v : Value} {X : Rowi} (h : OwnTT w lo hi v X) (hm : 0 < X.length) : ∃ g c u, v = .slice (some ⟨g, 0, none⟩) X.length c ∧ w.cell? ⟨g, 0, none⟩ = some u ∧ w.frozen? ⟨g, 0, none⟩ = false ∧ lo ≤ g ∧ g < hi := by
  obtain ⟨hlo, hC, hg, us, hl, ho, hr, -⟩ := h
  have ho' := ho
  rcases ho.2 with ⟨rfl, hn⟩ | ⟨g, cap, cur, rfl, hB, hgc, _⟩
  · omega
  · exact ⟨g, cap, us[0]'(by omega), rfl, ownsT_cell ho' rfl (by omega), by simp [World.frozen?, hgc], hB, hg g rfl⟩
theorem CapR.stay {w w' : World} {lo hi : Nat} {v : Value} {X : Rowi} (h : CapR w v X) (ho : OwnTT w lo hi v X) (hk : ∀ b, lo ≤ b → b < hi → w'.heap[b]? = w.heap[b]?) : CapR w' v X := by
  rcases h with h | ⟨b, off, cap, hv, h⟩
  · exact .inl h
  · refine .inr ⟨b, off, cap, hv, fun j hj => ?_⟩
    obtain ⟨u, c1, c2⟩ := h j hj
    obtain ⟨g, c, u', e, -, -, q1, q2⟩ := ho.slot0 (by omega)
    have : b = g := congrArg Addr.block (Option.some.inj (Value.slice.inj (hv.symm.trans e)).1)
    subst this
    exact ⟨u, by rw [World.cell?_of_block (w := w) (hk b q1 q2)]; exact c1, c2⟩
def RetAll (w : World) (c : Nat) (e : Ending) (w' : World) : Prop := ∃ v X, e = .returned v ∧ OwnTT w' w.heap.size w'.heap.size v X ∧ CapR w' v X ∧ Trs X ∧ 1 ≤ X.length ∧ X.length ≤ 4 ∧ w.grownBy w' (some c)
def RetDT (w : World) (e : Ending) (w' : World) : Prop := ∃ v X, e = .returned v ∧ OwnTT w' w.heap.size w'.heap.size v X ∧ CapR w' v X ∧ Trs X ∧ 1 ≤ X.length ∧ X.length ≤ 4 ∧ trksB X = true ∧ Below w.heap.size w w'
set_option maxHeartbeats 2000000 in
theorem drawAll_any {w : World} {B c len : Nat} (hcur : Cur w B c len) (hl : len ≤ 1048576) :
    Calls Try.prog 10 #[.pointer (some ⟨c, 0, none⟩)] w (RetAll w c) := by
  have hlt := hcur.lt
  have hown0 := OwnTT.made w w.heap.size #[] (Nat.le_refl _) (by unfold maxLen; simp)
  have hb0 := below1 w (.cells #[] 29)
  have cur0 := hcur.low hb0 hlt
  have hg0 : w.grownBy (w.alloc (.cells #[] 29)) (some c) := World.grownBy_alloc _ _ _
  go_enter Try.func10, Try.ntmps10
  go_wp2_with (fail)
  refine (below_any cur0 hl 4 (by omega)).mono ?_
  rintro e w1 ⟨t, ⟨ht0, ht1, _⟩, rfl, cur1, g1⟩
  obtain ⟨n0, rfl⟩ := Int.eq_ofNat_of_zero_le ht0
  have hg1 := grown_trans hg0 g1
  have hown1 : OwnTT w1 w.heap.size w1.heap.size (.slice (some ⟨w.heap.size, 0, none⟩) 0 0) [] := (hown0.stay g1.size fun b h1 h2 => g1.block b h2 (by simp; omega)).wide (Nat.le_refl _) g1.size (Nat.le_refl _)
  clear hown0 hb0 cur0 hg0
  go_wp2_with (fail)
  go_loopw [3, 4] (fun v i wr => ∃ (m : Nat) (X : Rowi), m ≤ 4 ∧ i = .int .i64 ((m : Int) - 1) ∧ OwnTT wr w.heap.size wr.heap.size v X ∧ CapR wr v X ∧ Cur wr B c len ∧ w.grownBy wr (some c) ∧ Trs X ∧ X.length + m ≤ 4 ∧ 1 ≤ X.length + m) (fun _ i _ => (intOf i + 1).toNat)
  case atStart => exact ⟨n0 + 1, [], by omega, by congr 1; omega, hown1, .inl rfl, cur1, hg1, fun x hx => (by cases hx), (by show 0 + (n0 + 1) ≤ 4; omega), (by show 1 ≤ 0 + (n0 + 1); omega)⟩
  case round =>
    obtain ⟨m, X, hm, rfl, hown, hcr, cur, hg, hX, hl4, hl1⟩ := hrel
    obtain ⟨av, cv, rfl, -⟩ := id hown.rd
    by_cases hm0 : 0 < m
    · have z0 : (0 : Int) ≤ (m : Int) - 1 := by omega
      have HX := Lib.hid hX
      have hsz := hg.size
      go_wp2_with (fail)
      refine (drawTrack_any cur hl).mono ?_
      rintro e w2 ⟨v2, xs, rfl, o2, hcap, hins, hxl, cur2, g2⟩
      have hown2 : OwnTT w2 w.heap.size wr.heap.size (.slice av X.length cv) X := hown.stay g2.size fun b h1 h2 => g2.block b h2 (by simp; omega)
      have hcr2 : CapR w2 (.slice av X.length cv) X := hcr.stay hown fun b h1 h2 => g2.block b h2 (by simp; omega)
      have hg2 := grown_trans hg g2
      have hs2 := g2.size
      obtain ⟨a2, c2, rfl, -⟩ := id o2
      obtain ⟨X1, hX1⟩ : ∃ X1, X1 = X ++ [xs] := ⟨_, rfl⟩
      have HX1 := Lib.hid hX1
      have HL := Lib.hid (show X1.length = X.length + 1 by rw [hX1]; simp)
      clear hX1 hown hX
      go_wp2_with (at_builtin; refine app_trackC rfl _ _ rfl w.heap.size wr.heap.size _ X rfl hown2 _ xs o2 rfl (by omega) ?_; intro v' w4 hown' hb' hcc; have hcr4 := hcc hcr2 hcap; rw [← HX1.out] at hown' hcr4; clear hcc)
      go_roundw
      case rel => exact ⟨m - 1, X1, by omega, by congr 1; omega, hown', hcr4, cur2.low hb' hlt, grown_low hg2 hb' (Nat.le_refl _), fun x hx => by
        rw [HX1.out] at hx
        rcases List.mem_append.1 hx with hx | hx
        · exact HX.out x hx
        · simp at hx; subst hx; exact ⟨hins, hxl⟩, by have := HL.out; omega, by have := HL.out; omega⟩
      case measure => simp [intOf]; omega
    · have z0 : ¬ (0 : Int) ≤ (m : Int) - 1 := by omega
      obtain rfl : m = 0 := by omega
      go_wp2_with (fail)
      go_ret
      exact ⟨_, X, rfl, hown, hcr, hX, hl1, hl4, hg⟩
theorem drawTracks_any {w : World} {v : Value} {len : Nat} (hrd : RdC w v len) (hl : len ≤ 1048576) :
    Calls Try.prog 5 #[v] w (RetDT w) := by
  go_enter Try.func5, Try.ntmps5
  go_wp2_with (fail)
  refine (new_any hrd hl).mono ?_
  rintro e w1 hm1
  have cur1 := hm1.cur hrd
  obtain ⟨hh, rfl, hw1⟩ := hm1
  have hs1 : w1.heap.size = w.heap.size + 1 := by rw [hw1]; simp
  have hb1 : Below w.heap.size w w1 := by rw [hw1]; exact below1 w _
  clear hw1
  go_wp2_with (fail)
  refine (drawAll_any cur1 hl).mono ?_
  rintro e w2 ⟨v2, X, rfl, o2, hcr, hX, h1, h2, g2⟩
  go_wp2_with (fail)
  go_ret
  refine ⟨_, X, rfl, o2.wide (by omega) (Nat.le_refl _) (Nat.le_refl _), hcr, hX, h1, h2, ?_, ?_⟩
  · rw [trks_all fun k hk => ins_trk (hX _ (List.getElem_mem hk)).1 (hX _ (List.getElem_mem hk)).2]
    exact (inR_iff _ _ _).2 ⟨by omega, by omega⟩
  · exact hb1.grown g2 (by omega) fun k hk => by injection hk with hk; omega
end Go.Proofs.Ytgbdpmaajihfdaa
