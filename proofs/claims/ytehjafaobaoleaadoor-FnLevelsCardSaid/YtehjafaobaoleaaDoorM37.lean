/-
  Texts of this proof: NwS.
-/
import Derived.Test.YtehjafaobaoleaaDoorM34
import Derived.Test.YtehjafaobaoleaaDoorM36
namespace Go.Proofs.YtehjafaobaoleaaDoor
open Go.RowKit
set_option linter.all false
theorem app_intG {ops : Array Oper} {rest : List Oper} {o : Oper} {a : Act} {Q : Exit → Act → World → Prop} {W : World} (hgd : o.guard = none) (s x : Operand)
  (ho : o.op = .call { callee := .builtin .append, args := #[s, x], argTypes := #[27, 27] })
  (B : Nat) (v : Value) (xs : List Int) (hs : a.eval s = v) (hown : OwnR W B v xs) (n : Int) (hx : a.eval x = .slice (some ⟨W.heap.size, 0, none⟩) 1 1)
  (hlen : xs.length + 1 ≤ 17592186044416) (hbase : B ≤ W.heap.size)
  (h : ∀ v' w', OwnR w' B v' (xs ++ [n]) → Below B (W.alloc (.cells #[.int .i64 n] 3)) w' → (W.alloc (.cells #[.int .i64 n] 3)).grownBy w' v.ownBlock → wpList Tryd.prog ops Q rest (a.put o.dst v') w') : wpList Tryd.prog ops Q (o :: rest) a (W.alloc (.cells #[.int .i64 n] 3)) := by
 obtain ⟨i0, hi, hz0, hz1, hz2⟩ := info_parts info_int
 have hown2 : (W.alloc (.cells #[.int .i64 n] 3)).ownsRow B 3 1 v xs.length (xs.map (Value.int .i64)) := World.ownsRow.alloc hown _
 refine wpList_append_own _ hgd s x 27 ho B 3 i0 (.int .i64 0) 1 8 Tryd.underlying27 hi hz0 hz1 hz2 rfl (by decide) v xs.length (xs.map (Value.int .i64)) hs hown2 ⟨W.heap.size, 0, none⟩ 1 1 [.int .i64 n] hx rfl (one_cell_int _ _ _) (int_one _) (by unfold maxLen; omega) (by omega) (by simp; omega) ?_
 intro v' w' hown' hgrow _
 refine h v' w' ?_ ?_ hgrow
 ·unfold OwnR; rw [List.length_append, List.map_append]; exact hown'
 ·exact (Below.refl B _).grown hgrow (by simp; omega) fun k hk => (hown2.lt k hk).1
theorem rows_apart {w : World} {B C : Nat} {v u : Value} {xs : List Int} {X : List Bd} (h : OwnR w B v xs) (h' : OwnRB w C u X) : v.ownBlock = none ∨ u.ownBlock = none ∨ v.ownBlock ≠ u.ownBlock := by
 rcases h.2 with ⟨rfl, -⟩ | ⟨g, cap, cur, rfl, -, hg, -⟩
 ·exact .inl rfl
 ·rcases id h'.2 with ⟨rfl, -⟩ | ⟨g', cap', cur', rfl, -, hg', -⟩
  ·exact .inr (.inl rfl)
  ·refine .inr (.inr fun e => ?_)
   obtain rfl : g = g' := Option.some.inj e
   rw [show w.heap[g]? = some (.cells cur 3 (0, 0)) from hg] at hg'
   have := (Obj.cells.inj (Option.some.inj hg')).2.1
   exact absurd this (by decide)
def NsR (w3 wr : World) (p : Nat) (vl vs vb : Value) (s : Int) (S : List Int) (X : List Bd) : Prop := wr.heap[p]? = some (.cells #[vl, .int .i64 0, .int .i64 s, vs, vb] 30 (0, 0)) ∧ OwnR wr w3.heap.size vs S ∧ OwnRB wr w3.heap.size vb X ∧ Below p w3 wr ∧ (∀ j, j < w3.heap.size → j ≠ p → wr.heap[j]? = w3.heap[j]?) ∧ w3.heap.size ≤ wr.heap.size
theorem nsR_int {w3 wr w5 : World} {o : Obj} {p : Nat} {vl vs vb v5 : Value} {s : Int} {S S' : List Int} {X : List Bd} (h : NsR w3 wr p vl vs vb s S X) (hp : p < w3.heap.size) (h5 : Below w3.heap.size (wr.alloc o) w5) (hg : (wr.alloc o).grownBy w5 vs.ownBlock) (ho : OwnR w5 w3.heap.size v5 S') : NsR w3 (w5.setCell ⟨p, 3, none⟩ v5) p vl v5 vb s S' X := by
 obtain ⟨h1, hS, hX, h3, h4, h6⟩ := h
 have hP5 := (h5.block p hp).trans (keepHeap (below1 wr o) h1)
 have s3 := (below1 wr o).size
 have s5 := h5.size
 have hX5 : OwnRB w5 w3.heap.size vb X := World.ownsRow.kept (World.ownsRow.alloc hX o) hg (by
  rcases rows_apart hS hX with e | e | e
  ·rw [e]; cases vb.ownBlock <;> simp
  ·exact .inl e
  ·exact .inr (Ne.symm e))
 refine ⟨?_, ho.aside (p := ⟨p, 3, none⟩) (ho.notBox hP5 (by decide)) v5, hX5.aside (p := ⟨p, 3, none⟩) (hX5.notBox hP5 (by decide)) v5, ?_, ?_, ?_⟩
 ·exact setHeap (k := 3) (v := v5) hP5
 ·exact (h3.trans (((below1 wr o).mono (by omega)).trans (h5.mono (by omega)))).setCell (p := ⟨p, 3, none⟩) (Nat.le_refl _) v5
 ·intro j hj hne
  rw [Below.heap_setCell _ _ _ j (by show j ≠ p; exact hne), h5.block j hj, (below1 wr o).block j (by omega)]
  exact h4 j hj hne
 ·simp; omega
theorem nsR_body {w3 wr w2 w5 : World} {o : Obj} {p : Nat} {vl vs vb v5 : Value} {s : Int} {S : List Int} {X Y : List Bd} (h : NsR w3 wr p vl vs vb s S X) (hp : p < w3.heap.size) (h2 : Below wr.heap.size wr w2) (h5 : Below w3.heap.size (w2.alloc o) w5) (hg : (w2.alloc o).grownBy w5 vb.ownBlock) (ho : OwnRB w5 w3.heap.size v5 Y) : NsR w3 (w5.setCell ⟨p, 4, none⟩ v5) p vl vs v5 s S Y := by
 obtain ⟨h1, hS, hX, h3, h4, h6⟩ := h
 have hP5 := (h5.block p hp).trans (keepHeap (below1 w2 o) (keepHeap h2 h1))
 have s2 := h2.size
 have s3 := (below1 w2 o).size
 have s5 := h5.size
 have hS5 : OwnR w5 w3.heap.size vs S := World.ownsRow.kept (World.ownsRow.alloc (hS.keep h2 (Nat.le_refl _)) o) hg (by
  rcases rows_apart hS hX with e | e | e
  ·exact .inl e
  ·rw [e]; cases vs.ownBlock <;> simp
  ·exact .inr e)
 refine ⟨?_, hS5.aside (p := ⟨p, 4, none⟩) (hS5.notBox hP5 (by decide)) v5, ho.aside (p := ⟨p, 4, none⟩) (ho.notBox hP5 (by decide)) v5, ?_, ?_, ?_⟩
 ·exact setHeap (k := 4) (v := v5) hP5
 ·exact ((h3.trans (h2.mono (by omega))).trans (((below1 w2 o).mono (by omega)).trans (h5.mono (by omega)))).setCell (p := ⟨p, 4, none⟩) (Nat.le_refl _) v5
 ·intro j hj hne
  rw [Below.heap_setCell _ _ _ j (by show j ≠ p; exact hne), h5.block j hj, (below1 w2 o).block j (by omega), h2.block j (by omega)]
  exact h4 j hj hne
 ·simp; omega
theorem NsR.far {w3 wr : World} {p : Nat} {vl vs vb : Value} {s : Int} {S : List Int} {X : List Bd} (h : NsR w3 wr p vl vs vb s S X) : FarB p (p + 1) w3 wr := ⟨h.2.2.2.1, fun j h1 h2 => h.2.2.2.2.1 j h2 (by omega)⟩
theorem oin_of {w : World} {B : Nat} {v : Value} {xs : List Int} (h : OwnR w B v xs) : (∃ g, v.ownBlock = some g ∧ B ≤ g ∧ g < w.heap.size ∧ OwnIn w g (g + 1) v xs) ∨ OwnIn w B B v xs := by
 obtain ⟨a, cap, e, h1⟩ := h.own
 by_cases hx : xs = []
 ·exact .inr ⟨a, cap, e, .inl hx⟩
 ·obtain ⟨g, hB, rfl, hr⟩ := h1.resolve_left hx
  refine .inl ⟨g, by rw [e]; rfl, hB, ?_, ⟨_, cap, e, .inr ⟨g, Nat.le_refl _, by omega, rfl, hr⟩⟩⟩
  exact (World.ownsRow.lt h.row g (by rw [e]; rfl)).2
theorem obd_of {w : World} {B : Nat} {v : Value} {X : List Bd} (h : OwnRB w B v X) : (∃ g, v.ownBlock = some g ∧ B ≤ g ∧ g < w.heap.size ∧ OwnBdIn w g (g + 1) v X) ∨ OwnBdIn w B B v X := by
 obtain ⟨a, cap, e, h1⟩ := h.own
 by_cases hx : X = []
 ·exact .inr ⟨a, cap, e, .inl hx⟩
 ·obtain ⟨g, hB, rfl, hr⟩ := h1.resolve_left hx
  exact .inl ⟨g, by rw [e]; rfl, hB, hr.lt hx, ⟨_, cap, e, .inr ⟨g, Nat.le_refl _, by omega, rfl, hr⟩⟩⟩
theorem nsR_own {w3 wr : World} {p a1 b1 lo : Nat} {vl vs vb : Value} {s : Int} {L : Rowz} {S : List Int} {X : List Bd} (h : NsR w3 wr p vl vs vb s S X) (y1 : lo ≤ a1 ∧ a1 ≤ b1 ∧ b1 ≤ w3.heap.size) (z2 : b1 ≤ p ∨ p < a1) (wl : WrS w3 a1 vl L) (lw : LowS b1 vl L) : OwnWIn wr lo wr.heap.size ⟨L, 0, s, S, X⟩ vl vs vb := by
 have hs := h.2.2.2.2.2
 have wl' := wl.apart2 lw h.far (by omega)
 have ra := rows_apart h.2.1 h.2.2.1
 rcases oin_of h.2.1 with ⟨g, e1, g1, g2, o1⟩ | o1
 ·rcases obd_of h.2.2.1 with ⟨g', e2, g3, g4, o2⟩ | o2
  ·have hne : g ≠ g' := by
    rcases ra with e | e | e
    ·rw [e1] at e; cases e
    ·rw [e2] at e; cases e
    ·intro e3; exact e (by rw [e1, e2, e3])
   exact ⟨a1, b1, g, g + 1, g', g' + 1, ⟨by omega, by omega, by omega⟩, ⟨by omega, by omega, by omega⟩, ⟨by omega, by omega, by omega⟩, .inl (by omega), .inl (by omega), by omega, wl', lw, o1, o2⟩
  ·exact ⟨a1, b1, g, g + 1, w3.heap.size, w3.heap.size, ⟨by omega, by omega, by omega⟩, ⟨by omega, by omega, by omega⟩, ⟨by omega, by omega, by omega⟩, .inl (by omega), .inl (by omega), by omega, wl', lw, o1, o2⟩
 ·rcases obd_of h.2.2.1 with ⟨g', e2, g3, g4, o2⟩ | o2
  ·exact ⟨a1, b1, w3.heap.size, w3.heap.size, g', g' + 1, ⟨by omega, by omega, by omega⟩, ⟨by omega, by omega, by omega⟩, ⟨by omega, by omega, by omega⟩, .inl (by omega), .inl (by omega), by omega, wl', lw, o1, o2⟩
  ·exact ⟨a1, b1, w3.heap.size, w3.heap.size, w3.heap.size, w3.heap.size, ⟨by omega, by omega, by omega⟩, ⟨by omega, by omega, by omega⟩, ⟨by omega, by omega, by omega⟩, .inl (by omega), .inl (by omega), by omega, wl', lw, o1, o2⟩
def frsS (L : Rowz) (k : Nat) : List Bd := (List.range k).map fun (j : Nat) => freshS L j
theorem frsS_next (L : Rowz) (k : Nat) : frsS L (k + 1) = frsS L k ++ [freshS L k] := by unfold frsS; rw [List.range_succ, List.map_append]; rfl
theorem frsS_len (L : Rowz) (k : Nat) : (frsS L k).length = k := by simp [frsS]
theorem frsS_eq {L : Rowz} (h : levelB L = true) {m : Nat} (hm : m ≤ 4) : frsS L m = frs L m := by
 unfold frsS frs
 refine List.map_congr_left fun j hj => ?_
 rw [List.mem_range] at hj
 exact freshS_eq h (by omega)
theorem nw_validS {L : Rowz} {n s : Int} {m : Nat} (hm : (m : Int) = max 0 (min n 5)) : worldB ⟨L, 0, s, List.replicate m 0, frsS L m⟩ = nwOk L n s := by
 cases h1 : levelB L with
 | false => rw [nwOk_l h1]; exact wd_l h1
 | true =>
  by_cases h4 : m ≤ 4
  ·rw [frsS_eq h1 h4]; exact nw_valid hm
  ·have h5 : m = 5 := by omega
   have e1 : inR n 1 4 = false := by
    cases e : inR n 1 4 with
    | false => rfl
    | true => have := (inR_iff _ _ _).1 e; omega
   rw [nwOk_n e1]
   refine wd_n ?_
   show inR ((List.replicate m (0 : Int)).length : Int) 1 4 = false
   rw [List.length_replicate, h5]; decide
theorem freshS_fits (L : Rowz) (k : Nat) (hk : k ≤ 4) : (freshS L k).fits := by
 have h : ∃ x y : Int, startI L (k : Int) = (x, y) ∧ -1 ≤ x ∧ x ≤ 1000 ∧ -1 ≤ y ∧ y ≤ 1000 := by
  cases q : levelB L with
  | false => exact ⟨_, _, startI_no (.inl q), by omega, by omega, by omega, by omega⟩
  | true =>
   cases q2 : inR (k : Int) 0 3 with
   | false => exact ⟨_, _, startI_no (.inr q2), by omega, by omega, by omega, by omega⟩
   | true =>
    obtain ⟨x, y, h1, h2, h3, h4, h5⟩ := place_small q k
    exact ⟨x, y, (startI_yes q q2).trans h1, by omega, by omega, by omega, by omega⟩
 obtain ⟨x, y, e, h1, h2, h3, h4⟩ := h
 have wf : ∀ n : Int, -9223372036854775808 ≤ n → n ≤ 9223372036854775807 → (Lit.int .i64 n).wf = true := fun n h1 h2 => by
  simp only [Lit.wf, Bool.and_eq_true, decide_eq_true_eq]; exact ⟨h1, h2⟩
 unfold freshS Bd.fits
 rw [e]
 exact ⟨wf 0 (by omega) (by omega), wf (k : Int) (by omega) (by omega), wf x (by omega) (by omega), wf y (by omega) (by omega), wf 0 (by omega) (by omega), wf 0 (by omega) (by omega), wf 1 (by omega) (by omega), wf 3 (by omega) (by omega), wf 0 (by omega) (by omega)⟩
theorem nwS_sane {L : Rowz} (hs : Sane L) (s : Int) (m : Nat) (hm : m ≤ 5) : Wd.sane ⟨L, 0, s, List.replicate m 0, frsS L m⟩ := by
 refine ⟨hs, by simp; omega, by show (frsS L m).length ≤ _; rw [frsS_len]; omega, fun b hb => ?_⟩
 obtain ⟨j, hj, rfl⟩ := List.mem_map.1 hb
 rw [List.mem_range] at hj
 exact freshS_fits L j (by omega)
theorem ownR_capd {w : World} {B : Nat} {v : Value} {xs : List Int} (h : OwnR w B v xs) : CapI v := by
 rcases h.2 with ⟨rfl, h0⟩ | ⟨g, cap, cur, rfl, hB, hg, hn, hc, -⟩
 ·exact ⟨_, _, _, rfl, Nat.le_refl _⟩
 ·exact ⟨_, _, _, rfl, hn⟩
theorem nwOk_parts {L : Rowz} {n s : Int} (h : nwOk L n s = true) : levelB L = true ∧ inR n 1 4 = true := by
 unfold nwOk at h
 simp only [Bool.and_eq_true] at h
 exact ⟨h.1, h.2.1⟩
theorem nwX_s {L : Rowz} {n s : Int} {k : Nat} (h : nwOk L n s = true) (hk : (k : Int) = max 0 (min n 5)) : nwX L n s = ⟨L, 0, s, List.replicate k 0, frsS L k⟩ := by
 obtain ⟨h1, h2⟩ := nwOk_parts h
 have h3 := (inR_iff _ _ _).1 h2
 have e : n.toNat = k := by omega
 rw [nw_yes h, e, frsS_eq h1 (by omega)]
 rfl
set_option maxRecDepth 100000 in
set_option maxHeartbeats 16000000 in
theorem newWorld_spec {w : World} {v : Value} {L : Rowz} (h : RdS w v L) (hs : Sane L) (hfew : L.length ≤ 1048576) (n s : Int) (hn : n ≤ 9223372036854775807) :
  Calls Tryd.prog 18 #[.agg #[v], .int .i64 n, .int .i64 s] w (RetNw w L n s) := by
 obtain ⟨a, cap, rfl, -⟩ := id h
 obtain ⟨W0, hW, hA, hC, hB0, hS0⟩ := rows2 w #[.slice a L.length cap] #[.slice none 0 0, .int .i64 0, .int .i64 0, .slice none 0 0, .slice none 0 0] 26 30
 have cA := rowCells hA
 go_enter Tryd.func18, Tryd.ntmps18
 go_wp2_with (fail)
 try rw [hW]
 clear hW
 refine (copyLevel_spec (h.keep hB0) hfew).mono ?_
 rintro e w1 ⟨vl0, rfl, wl1, cl1, hb1⟩
 have lw1 := WrS.low wl1
 obtain ⟨ua, uc, rfl, -⟩ := id wl1
 have hA1 := keepHeap hb1 hA
 have hC1 := keepHeap hb1 hC
 have hb01 := hB0.trans (hb1.mono hB0.size)
 have hs1 := hb1.size
 clear cA hA hC
 go_wp2_with (fail)
 obtain ⟨w3, hw3⟩ : ∃ W, w1.alloc (.cells #[.slice ua L.length uc, .int .i64 0, .int .i64 s, .slice none 0 0, .slice none 0 0] 30) = W := ⟨_, rfl⟩
 have hP3 : w3.heap[w1.heap.size]? = some (.cells #[.slice ua L.length uc, .int .i64 0, .int .i64 s, .slice none 0 0, .slice none 0 0] 30 (0, 0)) := by rw [← hw3]; exact heap_alloc_new _ _
 have hb3 : Below w1.heap.size w1 w3 := by rw [← hw3]; exact below1 _ _
 have hs3 : w3.heap.size = w1.heap.size + 1 := by rw [← hw3]; simp
 have wl3 := wl1.keep hb3
 try rw [hw3]
 clear hw3
 have hA3 := keepHeap hb3 hA1
 have hC3 := keepHeap hb3 hC1
 have hp3 : w1.heap.size < w3.heap.size := by omega
 have HCL := Lib.hid cl1
 clear cl1 hA1 hC1 wl1
 go_loopw [9] (fun i wr => ∃ (k : Nat) (vs vb : Value), k ≤ 5 ∧ (k : Int) ≤ max 0 n ∧ i = .int .i64 (k : Int) ∧ NsR w3 wr w1.heap.size (.slice ua L.length uc) vs vb s (List.replicate k 0) (frsS L k)) (fun i _ => 5 - (intOf i).toNat)
 case atStart => exact ⟨0, (.slice none 0 0), (.slice none 0 0), by omega, by omega, rfl, hP3, World.ownsRow_nil _ _ _ _, OwnRB.nil _ _, Below.refl _ _, fun _ _ _ => rfl, Nat.le_refl _⟩
 case round =>
  obtain ⟨k, vs, vb, hk, hkn0, rfl, hR⟩ := hrel
  have hPr := hR.1
  have hSr := hR.2.1
  have hOr := hR.2.2.1
  have hsr := hR.2.2.2.2.2
  have hAr := (hR.2.2.2.2.1 w.heap.size (by omega) (by omega)).trans hA3
  have hCr := (hR.2.2.2.2.1 (w.heap.size + 1) (by omega) (by omega)).trans hC3
  have hb0r : Below w.heap.size w wr := (hb01.trans (hb3.mono (by omega))).trans (hR.2.2.2.1.mono (by omega))
  obtain ⟨aq, cq, rfl, -⟩ := id hSr.own
  obtain ⟨ab, cb, rfl, -⟩ := id hOr.own
  have cA := rowCells hAr
  have cP := rowCells hPr
  have HLS := Lib.hid (show (List.replicate k (0 : Int)).length = k from List.length_replicate)
  have HLN := Lib.hid (frsS_len L k)
  obtain ⟨S, hS⟩ : ∃ S, S = List.replicate k (0 : Int) := ⟨_, rfl⟩
  rw [← hS] at hSr hR HLS cP hPr
  try rw [← hS]
  have HS0 := Lib.hid hS
  clear hS
  by_cases hkm : (k : Int) < n ∧ k ≤ 4
  ·obtain ⟨hkn, hk4⟩ := hkm
   have hk4' : (k : Int) ≤ 4 := by omega
   have HO := Lib.hid hSr
   have HR := Lib.hid hR
   have cPa : ∀ j, (wr.alloc (.cells #[.int .i64 0] 3)).cell? ⟨w1.heap.size, j, none⟩ = _ := rowCells (keepHeap (below1 wr _) hPr)
   have hsz5 := hsr
   obtain ⟨S1, hS1⟩ : ∃ S1, S1 = S ++ [0] := ⟨_, rfl⟩
   have HS1 := Lib.hid hS1
   clear hS1
   clear hR hOr hSr
   go_wp2_with (at_builtin; refine app_intG rfl _ _ rfl w3.heap.size _ S rfl HO.out 0 rfl (by have := HLS.out; omega) hsz5 ?_; intro v5 w5 hown5 hb5 hg5; rw [← HS1.out] at hown5; have hR5 := nsR_int HR.out hp3 hb5 hg5 hown5; obtain ⟨a5, c5, rfl, -⟩ := id hown5.own; have hP5 := (hb5.block w1.heap.size hp3).trans (keepHeap (below1 wr _) hPr); have cP5 := rowCells hP5; have fP5 := frozenHeap hP5 3)
   obtain ⟨w6, hw6⟩ : ∃ W, w5.setCell ⟨w1.heap.size, 3, none⟩ (.slice a5 S1.length c5) = W := ⟨_, rfl⟩
   rw [hw6] at hR5
   try rw [hw6]
   clear hw6 hP5 cP5 fP5 cPa cP cA
   have hb06 : Below w.heap.size w w6 := (hb01.trans (hb3.mono (by omega))).trans (hR5.2.2.2.1.mono (by omega))
   have hA6 := (hR5.2.2.2.2.1 w.heap.size (by omega) (by omega)).trans hA3
   have hP6 := hR5.1
   have hs6 := hR5.2.2.2.2.2
   have cA6 := rowCells hA6
   have cP6 := rowCells hP6
   have HR6 := Lib.hid hR5
   have HO6 := Lib.hid hR5.2.2.1
   obtain ⟨X1, hX1⟩ : ∃ X1, X1 = frsS L (k + 1) := ⟨_, rfl⟩
   have HX1 := Lib.hid hX1
   have hN := frsS_next L k
   obtain ⟨nb, hnb⟩ : ∃ nb, nb = freshS L k := ⟨_, rfl⟩
   have hNP : ∀ {W : World}, Below w6.heap.size w6 W → Calls Tryd.prog 36 #[.agg #[.slice a L.length cap], .int .i64 (k : Int)] W fun e w' => e = .returned (bdV nb) ∧ Below W.heap.size W w' := fun hb => by rw [hnb]; exact fresh_spec ((h.keep hb06).keep hb) hs k
   unfold bdV at hNP
   rw [← hnb, ← hX1] at hN
   have HN := Lib.hid hN
   clear hN hX1 hR5 hnb hAr hPr hCr
   go_region_law (first
    | (refine step_body rfl (.tmp 29) (.tmp 33) rfl w3.heap.size _ (frsS L k) rfl (World.ownsRow.alloc hO2 _) w2.heap.size nb rfl (range_made w2 nb _) (by have := HLN.out; omega) (by simp; omega) ?_; intro v7 w7 hown7 hb7 hg7; rw [← HN.out] at hown7; obtain ⟨a7, c7, rfl, -⟩ := id hown7.own; have hP7 := (hb7.block w1.heap.size hp3).trans (keepHeap (below1 w2 _) hP2); have cP7 := rowCells hP7; have fP7 := frozenHeap hP7 4)
    | (go_simp; go_at_call 36; refine (hNP (belowDrew w6 1)).mono ?_; rintro e w2 ⟨rfl, hb2⟩; have hb2r := (belowDrew w6 1).trans hb2; have hP2 := keepHeap hb2r hP6; have hO2 := HO6.out.keep hb2r (Nat.le_refl _); have cP2 := rowCells hP2; have cP2b := rowCells (keepHeap (below1 w2 (.cells #[.int .i64 nb.kind, .int .i64 nb.owner, .int .i64 nb.x, .int .i64 nb.y, .int .i64 nb.vx, .int .i64 nb.vy, .int .i64 nb.aim, .int .i64 nb.life, .int .i64 nb.timer] 57)) hP2); have hs2 := hb2r.size))
   all_goals
    go_wp2_with (fail)
    go_roundw
    case rel => exact ⟨k + 1, _, _, by omega, by omega, by go_num, by rw [← HX1.out, List.replicate_succ', ← HS0.out, ← HS1.out]; exact nsR_body HR6.out hp3 hb2r hb7 hg7 hown7⟩
    case measure => simp [intOf]; omega
  ·have hkm2 : (k : Int) = max 0 (min n 5) := by omega
   have hV : worldB ⟨L, 0, s, S, frsS L k⟩ = nwOk L n s := by rw [HS0.out]; exact nw_validS hkm2
   have hOwn := nsR_own (lo := w.heap.size + 2) (a1 := w.heap.size + 2) hR ⟨by omega, by omega, by omega⟩ (.inl (Nat.le_refl _)) (wl3.up (C := w.heap.size + 2) (by omega)) lw1
   have hsan : Wd.sane ⟨L, 0, s, S, frsS L k⟩ := by rw [HS0.out]; exact nwS_sane hs s k hk
   have hWO : ∀ {W : World}, Below wr.heap.size wr W → Calls Tryd.prog 37 #[.agg #[.slice ua L.length uc, .int .i64 0, .int .i64 s, .slice aq S.length cq, .slice ab (frsS L k).length cb]] W fun e w' => e = .returned (.bool (worldB ⟨L, 0, s, S, frsS L k⟩)) ∧ Below W.heap.size W w' := fun hb => worldOk_spec (hOwn.rd.keep hb) hsan
   have HV := Lib.hid hV
   have HW := Lib.hid hOwn
   have HCB := Lib.hid hOr.capd
   have HCS := Lib.hid (ownR_capd hSr)
   have HM := Lib.hid hkm2
   obtain ⟨bb, hbb⟩ : ∃ bb, bb = worldB ⟨L, 0, s, S, frsS L k⟩ := ⟨_, rfl⟩
   rw [← hbb] at hWO
   have HBB := Lib.hid hbb
   clear hOr hSr hR hV hOwn hkm2 hbb hsan
   have key : decide ((k : Int) < n) = false ∨ (decide ((k : Int) < n) = true ∧ decide ((k : Int) ≤ 4) = false) := by
    by_cases e : (k : Int) < n
    ·exact .inr ⟨decide_eq_true e, decide_eq_false (by omega)⟩
    ·exact .inl (decide_eq_false e)
   have fin : True := trivial
   rcases key with z1 | ⟨z1, z2⟩
   all_goals
    go_wp2_with (fail)
    refine (hWO (Below.refl _ _)).mono ?_
    rintro e w9 ⟨rfl, hb9⟩
    have hC9 := keepHeap hb9 hCr
    have hP9 := keepHeap hb9 hPr
    have hb09 := hb0r.trans (hb9.mono hb0r.size)
    have cP9 := rowCells hP9
    have fC9 := fun j => frozenHeap hC9 j
    have cC9 := rowCells hC9
    have hs9 := hb9.size
    have hO9 := Lib.hid (HW.out.keep hb9)
    clear cA cP hPr hCr hAr
    cases q : bb with
    | false =>
     have HO := Lib.hid (HV.out.symm.trans (HBB.out.symm.trans q))
     have HX := Lib.hid (nw_no HO.out)
     go_wp2_with (fail)
     have hP := putW_heap hC9 rfl wd0 (.slice none 0 0) (.slice none 0 0) (.slice none 0 0)
     have hbP := putW_below hb09 (c := w.heap.size + 1) (by omega) wd0 (.slice none 0 0) (.slice none 0 0) (.slice none 0 0)
     have hW0 := ownW_zero (putW w9 (w.heap.size + 1) wd0 (.slice none 0 0) (.slice none 0 0) (.slice none 0 0)) w.heap.size (by have := hbP.size; omega)
     have hL := load_wd hP rfl
     unfold putW at hL hbP hW0
     refine bodyPost_ret (v := .tuple #[.agg (wdC wd0 (.slice none 0 0) (.slice none 0 0) (.slice none 0 0)), .bool false]) (results_two rfl _ _ _ _ _ rfl rfl hL) rfl ⟨(.slice none 0 0), (.slice none 0 0), (.slice none 0 0), ?_, ?_, capW_nil, hbP⟩
     ·rw [HO.out, HX.out]
     ·rw [HX.out]; exact hW0
    | true =>
     have HO := Lib.hid (HV.out.symm.trans (HBB.out.symm.trans q))
     have HX := Lib.hid ((nwX_s HO.out HM.out).trans (show _ = Wd.mk L 0 s S (frsS L k) by rw [HS0.out]))
     go_wp2_with (fail)
     have hP := putW_heap hC9 rfl ⟨L, 0, s, S, frsS L k⟩ (.slice ua L.length uc) (.slice aq S.length cq) (.slice ab (frsS L k).length cb)
     have hbP := putW_below hb09 (c := w.heap.size + 1) (by omega) ⟨L, 0, s, S, frsS L k⟩ (.slice ua L.length uc) (.slice aq S.length cq) (.slice ab (frsS L k).length cb)
     have hOwn := (hO9.out.afar (putW_farB w9 (w.heap.size + 1) ⟨L, 0, s, S, frsS L k⟩ (.slice ua L.length uc) (.slice aq S.length cq) (.slice ab (frsS L k).length cb)) (by omega)).wide (lo' := w.heap.size) (hi' := (putW w9 (w.heap.size + 1) ⟨L, 0, s, S, frsS L k⟩ (.slice ua L.length uc) (.slice aq S.length cq) (.slice ab (frsS L k).length cb)).heap.size) (by omega) (by simp [putW]; omega)
     have hL := load_wd hP rfl
     unfold putW at hL hbP hOwn
     refine bodyPost_ret (v := .tuple #[.agg (wdC ⟨L, 0, s, S, frsS L k⟩ (.slice ua L.length uc) (.slice aq S.length cq) (.slice ab (frsS L k).length cb)), .bool true]) (results_two rfl _ _ _ _ _ rfl rfl hL) rfl ⟨_, _, _, ?_, ?_, ⟨HCL.out, HCS.out, HCB.out⟩, hbP⟩
     ·rw [HO.out, HX.out]
     ·rw [HX.out]; exact hOwn
end Go.Proofs.YtehjafaobaoleaaDoor
