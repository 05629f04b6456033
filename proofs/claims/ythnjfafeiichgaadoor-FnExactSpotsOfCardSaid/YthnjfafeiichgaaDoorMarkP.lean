/-
  Rows of pairs in the laws: eqIntSS, markIntSS, heldIntSS. Lists of at most 10^9 pairs.
-/
import Derived.Test.YthnjfafeiichgaaDoorSpot
import Derived.Test.YthnjfafeiichgaaDoorLst
import Derived.Deep.RegionHeld3
namespace Go.Proofs.YthnjfafeiichgaaDoor
open Go.RowKit
set_option linter.all false
theorem InnP.rd {w : World} {b : Nat} {p : Int × Int} (h : w.heap[b]? = some (.cells (cell2 p) 3 (0, 0))) : RdI w (innV b) [p.1, p.2] := by
  refine ⟨some ⟨b, 0, none⟩, 2, rfl, .inr ⟨b, 0, rfl, fun j hj => ?_⟩⟩
  rw [rowCells h]
  match j, hj with
  | 0, _ => rfl
  | 1, _ => rfl
theorem OwnP.cells {w : World} {B : Nat} {v : Value} {ps : Pairs} (h : OwnP w B v ps) (hx : ps ≠ []) : ∃ g cap bs, v = .slice (some ⟨g, 0, none⟩) ps.length cap ∧ B ≤ g ∧ g < w.heap.size ∧ InnP w B bs ps ∧ (∀ b ∈ bs, b ≠ g) ∧ (∀ j (hj : j < bs.length), w.cell? ⟨g, j, none⟩ = some (innV bs[j])) ∧ w.ownsRow B 27 1 v ps.length (bs.map innV) := by
  obtain ⟨bs, hi, ho⟩ := h
  have hap := hi.apart ho
  have hpos : 0 < ps.length := List.length_pos_iff.2 hx
  have ho' := ho
  rcases ho.2 with ⟨e, h0⟩ | ⟨g, cap, cur, rfl, hB, hg, hn, hc, _⟩
  · omega
  · refine ⟨g, cap, bs, rfl, hB, (Array.getElem?_eq_some_iff.1 hg).1, hi, fun b hb e => hap b hb (by rw [e]; rfl), fun j hj => ?_, ho'⟩
    have hcell := World.ownsRow.cells ho' (g := g) rfl j (innV bs[j]) (by simp [hj])
    rw [show (⟨g, 0, none⟩ : Addr).add j = ⟨g, j, none⟩ by unfold Addr.add; split <;> simp_all] at hcell
    exact hcell
theorem OwnP.shape {w : World} {B : Nat} {v : Value} {ps : Pairs} (h : OwnP w B v ps) : ∃ a c, v = .slice a ps.length c := by
  obtain ⟨bs, hi, ho⟩ := h
  rcases ho.2 with ⟨rfl, h0⟩ | ⟨g, cap, cur, rfl, _⟩
  · exact ⟨none, 0, by rw [h0]⟩
  · exact ⟨_, _, rfl⟩
set_option maxHeartbeats 1000000 in
theorem eqIntSS_same {w : World} {B B' : Nat} {v v' : Value} {ps : Pairs} (h : OwnP w B v ps) (h' : OwnP w B' v' ps) (hn : ps.length ≤ 1000000000) :
    Calls Tryd.prog 45 #[v, v'] w fun e w' => e = .returned (.bool true) ∧ Below w.heap.size w w' := by
  by_cases hx : ps = []
  · subst hx
    obtain ⟨a, c, rfl⟩ := h.shape
    obtain ⟨a', c', rfl⟩ := h'.shape
    go_enter Tryd.func45, Tryd.ntmps45
    go_wp2
    refine wp_loop_once ?_
    go_wp2
    go_ret
    exact ⟨rfl, Below.refl _ _⟩
  · obtain ⟨g, cap, bs, rfl, -, hg, hi, -, hc, -⟩ := h.cells hx
    obtain ⟨g', cap', bs', rfl, -, hg', hi', -, hc', -⟩ := h'.cells hx
    clear h h'
    have HC := Lib.hid hc
    have HC' := Lib.hid hc'
    have HI := Lib.hid hi
    have HI' := Lib.hid hi'
    clear hc hc' hi hi'
    go_enter Tryd.func45, Tryd.ntmps45
    go_wp2_with (fail)
    go_loopw [5] (fun i wr => ∃ k : Nat, k ≤ ps.length ∧ i = .int .i64 (k : Int) ∧ Below w.heap.size w wr) (fun i _ => ps.length - (intOf i).toNat)
    case atStart => exact ⟨0, Nat.zero_le _, rfl, Below.refl _ _⟩
    case round =>
      obtain ⟨k, hk, rfl, hbel⟩ := hrel
      have hsz := hbel.size
      by_cases hkl : k < ps.length
      · have hb1 : k < bs.length := by rw [HI.out.1]; exact hkl
        have hb2 : k < bs'.length := by rw [HI'.out.1]; exact hkl
        obtain ⟨x, hx1⟩ : ∃ x, x = innV bs[k] := ⟨_, rfl⟩
        obtain ⟨y, hy1⟩ : ∃ x, x = innV bs'[k] := ⟨_, rfl⟩
        have c1 : wr.cell? ⟨g, k, none⟩ = some x := by rw [hx1]; exact (hbel.cell (p := ⟨g, k, none⟩) hg).trans (HC.out k hb1)
        have c2 : wr.cell? ⟨g', k, none⟩ = some y := by rw [hy1]; exact (hbel.cell (p := ⟨g', k, none⟩) hg').trans (HC'.out k hb2)
        have R1 : RdI w x [ps[k].1, ps[k].2] := by rw [hx1]; exact InnP.rd (HI.out.2.2.2 k hb1 hkl)
        have R2 : RdI w y [ps[k].1, ps[k].2] := by rw [hy1]; exact InnP.rd (HI'.out.2.2.2 k hb2 hkl)
        have hl1 : (k : Int) < (ps.length : Int) := by omega
        have R3 := R1.keep hbel
        have R4 := R2.keep hbel
        clear hx1 hy1 R1 R2
        have hxs : [ps[k].1, ps[k].2].length ≤ 1099511627776 := by simp
        generalize [ps[k].1, ps[k].2] = xs at R3 R4 hxs
        go_wp2_with (fail)
        go_region_held3 (fun w' => w'.cell? ⟨g, k, none⟩ = some x ∧ w'.cell? ⟨g', k, none⟩ = some y) (first | go_keep | exact ⟨c3, c4⟩)
          (first | (go_at_call 85; refine (eqIntS_same (RdI.keep R3 (belowDrew _ 1)) (RdI.keep R4 (belowDrew _ 1)) hxs).mono ?_; rintro e w1 ⟨rfl, q, rfl⟩; have hb3 : Below wr.heap.size wr ((wr.drewN 1).drewN q) := ⟨rfl, rfl, rfl, Nat.le_refl _, fun _ _ => rfl⟩; have c3 : ((wr.drewN 1).drewN q).cell? ⟨g, k, none⟩ = some x := c1; have c4 : ((wr.drewN 1).drewN q).cell? ⟨g', k, none⟩ = some y := c2))
        go_wp2_with (fail)
        go_roundw
        case rel => exact ⟨k + 1, by omega, by go_num, hbel.trans ⟨rfl, rfl, rfl, Nat.le_refl _, fun _ _ => rfl⟩⟩
        case measure => simp [intOf]; omega
      · go_wp2
        go_ret
        exact ⟨rfl, hbel⟩
def mk2 (p : Int × Int) (k0 : Int) : Nat → Array Value
  | 0 => cell2 p
  | 1 => cell2 (k0, p.2)
  | _ + 2 => cell2 (k0, k0 + 1)
set_option maxHeartbeats 1000000 in
theorem markInn {w : World} {b : Nat} {p : Int × Int} (h : w.heap[b]? = some (.cells (cell2 p) 3 (0, 0))) (k0 : Int) (h0 : 0 ≤ k0) (h1 : k0 ≤ 1099511627776) :
    Calls Tryd.prog 86 #[innV b, .int .i64 k0] w fun e w' => e = .returned (.int .i64 (k0 + 2)) ∧ w'.heap[b]? = some (.cells (cell2 (k0, k0 + 1)) 3 (0, 0)) ∧ Below b w w' ∧ ∀ j, j ≠ b → w'.heap[j]? = w.heap[j]? := by
  unfold innV
  go_enter Tryd.func86, Tryd.ntmps86
  go_wp2_with (fail)
  go_loopw [1, 5] (fun x i wr => ∃ k : Nat, k ≤ 2 ∧ i = .int .i64 (k : Int) ∧ x = .int .i64 (k0 + (k : Int)) ∧ wr.heap[b]? = some (.cells (mk2 p k0 k) 3 (0, 0)) ∧ Below b w wr ∧ ∀ j, j ≠ b → wr.heap[j]? = w.heap[j]?) (fun _ i _ => 2 - (intOf i).toNat)
  case atStart => exact ⟨0, by omega, rfl, by go_num, h, Below.refl _ _, fun _ _ => rfl⟩
  case round =>
    obtain ⟨k, hk, rfl, rfl, hh, hbel, hoth⟩ := hrel
    have cA := rowCells hh
    have HO := Lib.hid hoth
    clear hoth
    match k, hk with
    | 0, _ =>
      have f0 := frozenHeap hh 0
      have c0 : wr.cell? ⟨b, 0, none⟩ = some (.int .i64 p.1) := cA 0
      go_wp2_with (fail)
      go_roundw
      case rel => exact ⟨1, by omega, by go_num, by go_num, setHeap hh, hbel.setCell (p := ⟨b, 0, none⟩) (Nat.le_refl _) _, fun j hj => (Below.heap_setCell _ _ _ j hj).trans (HO.out j hj)⟩
      case measure => simp [intOf]
    | 1, _ =>
      have f0 := frozenHeap hh 1
      have c0 : wr.cell? ⟨b, 1, none⟩ = some (.int .i64 p.2) := cA 1
      go_wp2_with (fail)
      go_roundw
      case rel => exact ⟨2, by omega, by go_num, by go_num, setHeap hh, hbel.setCell (p := ⟨b, 1, none⟩) (Nat.le_refl _) _, fun j hj => (Below.heap_setCell _ _ _ j hj).trans (HO.out j hj)⟩
      case measure => simp [intOf]
    | 2, _ =>
      go_wp2_with (fail)
      go_ret
      exact ⟨rfl, hh, hbel, HO.out⟩
def marksP (k0 : Int) : Nat → Pairs
  | 0 => []
  | n + 1 => (k0, k0 + 1) :: marksP (k0 + 2) n
theorem marksP_len (n : Nat) : ∀ k, (marksP k n).length = n := by
  induction n with
  | zero => intro k; rfl
  | succ n ih => intro k; simp [marksP, ih]
theorem marksP_at (n : Nat) : ∀ k j (h : j < (marksP k n).length), (marksP k n)[j] = (k + 2 * (j : Int), k + 2 * (j : Int) + 1) := by
  induction n with
  | zero => intro k j h; simp [marksP] at h
  | succ n ih =>
    intro k j h
    cases j with
    | zero => simp [marksP]
    | succ j =>
      simp only [marksP, List.getElem_cons_succ]
      rw [ih]; simp only [Prod.mk.injEq]; omega
/-- One pair is written. -/
theorem InnP.set {w w' : World} {B : Nat} {bs : List Nat} {L : Pairs} (h : InnP w B bs L) {k : Nat} (hk : k < bs.length) (m : Int × Int) (h1 : w'.heap[bs[k]]? = some (.cells (cell2 m) 3 (0, 0))) (h2 : ∀ j, j ≠ bs[k] → w'.heap[j]? = w.heap[j]?) (hs : w.heap.size ≤ w'.heap.size) : InnP w' B bs (L.set k m) := by
  refine ⟨by rw [List.length_set]; exact h.1, h.2.1, fun b hb => ⟨(h.2.2.1 b hb).1, by have := (h.2.2.1 b hb).2; omega⟩, fun i hi hi' => ?_⟩
  by_cases e : k = i
  · subst e; rw [List.getElem_set_self]; exact h1
  · rw [List.getElem_set_ne e]
    have hpw := List.pairwise_iff_getElem.1 h.2.1
    rw [h2 _ ?_]
    · exact h.2.2.2 i hi (by rw [List.length_set] at hi'; exact hi')
    · rcases Nat.lt_or_gt_of_ne e with hlt | hlt
      · have := hpw k i hk hi hlt; omega
      · have := hpw i k hi hk hlt; omega
theorem ownsRow_far {w w' : World} {B : Nat} {e : TypeId} {v : Value} {n : Nat} {xs : List Value} (h : w.ownsRow B e 1 v n xs) (hk : ∀ g, v.ownBlock = some g → w'.heap[g]? = w.heap[g]?) : w'.ownsRow B e 1 v n xs := by
  obtain ⟨h1, h2⟩ := h
  refine ⟨h1, ?_⟩
  rcases h2 with h2 | ⟨g, cap, cur, rfl, hB, hg, r⟩
  · exact .inl h2
  · exact .inr ⟨g, cap, cur, rfl, hB, by rw [hk g rfl]; exact hg, r⟩
set_option maxHeartbeats 2000000 in
theorem markIntSS_any {w : World} {B : Nat} {v : Value} {ps : Pairs} (h : OwnP w B v ps) (hn : ps.length ≤ 1000000000) (k0 : Int) (h0 : 0 ≤ k0) (h1 : k0 ≤ 1000000000) :
    Calls Tryd.prog 46 #[v, .int .i64 k0] w fun e w' => e = .returned (.int .i64 (k0 + 2 * (ps.length : Int))) ∧ OwnP w' B v (marksP k0 ps.length) ∧ Below B w w' := by
  by_cases hx : ps = []
  · subst hx
    have h' := h
    obtain ⟨a, c, rfl⟩ := h.shape
    go_enter Tryd.func46, Tryd.ntmps46
    go_wp2
    refine wp_loop_once ?_
    go_wp2
    go_ret
    exact ⟨ret_int (by simp), h', Below.refl _ _⟩
  · obtain ⟨g, cap, bs, rfl, -, hg, hi, hne, hc, ho⟩ := h.cells hx
    have HC := Lib.hid hc
    have HN := Lib.hid hne
    have hbl := hi.1
    have hbB : ∀ j (hj : j < bs.length), B ≤ bs[j] := fun j hj => (hi.2.2.1 _ (List.getElem_mem hj)).1
    have HB := Lib.hid hbB
    have hpl := ps.length
    have HV : Hid (∀ w', w'.heap[g]? = w.heap[g]? → ∀ L, InnP w' B bs L → L.length = ps.length → OwnP w' B (.slice (some ⟨g, 0, none⟩) ps.length cap) L) := Lib.hid (fun w' hgw L hL hLl => ⟨bs, hL, by rw [hLl]; exact ownsRow_far ho (fun g' e => by simp only [Value.ownBlock, Option.some.injEq] at e; subst e; exact hgw)⟩)
    clear hc hne ho hbB h
    go_enter Tryd.func46, Tryd.ntmps46
    go_wp2_with (fail)
    go_loopw [1, 5] (fun x i wr => ∃ (k : Nat) (L : Pairs), k ≤ ps.length ∧ i = .int .i64 (k : Int) ∧ x = .int .i64 (k0 + 2 * (k : Int)) ∧ L.length = ps.length ∧ L.take k = (marksP k0 ps.length).take k ∧ InnP wr B bs L ∧ Below B w wr ∧ wr.heap[g]? = w.heap[g]?) (fun _ i _ => ps.length - (intOf i).toNat)
    case atStart => exact ⟨0, ps, Nat.zero_le _, rfl, by go_num, rfl, rfl, hi, Below.refl _ _, rfl⟩
    case round =>
      obtain ⟨k, L, hk, rfl, rfl, hL, htk, hin, hbel, hgw⟩ := hrel
      have hsz := hbel.size
      have HT := Lib.hid htk
      have HI := Lib.hid hin
      clear htk
      by_cases hkl : k < ps.length
      · have hb1 : k < bs.length := by omega
        obtain ⟨b, hb⟩ : ∃ b, b = bs[k] := ⟨_, rfl⟩
        have c1 : wr.cell? ⟨g, k, none⟩ = some (innV b) := by rw [World.cell?_of_block (w := w) hgw, hb]; exact HC.out k hb1
        have hh := hin.2.2.2 k hb1 (by omega)
        rw [← hb] at hh
        have hbg : g ≠ b := by rw [hb]; exact fun e => HN.out _ (List.getElem_mem hb1) e.symm
        have hBb : B ≤ b := by rw [hb]; exact HB.out k hb1
        have HBk := Lib.hid hb
        have hl1 : (k : Int) < (ps.length : Int) := by omega
        have hM := markInn hh (k0 + 2 * (k : Int)) (by omega) (by omega)
        unfold innV at c1 hM
        clear hin hh hb hi
        go_wp2_with (go_at_call 86; refine hM.mono ?_; rintro e w1 ⟨rfl, hh1, hb1', ho1⟩)
        go_roundw
        case rel =>
          refine ⟨k + 1, L.set k (k0 + 2 * (k : Int), k0 + 2 * (k : Int) + 1), by omega, by go_num, by go_num, by rw [List.length_set]; exact hL, ?_, HI.out.set hb1 _ (by rw [← HBk.out]; exact hh1) (by rw [← HBk.out]; exact ho1) hb1'.size, hbel.trans (hb1'.mono hBb), (ho1 g hbg).trans hgw⟩
          rw [List.take_succ_eq_append_getElem (by rw [List.length_set, hL]; exact hkl), List.take_succ_eq_append_getElem (by rw [marksP_len]; exact hkl), List.take_set_of_le (Nat.le_refl _), HT.out, List.getElem_set_self, marksP_at]
        case measure => simp [intOf]; omega
      · have ek : k = ps.length := by omega
        subst ek
        have e : L = marksP k0 ps.length := by
          have := HT.out
          rw [List.take_of_length_le (by omega), List.take_of_length_le (by rw [marksP_len]; omega)] at this
          exact this
        have HE := Lib.hid e
        clear e
        go_wp2_with (fail)
        go_ret
        exact ⟨rfl, by rw [← HE.out]; exact HV.out _ hgw L HI.out hL, hbel⟩
set_option maxHeartbeats 2000000 in
theorem heldIntSS_any {w : World} {B : Nat} {v : Value} (n : Nat) (k0 : Int) (h : OwnP w B v (marksP k0 n)) (hn : n ≤ 1000000000) (h0 : 0 ≤ k0) (h1 : k0 ≤ 1000000000) :
    Calls Tryd.prog 47 #[v, .int .i64 k0] w fun e w' => e = .returned (.int .i64 (k0 + 2 * (n : Int))) ∧ w = w' := by
  by_cases hx : marksP k0 n = []
  · have hn0 : n = 0 := by have := marksP_len n k0; rw [hx] at this; exact this.symm
    subst hn0
    obtain ⟨a, c, rfl⟩ := h.shape
    go_enter Tryd.func47, Tryd.ntmps47
    rw [hx]
    go_wp2
    refine wp_loop_once ?_
    go_wp2
    go_ret
    exact ⟨ret_int (by simp), rfl⟩
  · obtain ⟨g, cap, bs, rfl, -, hg, hi, -, hc, -⟩ := h.cells hx
    have hcells : ∀ k (hk : k < n), ∃ y, w.cell? ⟨g, k, none⟩ = some y ∧ RdI w y (marks (k0 + 2 * (k : Int)) 2) := fun k hk => by
      have hb1 : k < bs.length := by rw [hi.1, marksP_len]; exact hk
      have h2 := InnP.rd (hi.2.2.2 k hb1 (by rw [marksP_len]; exact hk))
      rw [marksP_at] at h2
      exact ⟨_, hc k hb1, h2⟩
    have HC := Lib.hid hcells
    rw [marksP_len]
    clear hi hc hcells h hx
    go_enter Tryd.func47, Tryd.ntmps47
    go_wp2_with (fail)
    go_loop [1, 5] (fun x i => ∃ k : Nat, k ≤ n ∧ i = .int .i64 (k : Int) ∧ x = .int .i64 (k0 + 2 * (k : Int))) (fun _ i => n - (intOf i).toNat)
    case atStart => exact ⟨0, Nat.zero_le _, rfl, by go_num⟩
    case round =>
      obtain ⟨k, hk, rfl, rfl⟩ := hrel
      by_cases hkl : k < n
      · obtain ⟨y, c1, hr⟩ := HC.out k hkl
        have hl1 : (k : Int) < (n : Int) := by omega
        have hM := heldIntS_any 2 (k0 + 2 * (k : Int)) hr (by omega) (by omega) (by omega)
        have zq : decide (k0 + 2 * (k : Int) + 2 < 0) = false := decide_eq_false (by omega)
        go_wp2_with (go_at_call 87; refine hM.mono ?_; rintro e w1 ⟨rfl, rfl⟩)
        go_round
        case rel => exact ⟨k + 1, by omega, by go_num, by go_num⟩
        case measure => simp [intOf]; omega
      · have ek : k = n := by omega
        subst ek
        go_wp2_with (fail)
        go_ret
        exact ⟨rfl, rfl⟩
end Go.Proofs.YthnjfafeiichgaaDoor
