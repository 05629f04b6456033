/-
  ParseAlarm and FormatAlarm of the model. Texts of at most 2^20 bytes.
-/
import Derived.Test.YtikaiimafliceaaDoorAla
import Derived.Test.YtikaiimafliceaaDoorAlaP
import Derived.Test.YtikaiimafliceaaDoorStrs
import Derived.Test.YtikaiimafliceaaDoorParseU
import Derived.Test.YtikaiimafliceaaDoorFmt
import Derived.Test.YtikaiimafliceaaDoorStepS
import Derived.Deep.RegionLaw
import Derived.Deep.Cut
import Derived.Deep.CutBlock
namespace Go.Proofs.YtikaiimafliceaaDoor
open Go.RowKit
set_option linter.all false
theorem run_to (l : List UInt8) (b : Nat) (hb : b ≤ l.length) (W : World) : (Instr.slice 9 (.string ⟨l.toArray⟩) none (some (.int .i64 (b : Int))) none).run Tryd.prog W = .ok (.string ⟨(l.take b).toArray⟩) W := by
  have hsz : (ByteArray.mk l.toArray).size = l.length := by simp [ByteArray.size]
  rw [run_slice_string_to_if W 9 _ .i64 _ Tryd.underlying9, if_pos ⟨by omega, by rw [hsz]; omega⟩, ByteArray.extract_mk, Int.toNat_natCast]
  simp
theorem cutA_sane (l : List UInt8) (h : l.length ≤ 1048576) : Sane (cutA l) := by
  have h1 := spltA_len l [] []
  refine ⟨by unfold cutA; simp at h1; omega, fun s hs => ?_⟩
  rcases spltA_row l [] [] s hs with h2 | h2
  · cases h2
  · simp at h2; omega
/-- What ParseAlarm leaves. -/
def AlPost (l : List UInt8) (w : World) (e : Ending) (w' : World) : Prop := ∃ v, e = .returned (.tuple #[.agg (alC (alT l) v), .bool (alarmP l).isSome]) ∧ WrS w' w.heap.size v (alP l) ∧ Below w.heap.size w w'
/-- What is known at byte k, the present piece from byte n on; behind the last round all pieces are cut. -/
def ASt (l : List UInt8) (k n : Nat) (acc : Rowz) : Prop := if k ≤ l.length then AAt l k n acc else k = l.length + 1 ∧ acc = cutA l
theorem ASt.at_ {l : List UInt8} {k n : Nat} {acc : Rowz} (h : ASt l k n acc) (hk : k ≤ l.length) : AAt l k n acc := by unfold ASt at h; rwa [if_pos hk] at h
theorem ASt.end_ {l : List UInt8} {k n : Nat} {acc : Rowz} (h : ASt l k n acc) (hk : ¬ k ≤ l.length) : acc = cutA l := by unfold ASt at h; rw [if_neg hk] at h; exact h.2
theorem ASt.cut {l : List UInt8} {k n : Nat} {acc : Rowz} (h : AAt l k n acc) (hk : k < l.length) (hc : l[k].toNat = 44) : ASt l (k + 1) (k + 1) (acc ++ [(l.drop n).take (k - n)]) := by
  unfold ASt; rw [if_pos (by omega)]; exact h.cut hk hc
theorem ASt.other {l : List UInt8} {k n : Nat} {acc : Rowz} (h : AAt l k n acc) (hk : k < l.length) (hc : l[k].toNat ≠ 44) : ASt l (k + 1) n acc := by
  unfold ASt; rw [if_pos (by omega)]; exact h.other hk hc
theorem ASt.last {l : List UInt8} {n : Nat} {acc : Rowz} (h : AAt l l.length n acc) : ASt l (l.length + 1) (l.length + 1) (acc ++ [(l.drop n).take (l.length - n)]) := by
  unfold ASt; rw [if_neg (by omega)]
  refine ⟨rfl, ?_⟩
  rw [List.take_of_length_le (by rw [List.length_drop]; omega)]; exact h.done
/-- The same from byte c of a text on. -/
def BSt (l : List UInt8) (c p s : Nat) (acc : Rowz) : Prop := c ≤ p ∧ c ≤ s ∧ ASt (l.drop c) (p - c) (s - c) acc
section
variable {l : List UInt8} {c p s : Nat} {acc : Rowz}
theorem BSt.start (l : List UInt8) (c : Nat) : BSt l c c c [] := ⟨Nat.le_refl _, Nat.le_refl _, by unfold ASt; rw [Nat.sub_self, if_pos (Nat.zero_le _)]; exact AAt.zero _⟩
theorem BSt.at_ (h : BSt l c p s acc) (hp : p ≤ l.length) : AAt (l.drop c) (p - c) (s - c) acc := h.2.2.at_ (by rw [List.length_drop]; omega)
theorem BSt.in_ (h : BSt l c p s acc) (hp : p ≤ l.length) : s ≤ p ∧ acc.length ≤ p := by
  obtain ⟨h1, h2, h3⟩ := id h
  obtain ⟨a, b, d, e⟩ := h.at_ hp
  omega
theorem BSt.piece (h : BSt l c p s acc) (hp : p ≤ l.length) : ((l.drop c).drop (s - c)).take (p - c - (s - c)) = (l.drop s).take (p - s) := by
  obtain ⟨h1, h2, h3⟩ := id h
  have := h.in_ hp
  rw [List.drop_drop, show c + (s - c) = s by omega, show p - c - (s - c) = p - s by omega]
theorem BSt.cut (h : BSt l c p s acc) (hp : p < l.length) (hc : l[p].toNat = 44) : BSt l c (p + 1) (p + 1) (acc ++ [(l.drop s).take (p - s)]) := by
  obtain ⟨h1, h2, h3⟩ := id h
  refine ⟨by omega, by omega, ?_⟩
  rw [← h.piece (by omega), show p + 1 - c = (p - c) + 1 by omega]
  exact ASt.cut (h.at_ (by omega)) (by rw [List.length_drop]; omega) (by rw [List.getElem_drop]; simpa [show c + (p - c) = p by omega] using hc)
theorem BSt.other (h : BSt l c p s acc) (hp : p < l.length) (hc : l[p].toNat ≠ 44) : BSt l c (p + 1) s acc := by
  obtain ⟨h1, h2, h3⟩ := id h
  refine ⟨by omega, h2, ?_⟩
  rw [show p + 1 - c = (p - c) + 1 by omega]
  exact ASt.other (h.at_ (by omega)) (by rw [List.length_drop]; omega) (by rw [List.getElem_drop]; simpa [show c + (p - c) = p by omega] using hc)
theorem BSt.last (h : BSt l c l.length s acc) : BSt l c (l.length + 1) (l.length + 1) (acc ++ [(l.drop s).take (l.length - s)]) := by
  obtain ⟨h1, h2, h3⟩ := id h
  have e : (l.drop c).length = l.length - c := List.length_drop
  refine ⟨by omega, by omega, ?_⟩
  rw [← h.piece (Nat.le_refl _), show l.length + 1 - c = (l.length - c) + 1 by omega, ← e]
  exact ASt.last (by rw [e]; exact h.at_ (Nat.le_refl _))
theorem BSt.end_ (h : BSt l c p s acc) (hc : c ≤ l.length) (hp : ¬ p ≤ l.length) : acc = cutA (l.drop c) := h.2.2.end_ (by rw [List.length_drop]; have := h.1; omega)
end
theorem retPu_none : retPu none = .tuple #[.int .i64 0, .bool false] := rfl
theorem retPu_some (n : Nat) : retPu (some n) = .tuple #[.int .i64 (n : Int), .bool true] := rfl
theorem alT_no {l : List UInt8} (h : alarmP l = none) : alT l = 0 ∧ alP l = [] ∧ (alarmP l).isSome = false := by
  refine ⟨by unfold alT; rw [h], by unfold alP; rw [h], by rw [h]; rfl⟩
theorem alT_yes {l : List UInt8} {n : Nat} {X : Rowz} (h : alarmP l = some (n, X)) : alT l = n ∧ alP l = X ∧ (alarmP l).isSome = true := by
  refine ⟨by unfold alT; rw [h], by unfold alP; rw [h], by rw [h]; rfl⟩
set_option maxRecDepth 100000 in
set_option maxHeartbeats 8000000 in
theorem parseAlarm_spec (l : List UInt8) (w : World) (hs : l.length ≤ 1048576) :
    Calls Tryd.prog 15 #[.string ⟨l.toArray⟩] w (AlPost l w) := by
  obtain ⟨W0, hW, hA, hB0, hS0⟩ := rows1 w #[.int .i64 0, .slice none 0 0] 27
  have hsz : (ByteArray.mk l.toArray).size = l.length := by simp [ByteArray.size]
  have hlc : (l.length : Int) ≤ 1048576 := by omega
  go_enter Tryd.func15, Tryd.ntmps15
  go_wp2_with (fail)
  try rw [hW]
  clear hW
  go_loopw [4] (fun i wr => ∃ k : Nat, k ≤ l.length ∧ i = .int .i64 (k : Int) ∧ wr = W0 ∧ Hid (∀ j (hj : j < l.length), j < k → l[j].toNat ≠ 58)) (fun i _ => l.length - (intOf i).toNat)
  case atStart => exact ⟨0, Nat.zero_le _, rfl, by first | rfl | trivial, Lib.hid (fun j hj hl => by omega)⟩
  case round =>
    obtain ⟨k, hk, rfl, rfl, HA⟩ := hrel
    by_cases hkl : k < l.length
    case neg =>
      have hno : alarmP l = none := alarmP_none (colonA_none (fun j hj => HA.out j hj (by omega)))
      have z0 : decide ((k : Int) < (l.length : Int)) = false := by simp; omega
      have HF := Lib.hid (alT_no hno)
      have cA := rowCells hA
      have fA := fun j => frozenHeap hA j
      clear hno
      go_wp2_with (fail)
      refine bodyPost_ret (v := .tuple #[.agg #[.int .i64 0, .slice none 0 0], .bool false]) (results_two rfl _ _ _ _ _ rfl rfl (loadAl (boxAl_heap hA rfl 0 (.slice none 0 0)) rfl)) rfl ⟨.slice none 0 0, ?_, ?_, boxAl_below hB0 (Nat.le_refl _) 0 (.slice none 0 0)⟩
      · rw [HF.out.1, HF.out.2.2]; rfl
      · rw [HF.out.2.1]; exact (OwnS.nil _ _).wr
    have z0 : decide ((k : Int) < (l.length : Int)) = true := by simp; omega
    have hkh : (k : Int) < (l.length : Int) := by omega
    obtain ⟨c, hc⟩ : ∃ c, c = l[k] := ⟨_, rfl⟩
    have hix : (ByteArray.mk l.toArray)[k]'hkl = c := hc.symm
    have hidx : ∀ W, (Instr.index 9 (.string ⟨l.toArray⟩) (.int .i64 (k : Int))).run Tryd.prog W = .ok (.int .u8 (c.toNat : Int)) W := fun W => run_at W hkl hix
    by_cases c1 : c.toNat = 58
    case neg =>
      have z3 : ((c.toNat : Int) != 58) = true := by simp; omega
      have HN : Hid (∀ j (hj : j < l.length), j < k + 1 → l[j].toNat ≠ 58) := Lib.hid (fun j hj hl => by
        by_cases e : j = k
        · subst e; rw [← hc]; exact c1
        · exact HA.out j hj (by omega))
      clear hc hix c1
      go_wp2_with (fail)
      go_roundw
      case rel => exact ⟨k + 1, by omega, by go_num, by first | rfl | trivial, HN⟩
      case measure => simp [intOf]; omega
    have z3 : ((c.toNat : Int) != 58) = false := by simp; omega
    have hcol : colonA l = some k := colonA_some hkl (by rw [← hc]; exact c1) HA.out
    have hto := fun W => run_to l k hk W
    have HC := Lib.hid hcol
    clear hc hix c1 HA hcol
    have hPU := fun W => parseUint_spec (l.take k) W (by rw [List.length_take]; omega)
    obtain ⟨u, hu⟩ : ∃ u, u = l.take k := ⟨_, rfl⟩
    rw [← hu] at hto hPU
    have HU := Lib.hid hu
    clear hu
    go_wp2_with (fail)
    refine (hPU _).mono ?_
    rintro e w1 ⟨rfl, hb1⟩
    have hA1 := keepHeap hb1 hA
    have hb01 := hB0.trans (hb1.mono hB0.size)
    have hs1 := hb1.size
    cases hp : puL u with
    | none =>
      have hno : alarmP l = none := alarmP_bad HC.out (by rw [← HU.out]; exact hp)
      have HF := Lib.hid (alT_no hno)
      have cA := rowCells hA1
      have fA := fun j => frozenHeap hA1 j
      clear hno hp
      rw [retPu_none]
      go_wp2_with (fail)
      refine bodyPost_ret (v := .tuple #[.agg #[.int .i64 0, .slice none 0 0], .bool false]) (results_two rfl _ _ _ _ _ rfl rfl (loadAl (boxAl_heap hA1 rfl 0 (.slice none 0 0)) rfl)) rfl ⟨.slice none 0 0, ?_, ?_, boxAl_below hb01 (Nat.le_refl _) 0 (.slice none 0 0)⟩
      · rw [HF.out.1, HF.out.2.2]; rfl
      · rw [HF.out.2.1]; exact (OwnS.nil _ _).wr
    | some n =>
      have hyes : alarmP l = some (n, partsA (l.drop (k + 1))) := alarmP_ok HC.out (by rw [← HU.out]; exact hp)
      have HF := Lib.hid (alT_yes hyes)
      have hnb : (n : Int) ≤ 1000000000 := by have := (puL_of hp).1; omega
      clear hyes hp
      rw [retPu_some]
      obtain ⟨r, hr⟩ : ∃ r, r = l.drop (k + 1) := ⟨_, rfl⟩
      have hrl : r.length + (k + 1) = l.length := by rw [hr, List.length_drop]; omega
      have HRL := Lib.hid hr
      obtain ⟨W2, hW2, hG, hb2⟩ : ∃ W, w1.alloc (.cells #[.int .i64 (n : Int), .slice none 0 0] 27) = W ∧ W.heap[w1.heap.size]? = some (.cells #[.int .i64 (n : Int), .slice none 0 0] 27 (0, 0)) ∧ Below w1.heap.size w1 W := ⟨_, rfl, heap_alloc_new _ _, below1 _ _⟩
      have hA2 := keepHeap hb2 hA1
      have hb02 := hb01.trans (hb2.mono hb01.size)
      have hs2 := hb2.size
      have hsz2 : W2.heap.size = w1.heap.size + 1 := by rw [← hW2]; simp
      have hw1 : w.heap.size < w1.heap.size := (Array.getElem?_eq_some_iff.1 hA1).1
      rw [← hr] at HF
      clear hr hA1 hA hB0 hb1 hPU hto
      have HS2 := Lib.hid hsz2
      have HW2 := Lib.hid hW2
      clear hsz2 hW2
      go_wp2_with (fail)
      rw [HW2.out]
      clear HW2
      by_cases hr0 : r.length = 0
      · have hnil := List.eq_nil_of_length_eq_zero hr0
        have z1 : decide ((k : Int) + 1 ≤ (l.length : Int)) = true := by simp; omega
        have z2 : decide ((k : Int) + 1 < (l.length : Int) + 1) = true := by simp; omega
        have z4 : decide ((k : Int) + 1 < (l.length : Int)) = false := by simp; omega
        have cG := rowCells hG
        have cA2 := rowCells hA2
        have fA := fun j => frozenHeap hA2 j
        have hP : partsA r = [] := by rw [hnil]; rfl
        rw [hP] at HF
        clear hnil hP
        refine wp_loop_once ?_
        go_wp2_with (fail)
        refine bodyPost_ret (v := .tuple #[.agg #[.int .i64 (n : Int), .slice none 0 0], .bool true]) (results_two rfl _ _ _ _ _ rfl rfl (loadAl (boxAl_heap hA2 rfl (n : Int) (.slice none 0 0)) rfl)) rfl ⟨.slice none 0 0, ?_, ?_, boxAl_below hb02 (Nat.le_refl _) (n : Int) (.slice none 0 0)⟩
        · rw [HF.out.1, HF.out.2.2]; rfl
        · rw [HF.out.2.1]; exact (OwnS.nil _ _).wr
      have hP : partsA r = cutA r := by unfold partsA; rw [if_neg (by intro e; rw [e] at hr0; exact hr0 rfl)]
      rw [hP] at HF
      clear hP
      obtain ⟨c, hcd⟩ : ∃ c : Nat, c = k + 1 := ⟨_, rfl⟩
      rw [show (k : Int) + 1 = (c : Int) by omega]
      rw [← hcd] at HRL hrl
      have z4 : decide ((k : Int) + 1 < (l.length : Int)) = true := by simp; omega
      have HCD := Lib.hid hcd
      have HRN := Lib.hid hrl
      clear hcd hrl
      go_loopw [8, 9] (fun st i wr => ∃ (p s : Nat) (acc : Rowz) (v : Value), st = .int .i64 (s : Int) ∧ i = .int .i64 (p : Int) ∧ p ≤ l.length + 1 ∧ BSt l c p s acc ∧ wr.heap[w.heap.size]? = some (.cells #[.int .i64 0, .slice none 0 0] 27 (0, 0)) ∧ wr.heap[w1.heap.size]? = some (.cells #[.int .i64 (n : Int), v] 27 (0, 0)) ∧ OwnS wr (w1.heap.size + 1) v acc ∧ Below w.heap.size w wr ∧ w1.heap.size + 1 ≤ wr.heap.size) (fun _ i _ => l.length + 1 - (intOf i).toNat)
      case atStart => exact ⟨c, c, [], .slice none 0 0, rfl, rfl, by have := HRN.out; omega, BSt.start l c, hA2, hG, OwnS.nil _ _, hb02, by have := HS2.out; omega⟩
      case round =>
        clear hA2 hG hb02 HS2
        obtain ⟨p, s, acc, v, rfl, rfl, hpl, hat, hAr, hBr, hown, hbel, hszr⟩ := hrel
        have cA := rowCells hAr
        have cB := rowCells hBr
        have fA := fun j => frozenHeap hAr j
        have fB := fun j => frozenHeap hBr j
        by_cases hpk : p ≤ l.length
        · obtain ⟨hsp, hacc⟩ := hat.in_ hpk
          have z1 : decide ((p : Int) ≤ (l.length : Int)) = true := by simp; omega
          have z2 : decide ((s : Int) < (l.length : Int) + 1) = true := by simp; omega
          by_cases hpe : p = l.length
          · subst hpe
            have hcut := fun W => run_cut (l := l) hsp (Nat.le_refl _) W
            have HN := Lib.hid (BSt.last hat)
            generalize hx : (l.drop s).take (l.length - s) = x at HN hcut
            clear hx hat
            have HO := Lib.hid hown
            have cX : (wr.alloc (.cells #[.string ⟨x.toArray⟩] 9)).cell? ⟨w1.heap.size, 1, none⟩ = some v := rowCells (keepHeap (below1 wr _) hBr) 1
            go_wp2_with (fail)
            go_region_law (refine step_str rfl (.tmp 66) (.tmp 71) rfl (w1.heap.size + 1) v acc rfl (HO.out.drew.alloc _) wr.heap.size x rfl (World.cell?_alloc_mark _ _ _ (0, 0) 0) (by omega) (by simp; omega) ?_; intro v1 w2 hown1 hb1; obtain ⟨a1, c1, rfl⟩ := hown1.shape; have hB1 := heapUp hb1 (by omega) (keepHeap (below1 wr.drew _) hBr); have hA1 := heapUp hb1 (by omega) (keepHeap (below1 wr.drew _) hAr); have cB1 := rowCells hB1; have fB1 := fun j => frozenHeap hB1 j)
            all_goals
              have hlen1 : (acc ++ [x]).length = acc.length + 1 := by simp
              rw [hlen1] at hown1
              have hbA : Below w.heap.size w w2 := (hbel.trans ((below1 wr _).mono hbel.size).drew).trans (hb1.mono (show w.heap.size ≤ w1.heap.size + 1 by omega))
              go_wp2_with (fail)
              go_roundw
              case measure => show l.length + 1 - ((l.length : Int) + 1).toNat < l.length + 1 - (l.length : Int).toNat; omega
              exact ⟨l.length + 1, l.length + 1, acc ++ [x], _, rfl, rfl, by omega, HN.out, farHeap hA1 (by show w.heap.size ≠ w1.heap.size; omega) _, setHAl (k := 1) hB1, hown1.set (by show w1.heap.size < _; omega) _, hbA.setCell (p := ⟨w1.heap.size, 1, none⟩) (by show w.heap.size ≤ w1.heap.size; omega) _, by have := hb1.size; simp at this ⊢; omega⟩
          · have hpL : p < l.length := by omega
            have z3 : ((p : Int) == (l.length : Int)) = false := by simp; omega
            obtain ⟨d, hd⟩ : ∃ d, d = l[p] := ⟨_, rfl⟩
            have hix : (ByteArray.mk l.toArray)[p]'hpL = d := hd.symm
            have hidx2 : ∀ W, (Instr.index 9 (.string ⟨l.toArray⟩) (.int .i64 (p : Int))).run Tryd.prog W = .ok (.int .u8 (d.toNat : Int)) W := fun W => run_at W hpL hix
            have hph : (p : Int) < (l.length : Int) := by omega
            by_cases c1 : d.toNat = 44
            · have HN := Lib.hid (BSt.cut hat hpL (by rw [← hd]; exact c1))
              have z5 : ((d.toNat : Int) == 44) = true := by simp; omega
              have hcut := fun W => run_cut (l := l) hsp hpk W
              generalize hx : (l.drop s).take (p - s) = x at HN hcut
              clear hx hat hd hix c1
              have HO := Lib.hid hown
              have cX : (wr.alloc (.cells #[.string ⟨x.toArray⟩] 9)).cell? ⟨w1.heap.size, 1, none⟩ = some v := rowCells (keepHeap (below1 wr _) hBr) 1
              go_wp2_with (fail)
              go_region_law (refine step_str rfl (.tmp 66) (.tmp 71) rfl (w1.heap.size + 1) v acc rfl (HO.out.drew.alloc _) wr.heap.size x rfl (World.cell?_alloc_mark _ _ _ (0, 0) 0) (by omega) (by simp; omega) ?_; intro v1 w2 hown1 hb1; obtain ⟨a1, c1, rfl⟩ := hown1.shape; have hB1 := heapUp hb1 (by omega) (keepHeap (below1 wr.drew _) hBr); have hA1 := heapUp hb1 (by omega) (keepHeap (below1 wr.drew _) hAr); have cB1 := rowCells hB1; have fB1 := fun j => frozenHeap hB1 j)
              all_goals
                have hlen1 : (acc ++ [x]).length = acc.length + 1 := by simp
                rw [hlen1] at hown1
                have hbA : Below w.heap.size w w2 := (hbel.trans ((below1 wr _).mono hbel.size).drew).trans (hb1.mono (show w.heap.size ≤ w1.heap.size + 1 by omega))
                go_wp2_with (fail)
                go_roundw
                case measure => show l.length + 1 - ((p : Int) + 1).toNat < l.length + 1 - (p : Int).toNat; omega
                exact ⟨p + 1, p + 1, acc ++ [x], _, rfl, rfl, by omega, HN.out, farHeap hA1 (by show w.heap.size ≠ w1.heap.size; omega) _, setHAl (k := 1) hB1, hown1.set (by show w1.heap.size < _; omega) _, hbA.setCell (p := ⟨w1.heap.size, 1, none⟩) (by show w.heap.size ≤ w1.heap.size; omega) _, by have := hb1.size; simp at this ⊢; omega⟩
            · have HN := Lib.hid (BSt.other hat hpL (by rw [← hd]; exact c1))
              have z5 : ((d.toNat : Int) == 44) = false := by simp; omega
              clear hat hd hix c1
              go_wp2_with (fail)
              go_roundw
              case measure => show l.length + 1 - ((p : Int) + 1).toNat < l.length + 1 - (p : Int).toNat; omega
              exact ⟨p + 1, s, acc, _, rfl, rfl, by omega, HN.out, hAr, hBr, hown, hbel, hszr⟩
        · have hF := hat.end_ (by have := HRN.out; omega) hpk
          have hF2 : acc = cutA r := by rw [hF, HRL.out]
          clear hat hF
          have z1 : decide ((p : Int) ≤ (l.length : Int)) = false := by simp; omega
          have HO := Lib.hid hown
          obtain ⟨a2, c2, rfl⟩ := hown.shape
          rw [← hF2] at HF
          clear hF2
          go_wp2_with (fail)
          refine bodyPost_ret (v := .tuple #[.agg #[.int .i64 (n : Int), .slice a2 acc.length c2], .bool true]) (results_two rfl _ _ _ _ _ rfl rfl (loadAl (boxAl_heap hAr rfl (n : Int) (.slice a2 acc.length c2)) rfl)) rfl ⟨.slice a2 acc.length c2, ?_, ?_, boxAl_below hbel (Nat.le_refl _) (n : Int) (.slice a2 acc.length c2)⟩
          · rw [HF.out.1, HF.out.2.2]; rfl
          · rw [HF.out.2.1]; exact (((HO.out.set (p := ⟨w.heap.size, 0, none⟩) (by show w.heap.size < _; omega) _).set (p := ⟨w.heap.size, 1, none⟩) (by show w.heap.size < _; omega) _).up (by omega)).wr
end Go.Proofs.YtikaiimafliceaaDoor
