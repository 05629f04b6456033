/-
  Texts of this proof: ParseL.
-/
import Derived.Test.YtehjafaobaoleaaDoorM39
import Derived.Test.YtehjafaobaoleaaDoorM19
import Derived.Test.YtehjafaobaoleaaDoorM40
import Derived.Deep.RegionLaw
namespace Go.Proofs.YtehjafaobaoleaaDoor
open Go.RowKit
set_option linter.all false
theorem cutS_sane (l : List UInt8) (h : l.length ≤ 1048576) : Sane (cutS l) := by
 have h1 := splt_len l [] []
 refine ⟨by unfold cutS; simp at h1; omega, fun s hs => ?_⟩
 rcases splt_row l [] [] s hs with h2 | h2
 ·cases h2
 ·simp at h2; omega
def ParsePost (l : List UInt8) (w : World) (e : Ending) (w' : World) : Prop := ∃ v, e = .returned (.tuple #[.agg #[v], .bool (levelB (cutS l))]) ∧ WrS w' w.heap.size v (if levelB (cutS l) then cutS l else []) ∧ Below w.heap.size w w'
def PSt (l : List UInt8) (k n : Nat) (acc : Rowz) : Prop := if k ≤ l.length then PAt l k n acc else k = l.length + 1 ∧ acc = cutS l
theorem PSt.at_ {l : List UInt8} {k n : Nat} {acc : Rowz} (h : PSt l k n acc) (hk : k ≤ l.length) : PAt l k n acc := by unfold PSt at h; rwa [if_pos hk] at h
theorem PSt.end_ {l : List UInt8} {k n : Nat} {acc : Rowz} (h : PSt l k n acc) (hk : ¬ k ≤ l.length) : acc = cutS l := by unfold PSt at h; rw [if_neg hk] at h; exact h.2
theorem PSt.cut {l : List UInt8} {k n : Nat} {acc : Rowz} (h : PAt l k n acc) (hk : k < l.length) (hc : l[k].toNat = 47) : PSt l (k + 1) (k + 1) (acc ++ [(l.drop n).take (k - n)]) := by
 unfold PSt; rw [if_pos (by omega)]; exact h.cut hk hc
theorem PSt.other {l : List UInt8} {k n : Nat} {acc : Rowz} (h : PAt l k n acc) (hk : k < l.length) (hc : l[k].toNat ≠ 47) : PSt l (k + 1) n acc := by
 unfold PSt; rw [if_pos (by omega)]; exact h.other hk hc
theorem PSt.last {l : List UInt8} {n : Nat} {acc : Rowz} (h : PAt l l.length n acc) : PSt l (l.length + 1) (l.length + 1) (acc ++ [(l.drop n).take (l.length - n)]) := by
 unfold PSt; rw [if_neg (by omega)]
 refine ⟨rfl, ?_⟩
 rw [List.take_of_length_le (by rw [List.length_drop]; omega)]; exact h.done
set_option maxHeartbeats 4000000 in
theorem parseLevel_spec (l : List UInt8) (w : World) (hs : l.length ≤ 1048576) :
  Calls Tryd.prog 32 #[.string ⟨l.toArray⟩] w (ParsePost l w) := by
 obtain ⟨W0, hW, hA, hB, hB0, hS0⟩ := rows2 w #[.slice none 0 0] #[.slice none 0 0] 26 26
 have cA := rowCells hA
 have cB := rowCells hB
 have fA := frozenHeap hA 0
 have fB := frozenHeap hB 0
 have hsz : (ByteArray.mk l.toArray).size = l.length := by simp [ByteArray.size]
 go_enter Tryd.func32, Tryd.ntmps32
 go_wp2_with (fail)
 go_loopw [5, 6] (fun b i wr => ∃ (k n : Nat) (acc : Rowz) (v : Value), b = .int .i64 (n : Int) ∧ i = .int .i64 (k : Int) ∧ k ≤ l.length + 1 ∧ PSt l k n acc ∧ wr.heap[w.heap.size]? = some (.cells #[.slice none 0 0] 26 (0, 0)) ∧ wr.heap[w.heap.size + 1]? = some (.cells #[v] 26 (0, 0)) ∧ OwnS wr (w.heap.size + 2) v acc ∧ Below w.heap.size w wr ∧ w.heap.size + 2 ≤ wr.heap.size) (fun _ i _ => l.length + 1 - (intOf i).toNat)
 case atStart => exact ⟨0, 0, [], .slice none 0 0, rfl, rfl, by omega, by unfold PSt; rw [if_pos (by omega)]; exact PAt.zero l, farHeap hA (by show w.heap.size ≠ w.heap.size + 1; omega) _, setHeap hB, OwnS.nil _ _, hB0.trans ((Below.refl _ _).setCell (by show _ ≤ w.heap.size + 1; omega) _), by simp; omega⟩
 case round =>
  obtain ⟨k, n, acc, v, rfl, rfl, hk, hat, hAr, hBr, hown, hbel, hsz2⟩ := hrel
  have cA := rowCells hAr
  have cB := rowCells hBr
  have fA := frozenHeap hAr 0
  have fB := frozenHeap hBr 0
  by_cases hkl : k ≤ l.length
  ·have hP := hat.at_ hkl
   obtain ⟨hnk, -, -, hacc⟩ := id hP
   have z0 : decide ((k : Int) ≤ (l.length : Int)) = true := by simp; omega
   by_cases hke : k = l.length
   ·subst hke
    have hcut := fun W => run_cut (l := l) hnk (Nat.le_refl _) W
    have HN := Lib.hid (PSt.last hP)
    generalize hx : (l.drop n).take (l.length - n) = x at HN hcut
    clear hx hP hat
    have HO := Lib.hid hown
    have cX : (wr.alloc (.cells #[.string ⟨x.toArray⟩] 9)).cell? ⟨w.heap.size + 1, 0, none⟩ = some v := rowCells (keepHeap (below1 wr _) hBr) 0
    go_wp2_with (fail)
    go_region_law (refine step_str rfl (.tmp 25) (.tmp 30) rfl (w.heap.size + 2) v acc rfl (HO.out.drew.alloc _) wr.heap.size x rfl (World.cell?_alloc_mark _ _ _ (0, 0) 0) (by omega) (by simp; omega) ?_; intro v1 w1 hown1 hb1; obtain ⟨a1, c1, rfl⟩ := hown1.shape; have hB1 := heapUp hb1 (by omega) (keepHeap (below1 wr.drew _) hBr); have hA1 := heapUp hb1 (by omega) (keepHeap (below1 wr.drew _) hAr); have cB1 := rowCells hB1; have fB1 := frozenHeap hB1 0)
    all_goals
     have hlen1 : (acc ++ [x]).length = acc.length + 1 := by simp
     rw [hlen1] at hown1
     have hbA : Below w.heap.size w w1 := (hbel.trans ((below1 wr _).mono hbel.size).drew).trans (hb1.mono (show w.heap.size ≤ w.heap.size + 2 by omega))
     go_wp2_with (fail)
     go_roundw
     case measure => show l.length + 1 - ((l.length : Int) + 1).toNat < l.length + 1 - (l.length : Int).toNat; omega
     exact ⟨l.length + 1, l.length + 1, acc ++ [x], _, rfl, rfl, by omega, HN.out, farHeap hA1 (by show w.heap.size ≠ w.heap.size + 1; omega) _, setHeap hB1, hown1.set (by show w.heap.size + 1 < _; omega) _, hbA.setCell (p := ⟨w.heap.size + 1, 0, none⟩) (by show w.heap.size ≤ w.heap.size + 1; omega) _, by have := hb1.size; simp at this ⊢; omega⟩
   ·have hkL : k < l.length := by omega
    have z1 : ((k : Int) == (l.length : Int)) = false := by simp; omega
    obtain ⟨c, hc⟩ : ∃ c, c = l[k] := ⟨_, rfl⟩
    have hix : (ByteArray.mk l.toArray)[k]'hkL = c := hc.symm
    have hidx : ∀ W, (Instr.index 9 (.string ⟨l.toArray⟩) (.int .i64 (k : Int))).run Tryd.prog W = .ok (.int .u8 (c.toNat : Int)) W := fun W => run_at W hkL hix
    have hkh : (k : Int) < (l.length : Int) := by omega
    by_cases c1 : c.toNat = 47
    ·have HN := Lib.hid (PSt.cut hP hkL (by rw [← hc]; exact c1))
     have z3 : ((c.toNat : Int) == 47) = true := by simp; omega
     have hcut := fun W => run_cut (l := l) hnk hkl W
     generalize hx : (l.drop n).take (k - n) = x at HN hcut
     clear hx hP hat hc hix c1
     have HO := Lib.hid hown
     have cX : (wr.alloc (.cells #[.string ⟨x.toArray⟩] 9)).cell? ⟨w.heap.size + 1, 0, none⟩ = some v := rowCells (keepHeap (below1 wr _) hBr) 0
     go_wp2_with (fail)
     go_region_law (refine step_str rfl (.tmp 25) (.tmp 30) rfl (w.heap.size + 2) v acc rfl (HO.out.drew.alloc _) wr.heap.size x rfl (World.cell?_alloc_mark _ _ _ (0, 0) 0) (by omega) (by simp; omega) ?_; intro v1 w1 hown1 hb1; obtain ⟨a1, c1, rfl⟩ := hown1.shape; have hB1 := heapUp hb1 (by omega) (keepHeap (below1 wr.drew _) hBr); have hA1 := heapUp hb1 (by omega) (keepHeap (below1 wr.drew _) hAr); have cB1 := rowCells hB1; have fB1 := frozenHeap hB1 0)
     all_goals
      have hlen1 : (acc ++ [x]).length = acc.length + 1 := by simp
      rw [hlen1] at hown1
      have hbA : Below w.heap.size w w1 := (hbel.trans ((below1 wr _).mono hbel.size).drew).trans (hb1.mono (show w.heap.size ≤ w.heap.size + 2 by omega))
      go_wp2_with (fail)
      go_roundw
      case measure => show l.length + 1 - ((k : Int) + 1).toNat < l.length + 1 - (k : Int).toNat; omega
      exact ⟨k + 1, k + 1, acc ++ [x], _, rfl, rfl, by omega, HN.out, farHeap hA1 (by show w.heap.size ≠ w.heap.size + 1; omega) _, setHeap hB1, hown1.set (by show w.heap.size + 1 < _; omega) _, hbA.setCell (p := ⟨w.heap.size + 1, 0, none⟩) (by show w.heap.size ≤ w.heap.size + 1; omega) _, by have := hb1.size; simp at this ⊢; omega⟩
    ·have HN := Lib.hid (PSt.other hP hkL (by rw [← hc]; exact c1))
     have z3 : ((c.toNat : Int) == 47) = false := by simp; omega
     clear hP hat hc hix c1
     go_wp2_with (fail)
     go_roundw
     case measure => show l.length + 1 - ((k : Int) + 1).toNat < l.length + 1 - (k : Int).toNat; omega
     exact ⟨k + 1, n, acc, _, rfl, rfl, by omega, HN.out, hAr, hBr, hown, hbel, hsz2⟩
  ·have hF := hat.end_ hkl
   subst hF
   clear hat hk
   have z0 : decide ((k : Int) ≤ (l.length : Int)) = false := by simp; omega
   have hsn := cutS_sane l hs
   generalize hL : cutS l = L at *
   have HO := Lib.hid hown
   obtain ⟨a2, c2, rfl⟩ := hown.shape
   go_wp2_with (fail)
   refine (levelOk_spec hown.rd hsn).mono ?_
   rintro e w2 ⟨rfl, hb2⟩
   have hA2 := keepHeap hb2 hAr
   have hB2 := keepHeap hb2 hBr
   have cA2 := rowCells hA2
   have cB2 := rowCells hB2
   have fA2 := frozenHeap hA2 0
   have hO2 := HO.out.of_below hb2 (Nat.le_refl _)
   have hbel2 := hbel.trans (hb2.mono hbel.size)
   clear cA cB fA fB hAr hBr
   cases hl : levelB L with
   | false =>
    go_wp2_with (fail)
    have cA3 := rowCells (setHeap (k := 0) (v := .slice none 0 0) hA2) 0
    refine bodyPost_ret (v := .tuple #[.agg #[.slice none 0 0], .bool false]) (by simp [results, Tryd.results32, go_sem, cA3]) rfl ⟨.slice none 0 0, ?_, ?_, ?_⟩
    ·rw [hL, hl]
    ·rw [hL, hl]; exact (OwnS.nil _ _).wr
    ·exact hbel2.setCell (p := ⟨w.heap.size, 0, none⟩) (Nat.le_refl _) _
   | true =>
    go_wp2_with (fail)
    have cA3 := rowCells (setHeap (k := 0) (v := .slice a2 L.length c2) hA2) 0
    refine bodyPost_ret (v := .tuple #[.agg #[.slice a2 L.length c2], .bool true]) (by simp [results, Tryd.results32, go_sem, cA3]) rfl ⟨.slice a2 L.length c2, ?_, ?_, ?_⟩
    ·rw [hL, hl]
    ·rw [hL, hl]; exact ((hO2.set (p := ⟨w.heap.size, 0, none⟩) (by show w.heap.size < _; omega) _).up (by omega)).wr
    ·exact hbel2.setCell (p := ⟨w.heap.size, 0, none⟩) (Nat.le_refl _) _
theorem split_wr (l : List UInt8) (w : World) : WrS (w.alloc (.cells ((Lib.splitB ⟨#[47]⟩ 0 (Lib.countB ⟨l.toArray⟩ ⟨#[47]⟩) ⟨l.toArray⟩).map Value.string).toArray 9)) w.heap.size (.slice (some ⟨w.heap.size, 0, none⟩) (Lib.countB ⟨l.toArray⟩ ⟨#[47]⟩ + 1) (Lib.countB ⟨l.toArray⟩ ⟨#[47]⟩ + 1)) (cutS l) := by
 have hd := Lib.splitB_data ⟨#[47]⟩ 0 (Lib.countB ⟨l.toArray⟩ ⟨#[47]⟩) ⟨l.toArray⟩
 have hc : Lib.splitK [47] 0 (Lib.count l [47]) l = cutS l := (cutS_split l).symm
 have hd2 : (Lib.splitB ⟨#[47]⟩ 0 (Lib.countB ⟨l.toArray⟩ ⟨#[47]⟩) ⟨l.toArray⟩).map (·.data.toList) = cutS l := by rw [hd]; exact hc
 have hln := Lib.splitB_all ⟨#[47]⟩ (by decide) 0 _ ⟨l.toArray⟩ rfl
 have hlen : (cutS l).length = Lib.countB ⟨l.toArray⟩ ⟨#[47]⟩ + 1 := by rw [← hd2, List.length_map]; exact hln
 rw [← hlen]
 generalize hX : Lib.splitB ⟨#[47]⟩ 0 (Lib.countB ⟨l.toArray⟩ ⟨#[47]⟩) ⟨l.toArray⟩ = X at hd2
 refine ⟨_, _, rfl, .inr ⟨w.heap.size, Nat.le_refl _, rfl, fun j hj => ?_, fun j _ => ?_⟩⟩
 ·rw [World.cell?_alloc_mark]
  have hj2 : j < X.length := by rw [← hd2, List.length_map] at hj; exact hj
  have e : (cutS l)[j] = X[j].data.toList := by simp only [← hd2, List.getElem_map]
  rw [e]
  simp [hj2]
 ·rw [World.frozen?_alloc_mark]; simp
set_option maxHeartbeats 4000000 in
theorem parseLevel_impl (l : List UInt8) (w : World) (hs : l.length ≤ 1048576) (m : Int) (hm : w.cell? ⟨0, 0, none⟩ = some (.int .i64 m)) :
  Calls Tryd.prog 7 #[.string ⟨l.toArray⟩] w (ParsePost l w) := by
 have hsz : (ByteArray.mk l.toArray).size = l.length := by simp [ByteArray.size]
 obtain ⟨W0, hW, hA, hB0⟩ : ∃ W0, w.alloc (.cells #[.slice none 0 0] 26) = W0 ∧ W0.heap[w.heap.size]? = some (.cells #[.slice none 0 0] 26 (0, 0)) ∧ Below w.heap.size w W0 := ⟨_, rfl, heap_alloc_new w _, below1 _ _⟩
 have hm0 := (hB0.cell (p := ⟨0, 0, none⟩) (World.block_lt_of_cell? w _ hm)).trans hm
 have hSp := Tryd.strings_Split ⟨l.toArray⟩ ⟨#[47]⟩ m W0 (by rw [hsz]; omega) hm0 (by decide)
 have hWr := split_wr l W0
 generalize Lib.countB ⟨l.toArray⟩ ⟨#[47]⟩ = n at hSp hWr
 generalize ((Lib.splitB ⟨#[47]⟩ 0 n ⟨l.toArray⟩).map Value.string).toArray = X at hSp hWr
 have cA := rowCells hA
 have hsn := cutS_sane l hs
 generalize hL : cutS l = L at *
 have hRd := hWr.rd
 obtain ⟨W1, hW1⟩ : ∃ W1, W0.alloc (.cells X 9) = W1 := ⟨_, rfl⟩
 rw [hW1] at hSp hWr hRd
 have hb01 : Below W0.heap.size W0 W1 := by rw [← hW1]; exact below1 _ _
 have hA1 := keepHeap hb01 hA
 obtain ⟨p, hp⟩ : ∃ p : Option Addr, p = some ⟨W0.heap.size, 0, none⟩ := ⟨_, rfl⟩
 have hln : n + 1 = L.length := by
  obtain ⟨a3, c3, e3, -⟩ := id hRd
  simp at e3; exact e3.2.1
 rw [← hp, hln] at hSp hWr hRd
 clear hp
 go_enter Tryd.func7, Tryd.ntmps7
 go_wp2_with (fail)
 clear hW
 refine hSp.mono ?_
 rintro e w1 ⟨rfl, rfl⟩
 obtain ⟨W2, hW2, hC, hb2⟩ : ∃ W2, w1.alloc (.cells #[.slice p L.length L.length] 26) = W2 ∧ W2.heap[w1.heap.size]? = some (.cells #[.slice p L.length L.length] 26 (0, 0)) ∧ Below w1.heap.size w1 W2 := ⟨_, rfl, heap_alloc_new w1 _, below1 _ _⟩
 have cC := rowCells hC
 have fC := frozenHeap hC 0
 have hA2 := keepHeap hb2 hA1
 have hR2 := hRd.keep hb2
 go_wp2_with (fail)
 refine (levelOk_impl hR2 hsn).mono ?_
 rintro e w3 ⟨rfl, hb3⟩
 have hA3 := keepHeap hb3 hA2
 have cA3 := rowCells hA3
 have fA3 := frozenHeap hA3 0
 have cC3 := rowCells (keepHeap hb3 hC)
 have hWr3 := (hWr.keep hb2).keep hb3
 have q0 := hB0.size
 have q1 := hb01.size
 have q2 := hb2.size
 have hbA : Below w.heap.size w w3 := ((hB0.trans (hb01.mono q0)).trans (hb2.mono (by omega))).trans (hb3.mono (by omega))
 have hlt : w.heap.size < W0.heap.size := (Array.getElem?_eq_some_iff.1 hA).1
 clear cA cC fC
 cases hl : levelB L with
 | false =>
  go_wp2_with (fail)
  have cA4 := rowCells (setHeap (k := 0) (v := .slice none 0 0) hA3) 0
  refine bodyPost_ret (v := .tuple #[.agg #[.slice none 0 0], .bool false]) (by simp [results, Tryd.results7, go_sem, cA4]) rfl ⟨.slice none 0 0, ?_, ?_, ?_⟩
  ·rw [hL, hl]
  ·rw [hL, hl]; exact (OwnS.nil _ _).wr
  ·exact hbA.setCell (p := ⟨w.heap.size, 0, none⟩) (Nat.le_refl _) _
 | true =>
  go_wp2_with (fail)
  have cA4 := rowCells (setHeap (k := 0) (v := .slice p L.length L.length) hA3) 0
  refine bodyPost_ret (v := .tuple #[.agg #[.slice p L.length L.length], .bool true]) (by simp [results, Tryd.results7, go_sem, cA4]) rfl ⟨.slice p L.length L.length, ?_, ?_, ?_⟩
  ·rw [hL, hl]
  ·rw [hL, hl]; exact (hWr3.far (p := ⟨w.heap.size, 0, none⟩) hlt _).up q0
  ·exact hbA.setCell (p := ⟨w.heap.size, 0, none⟩) (Nat.le_refl _) _
end Go.Proofs.YtehjafaobaoleaaDoor
