/-
  Texts of this proof: ParseM, StepS, ParseL.
-/
import Derived.Test.YtnlonkkbjkfkmaaDoorM08
import Derived.Lib.Split
import Derived.Lib.SplitLaws
import Derived.Lib.IndexBytes
import Derived.Test.YtnlonkkbjkfkmaaDoorM09
import Derived.Test.YtnlonkkbjkfkmaaDoorM03
import Derived.Deep.RegionLaw
import Derived.Test.YtnlonkkbjkfkmaaDoorM13
namespace Go.Proofs.YtnlonkkbjkfkmaaDoor
open Go.RowKit
set_option linter.all false
def splt : List UInt8 → List UInt8 → Rowz → Rowz
 | [], cur, acc => acc ++ [cur]
 | c :: l, cur, acc => if c.toNat = 47 then splt l [] (acc ++ [cur]) else splt l (cur ++ [c]) acc
def cutS (l : List UInt8) : Rowz := splt l [] []
theorem splt_len (l : List UInt8) : ∀ cur acc, (splt l cur acc).length ≤ acc.length + l.length + 1 := by
 induction l with
 | nil => intro cur acc; simp [splt]
 | cons c l ih =>
  intro cur acc
  rw [splt]; split
  ·have := ih [] (acc ++ [cur]); simp at this ⊢; omega
  ·have := ih (cur ++ [c]) acc; simp at this ⊢; omega
theorem splt_row (l : List UInt8) : ∀ cur acc, ∀ r ∈ splt l cur acc, r ∈ acc ∨ r.length ≤ cur.length + l.length := by
 induction l with
 | nil =>
  intro cur acc r hr
  rw [splt] at hr
  rcases List.mem_append.1 hr with h | h
  ·exact .inl h
  ·simp only [List.mem_singleton] at h; subst h; exact .inr (by simp)
 | cons c l ih =>
  intro cur acc r hr
  rw [splt] at hr; split at hr
  ·rcases ih _ _ r hr with h | h
   ·rcases List.mem_append.1 h with h | h
    ·exact .inl h
    ·simp only [List.mem_singleton] at h; subst h; exact .inr (by simp)
   ·exact .inr (by simp at h ⊢; omega)
  ·rcases ih _ _ r hr with h | h
   ·exact .inl h
   ·exact .inr (by simp at h ⊢; omega)
def pre (cur : List UInt8) : Rowz → Rowz
 | [] => []
 | x :: xs => (cur ++ x) :: xs
def PAt (l : List UInt8) (k b : Nat) (acc : Rowz) : Prop := b ≤ k ∧ k ≤ l.length ∧ splt (l.drop k) ((l.drop b).take (k - b)) acc = cutS l ∧ acc.length ≤ k
theorem PAt.zero (l : List UInt8) : PAt l 0 0 [] := ⟨Nat.le_refl _, Nat.zero_le _, by simp [cutS], Nat.le_refl _⟩
theorem PAt.cut {l : List UInt8} {k b : Nat} {acc : Rowz} (h : PAt l k b acc) (hk : k < l.length) (hc : l[k].toNat = 47) : PAt l (k + 1) (k + 1) (acc ++ [(l.drop b).take (k - b)]) := by
 obtain ⟨h1, h2, h3, h4⟩ := h
 refine ⟨Nat.le_refl _, by omega, ?_, by simp; omega⟩
 rw [← h3, List.drop_eq_getElem_cons hk, splt, if_pos hc]; simp
theorem PAt.other {l : List UInt8} {k b : Nat} {acc : Rowz} (h : PAt l k b acc) (hk : k < l.length) (hc : l[k].toNat ≠ 47) : PAt l (k + 1) b acc := by
 obtain ⟨h1, h2, h3, h4⟩ := h
 refine ⟨by omega, by omega, ?_, by omega⟩
 rw [← h3, List.drop_eq_getElem_cons hk, splt, if_neg hc]
 congr 1
 rw [show k + 1 - b = (k - b) + 1 by omega, List.take_succ_eq_append_getElem (by rw [List.length_drop]; omega), List.getElem_drop]
 congr 3; omega
theorem PAt.done {l : List UInt8} {b : Nat} {acc : Rowz} (h : PAt l l.length b acc) : acc ++ [l.drop b] = cutS l := by
 obtain ⟨h1, h2, h3, h4⟩ := h
 rw [List.drop_of_length_le (Nat.le_refl _), splt, List.take_of_length_le (by rw [List.length_drop]; omega)] at h3
 exact h3
end Go.Proofs.YtnlonkkbjkfkmaaDoor
namespace Go.Proofs.YtnlonkkbjkfkmaaDoor
open Go.RowKit
set_option linter.all false
theorem step_str {ops : Array Oper} {o : Oper} {a : Act} {W : World} {K : Act → World → Prop} {Q : Exit → Act → World → Prop} {E : Prop} (hgd : o.guard = none) (s x : Operand)
  (ho : o.op = .call { callee := .builtin .append, args := #[s, x], argTypes := #[24, 24] })
  (B : Nat) (v : Value) (l : List (List UInt8)) (hs : a.eval s = v) (hown : OwnS W B v l) (ad : Nat) (b : List UInt8) (hx : a.eval x = .slice (some ⟨ad, 0, none⟩) 1 1)
  (hc0 : W.cell? ⟨ad, 0, none⟩ = some (.string ⟨b.toArray⟩))
  (hlen : l.length + 1 ≤ 8796093022208) (hbase : B ≤ W.heap.size)
  (h : ∀ v' w', OwnS w' B v' (l ++ [b]) → Below B W w' → K (a.put o.dst v') w') : if Region.wanted o (yielded ops a.tmps) = true then Oper.wp Tryd.prog o a W K Q else E := by
 obtain ⟨i0, hi, hz0, hz1, hz2⟩ := info_parts info_str
 have hcell : ∀ j u, [strV b][j]? = some u → W.cell? ((⟨ad, 0, none⟩ : Addr).add j) = some u := by
  intro j u hj
  match j, hj with
  | 0, hj => simp at hj; subst hj; exact hc0
 rw [if_pos (by simp [Region.wanted, hgd])]
 refine wp_append_own W s x 24 ho B 9 i0 (.string ⟨#[]⟩) 1 16 Tryd.underlying24 hi hz0 hz1 hz2 rfl (by decide) v l.length (strsV l) hs hown.row ⟨ad, 0, none⟩ 1 1 [strV b] hx rfl hcell (str_one b) (by unfold maxLen; omega) (by omega) hbase ?_
 intro v' w' hown' hgrow _
 refine h v' w' ?_ ?_
 ·unfold OwnS; rw [strsV_snoc, List.length_append]; exact hown'
 ·exact (Below.refl B W).grown hgrow hbase fun k hk => (hown.row.lt k hk).1
theorem OwnS.set {w : World} {B : Nat} {v : Value} {l : List (List UInt8)} (h : OwnS w B v l) {p : Addr} (hp : p.block < B) (u : Value) : OwnS (w.setCell p u) B v l := by
 obtain ⟨h1, h2⟩ := h
 refine ⟨h1, ?_⟩
 rcases h2 with h2 | ⟨g, cap, cur, e, hB, hg, r⟩
 ·exact .inl h2
 ·exact .inr ⟨g, cap, cur, e, hB, farHeap hg (by omega) u, r⟩
theorem heapUp {B : Nat} {W W' : World} {k : Nat} {o : Obj} (hb : Below B W W') (hk : k < B) (h : W.heap[k]? = some o) : W'.heap[k]? = some o := by rw [hb.block k hk]; exact h
end Go.Proofs.YtnlonkkbjkfkmaaDoor
namespace Go.Proofs.YtnlonkkbjkfkmaaDoor
open Go.RowKit
set_option linter.all false
theorem cutS_sane (l : List UInt8) (h : l.length ≤ 1048576) : Sane (cutS l) := by
 have h1 := splt_len l [] []
 refine ⟨by unfold cutS; simp at h1; omega, fun s hs => ?_⟩
 rcases splt_row l [] [] s hs with h2 | h2
 ·cases h2
 ·simp at h2; omega
def ParsePost (l : List UInt8) (w : World) (e : Ending) (w' : World) : Prop := ∃ v, e = .returned (.tuple #[.agg #[v], .bool (levelB (cutS l))]) ∧ WrS w' w.heap.size v (if levelB (cutS l) then cutS l else []) ∧ Below w.heap.size w w'
def PSt (l : List UInt8) (k n : Nat) (acc : Rowz) : Prop := if k ≤ l.length then PAt l k n acc else k = l.length + 1 ∧ acc = cutS l
theorem PSt.at_ {l : List UInt8} {k n : Nat} {acc : Rowz} (h : PSt l k n acc) (hk : k ≤ l.length) : PAt l k n acc := by unfold PSt at h; rwa [if_pos hk] at h
theorem PSt.end_ {l : List UInt8} {k n : Nat} {acc : Rowz} (h : PSt l k n acc) (hk : ¬ k ≤ l.length) : acc = cutS l := by unfold PSt at h; rw [if_neg hk] at h; exact h.2
theorem PSt.cut {l : List UInt8} {k n : Nat} {acc : Rowz} (h : PAt l k n acc) (hk : k < l.length) (hc : l[k].toNat = 47) : PSt l (k + 1) (k + 1) (acc ++ [(l.drop n).take (k - n)]) := by
 unfold PSt; rw [if_pos (by omega)]; exact h.cut hk hc
theorem PSt.other {l : List UInt8} {k n : Nat} {acc : Rowz} (h : PAt l k n acc) (hk : k < l.length) (hc : l[k].toNat ≠ 47) : PSt l (k + 1) n acc := by
 unfold PSt; rw [if_pos (by omega)]; exact h.other hk hc
theorem PSt.last {l : List UInt8} {n : Nat} {acc : Rowz} (h : PAt l l.length n acc) : PSt l (l.length + 1) (l.length + 1) (acc ++ [(l.drop n).take (l.length - n)]) := by
 unfold PSt; rw [if_neg (by omega)]
 refine ⟨rfl, ?_⟩
 rw [List.take_of_length_le (by rw [List.length_drop]; omega)]; exact h.done
set_option maxHeartbeats 4000000 in
theorem parseLevel_spec (l : List UInt8) (w : World) (hs : l.length ≤ 1048576) :
  Calls Tryd.prog 70 #[.string ⟨l.toArray⟩] w (ParsePost l w) := by
 obtain ⟨W0, hW, hA, hB, hB0, hS0⟩ := rows2 w #[.slice none 0 0] #[.slice none 0 0] 26 26
 have cA := rowCells hA
 have cB := rowCells hB
 have fA := frozenHeap hA 0
 have fB := frozenHeap hB 0
 have hsz : (ByteArray.mk l.toArray).size = l.length := by simp [ByteArray.size]
 go_enter Tryd.func70, Tryd.ntmps70
 go_wp2_with (fail)
 go_loopw [5, 6] (fun b i wr => ∃ (k n : Nat) (acc : Rowz) (v : Value), b = .int .i64 (n : Int) ∧ i = .int .i64 (k : Int) ∧ k ≤ l.length + 1 ∧ PSt l k n acc ∧ wr.heap[w.heap.size]? = some (.cells #[.slice none 0 0] 26 (0, 0)) ∧ wr.heap[w.heap.size + 1]? = some (.cells #[v] 26 (0, 0)) ∧ OwnS wr (w.heap.size + 2) v acc ∧ Below w.heap.size w wr ∧ w.heap.size + 2 ≤ wr.heap.size) (fun _ i _ => l.length + 1 - (intOf i).toNat)
 case atStart => exact ⟨0, 0, [], .slice none 0 0, rfl, rfl, by omega, by unfold PSt; rw [if_pos (by omega)]; exact PAt.zero l, farHeap hA (by show w.heap.size ≠ w.heap.size + 1; omega) _, setHeap hB, OwnS.nil _ _, hB0.trans ((Below.refl _ _).setCell (by show _ ≤ w.heap.size + 1; omega) _), by simp; omega⟩
 case round =>
  obtain ⟨k, n, acc, v, rfl, rfl, hk, hat, hAr, hBr, hown, hbel, hsz2⟩ := hrel
  have cA := rowCells hAr
  have cB := rowCells hBr
  have fA := frozenHeap hAr 0
  have fB := frozenHeap hBr 0
  by_cases hkl : k ≤ l.length
  ·have hP := hat.at_ hkl
   obtain ⟨hnk, -, -, hacc⟩ := id hP
   have z0 : decide ((k : Int) ≤ (l.length : Int)) = true := by simp; omega
   by_cases hke : k = l.length
   ·subst hke
    have hcut := fun W => run_cut (l := l) hnk (Nat.le_refl _) W
    have HN := Lib.hid (PSt.last hP)
    generalize hx : (l.drop n).take (l.length - n) = x at HN hcut
    clear hx hP hat
    have HO := Lib.hid hown
    have cX : (wr.alloc (.cells #[.string ⟨x.toArray⟩] 9)).cell? ⟨w.heap.size + 1, 0, none⟩ = some v := rowCells (keepHeap (below1 wr _) hBr) 0
    go_wp2_with (fail)
    go_region_law (refine step_str rfl (.tmp 25) (.tmp 30) rfl (w.heap.size + 2) v acc rfl (HO.out.drew.alloc _) wr.heap.size x rfl (World.cell?_alloc_mark _ _ _ (0, 0) 0) (by omega) (by simp; omega) ?_; intro v1 w1 hown1 hb1; obtain ⟨a1, c1, rfl⟩ := hown1.shape; have hB1 := heapUp hb1 (by omega) (keepHeap (below1 wr.drew _) hBr); have hA1 := heapUp hb1 (by omega) (keepHeap (below1 wr.drew _) hAr); have cB1 := rowCells hB1; have fB1 := frozenHeap hB1 0)
    all_goals
     have hlen1 : (acc ++ [x]).length = acc.length + 1 := by simp
     rw [hlen1] at hown1
     have hbA : Below w.heap.size w w1 := (hbel.trans ((below1 wr _).mono hbel.size).drew).trans (hb1.mono (show w.heap.size ≤ w.heap.size + 2 by omega))
     go_wp2_with (fail)
     go_roundw
     case measure => show l.length + 1 - ((l.length : Int) + 1).toNat < l.length + 1 - (l.length : Int).toNat; omega
     exact ⟨l.length + 1, l.length + 1, acc ++ [x], _, rfl, rfl, by omega, HN.out, farHeap hA1 (by show w.heap.size ≠ w.heap.size + 1; omega) _, setHeap hB1, hown1.set (by show w.heap.size + 1 < _; omega) _, hbA.setCell (p := ⟨w.heap.size + 1, 0, none⟩) (by show w.heap.size ≤ w.heap.size + 1; omega) _, by have := hb1.size; simp at this ⊢; omega⟩
   ·have hkL : k < l.length := by omega
    have z1 : ((k : Int) == (l.length : Int)) = false := by simp; omega
    obtain ⟨c, hc⟩ : ∃ c, c = l[k] := ⟨_, rfl⟩
    have hix : (ByteArray.mk l.toArray)[k]'hkL = c := hc.symm
    have hidx : ∀ W, (Instr.index 9 (.string ⟨l.toArray⟩) (.int .i64 (k : Int))).run Tryd.prog W = .ok (.int .u8 (c.toNat : Int)) W := fun W => run_at W hkL hix
    have hkh : (k : Int) < (l.length : Int) := by omega
    by_cases c1 : c.toNat = 47
    ·have HN := Lib.hid (PSt.cut hP hkL (by rw [← hc]; exact c1))
     have z3 : ((c.toNat : Int) == 47) = true := by simp; omega
     have hcut := fun W => run_cut (l := l) hnk hkl W
     generalize hx : (l.drop n).take (k - n) = x at HN hcut
     clear hx hP hat hc hix c1
     have HO := Lib.hid hown
     have cX : (wr.alloc (.cells #[.string ⟨x.toArray⟩] 9)).cell? ⟨w.heap.size + 1, 0, none⟩ = some v := rowCells (keepHeap (below1 wr _) hBr) 0
     go_wp2_with (fail)
     go_region_law (refine step_str rfl (.tmp 25) (.tmp 30) rfl (w.heap.size + 2) v acc rfl (HO.out.drew.alloc _) wr.heap.size x rfl (World.cell?_alloc_mark _ _ _ (0, 0) 0) (by omega) (by simp; omega) ?_; intro v1 w1 hown1 hb1; obtain ⟨a1, c1, rfl⟩ := hown1.shape; have hB1 := heapUp hb1 (by omega) (keepHeap (below1 wr.drew _) hBr); have hA1 := heapUp hb1 (by omega) (keepHeap (below1 wr.drew _) hAr); have cB1 := rowCells hB1; have fB1 := frozenHeap hB1 0)
     all_goals
      have hlen1 : (acc ++ [x]).length = acc.length + 1 := by simp
      rw [hlen1] at hown1
      have hbA : Below w.heap.size w w1 := (hbel.trans ((below1 wr _).mono hbel.size).drew).trans (hb1.mono (show w.heap.size ≤ w.heap.size + 2 by omega))
      go_wp2_with (fail)
      go_roundw
      case measure => show l.length + 1 - ((k : Int) + 1).toNat < l.length + 1 - (k : Int).toNat; omega
      exact ⟨k + 1, k + 1, acc ++ [x], _, rfl, rfl, by omega, HN.out, farHeap hA1 (by show w.heap.size ≠ w.heap.size + 1; omega) _, setHeap hB1, hown1.set (by show w.heap.size + 1 < _; omega) _, hbA.setCell (p := ⟨w.heap.size + 1, 0, none⟩) (by show w.heap.size ≤ w.heap.size + 1; omega) _, by have := hb1.size; simp at this ⊢; omega⟩
    ·have HN := Lib.hid (PSt.other hP hkL (by rw [← hc]; exact c1))
     have z3 : ((c.toNat : Int) == 47) = false := by simp; omega
     clear hP hat hc hix c1
     go_wp2_with (fail)
     go_roundw
     case measure => show l.length + 1 - ((k : Int) + 1).toNat < l.length + 1 - (k : Int).toNat; omega
     exact ⟨k + 1, n, acc, _, rfl, rfl, by omega, HN.out, hAr, hBr, hown, hbel, hsz2⟩
  ·have hF := hat.end_ hkl
   subst hF
   clear hat hk
   have z0 : decide ((k : Int) ≤ (l.length : Int)) = false := by simp; omega
   have hsn := cutS_sane l hs
   generalize hL : cutS l = L at *
   have HO := Lib.hid hown
   obtain ⟨a2, c2, rfl⟩ := hown.shape
   go_wp2_with (fail)
   refine (levelOk_spec hown.rd hsn).mono ?_
   rintro e w2 ⟨rfl, hb2⟩
   have hA2 := keepHeap hb2 hAr
   have hB2 := keepHeap hb2 hBr
   have cA2 := rowCells hA2
   have cB2 := rowCells hB2
   have fA2 := frozenHeap hA2 0
   have hO2 := HO.out.of_below hb2 (Nat.le_refl _)
   have hbel2 := hbel.trans (hb2.mono hbel.size)
   clear cA cB fA fB hAr hBr
   cases hl : levelB L with
   | false =>
    go_wp2_with (fail)
    have cA3 := rowCells (setHeap (k := 0) (v := .slice none 0 0) hA2) 0
    refine bodyPost_ret (v := .tuple #[.agg #[.slice none 0 0], .bool false]) (by simp [results, Tryd.results70, go_sem, cA3]) rfl ⟨.slice none 0 0, ?_, ?_, ?_⟩
    ·rw [hL, hl]
    ·rw [hL, hl]; exact (OwnS.nil _ _).wr
    ·exact hbel2.setCell (p := ⟨w.heap.size, 0, none⟩) (Nat.le_refl _) _
   | true =>
    go_wp2_with (fail)
    have cA3 := rowCells (setHeap (k := 0) (v := .slice a2 L.length c2) hA2) 0
    refine bodyPost_ret (v := .tuple #[.agg #[.slice a2 L.length c2], .bool true]) (by simp [results, Tryd.results70, go_sem, cA3]) rfl ⟨.slice a2 L.length c2, ?_, ?_, ?_⟩
    ·rw [hL, hl]
    ·rw [hL, hl]; exact ((hO2.set (p := ⟨w.heap.size, 0, none⟩) (by show w.heap.size < _; omega) _).up (by omega)).wr
    ·exact hbel2.setCell (p := ⟨w.heap.size, 0, none⟩) (Nat.le_refl _) _
end Go.Proofs.YtnlonkkbjkfkmaaDoor
