/-
  Texts of this proof: CpL.
-/
import Derived.Test.YtehjafaobaoleaaDoorM28
import Derived.Test.YtehjafaobaoleaaDoorM13
import Derived.Test.YtehjafaobaoleaaDoorM06
import Derived.Test.YtehjafaobaoleaaDoorM04
import Derived.Lib.SliceRun
namespace Go.Proofs.YtehjafaobaoleaaDoor
open Go.RowKit
set_option linter.all false
theorem app_strs {ops : Array Oper} {rest : List Oper} {o : Oper} {a : Act} {Q : Exit → Act → World → Prop} {W : World} (hgd : o.guard = none) (s x : Operand)
  (ho : o.op = .call { callee := .builtin .append, args := #[s, x], argTypes := #[24, 24] })
  (B : Nat) (v : Value) (xs : List (List UInt8)) (hs : a.eval s = v) (hown : OwnS W B v xs) (u : Value) (ys : List (List UInt8)) (hx : a.eval x = u) (hr : RdS W u ys)
  (hlen : xs.length + ys.length ≤ 4398046511104) (hbase : B ≤ W.heap.size)
  (h : ∀ v' w', OwnS w' B v' (xs ++ ys) → Below B W w' → wpList Tryd.prog ops Q rest (a.put o.dst v') w') : wpList Tryd.prog ops Q (o :: rest) a W := by
 obtain ⟨i0, hi, hz0, hz1, hz2⟩ := info_parts info_str
 obtain ⟨ad, cap, rfl, hr⟩ := hr
 have key : ∀ (ad : Addr), (∀ j u, (strsV ys)[j]? = some u → W.cell? (ad.add j) = some u) → a.eval x = .slice (some ad) ys.length cap → wpList Tryd.prog ops Q (o :: rest) a W := by
  intro ad hc hx
  refine wpList_append_own _ hgd s x 24 ho B 9 i0 (.string ⟨#[]⟩) 1 16 Tryd.underlying24 hi hz0 hz1 hz2 rfl (by decide) v xs.length (strsV xs) hs hown ad ys.length cap (strsV ys) hx (by simp [strsV]) hc (by intro u hu; obtain ⟨n, -, rfl⟩ := List.mem_map.1 hu; rfl) (by unfold maxLen; omega) (by omega) hbase ?_
  intro v' w' hown' hgrow _
  refine h v' w' ?_ ((Below.refl B W).grown hgrow hbase fun k hk => (hown.row.lt k hk).1)
  unfold OwnS strsV; rw [List.length_append, List.map_append]; exact hown'
 rcases hr with rfl | ⟨b, off, rfl, hc⟩
 ·cases ad with
  | none =>
   refine wp_append_none hgd s x 24 ho B 9 i0 1 Tryd.underlying24 hi v xs.length (strsV xs) hs hown cap hx (h v W (by simpa using hown) (Below.refl _ _))
  | some ad => exact key ad (by simp [strsV]) hx
 ·refine key _ (fun j u hj => ?_) hx
  unfold strsV at hj
  rw [List.getElem?_map, Option.map_eq_some_iff] at hj
  obtain ⟨n, hn, rfl⟩ := hj
  obtain ⟨hj, rfl⟩ := List.getElem?_eq_some_iff.1 hn
  rw [Addr.add_lit]; exact hc j hj
theorem OwnS.capd {w : World} {B : Nat} {v : Value} {xs : List (List UInt8)} (h : OwnS w B v xs) : CapI v := by
 rcases h.2 with ⟨rfl, h0⟩ | ⟨g, cap, cur, rfl, hB, hg, hn, hc, -⟩
 ·exact ⟨_, _, _, rfl, Nat.le_refl _⟩
 ·exact ⟨_, _, _, rfl, hn⟩
def RetCpL (w : World) (xs : List (List UInt8)) (e : Ending) (w' : World) : Prop := ∃ v, e = .returned (.agg #[v]) ∧ WrS w' w.heap.size v xs ∧ CapI v ∧ Below w.heap.size w w'
set_option maxHeartbeats 1000000 in
theorem copyLevel_spec {w : World} {v : Value} {xs : List (List UInt8)} (h : RdS w v xs) (hn : xs.length ≤ 1048576) :
  Calls Tryd.prog 35 #[.agg #[v]] w (RetCpL w xs) := by
 obtain ⟨a, cap, rfl, h0⟩ := id h
 obtain ⟨W0, hW, hA, hB, hB0, hS0⟩ := rows2 w #[.slice a xs.length cap] #[.slice none 0 0] 26 26
 have cA := rowCells hA
 have hz := below1 W0 (.cells #[] 9)
 have hk := (h.keep hB0).keep hz
 have hO := OwnS.made W0 #[] W0.heap.size (Nat.le_refl _) (by unfold maxLen; simp)
 have hB1 := keepHeap hz hB
 have cA1 := rowCells (keepHeap hz hA)
 go_enter Tryd.func35, Tryd.ntmps35
 go_wp2_with (at_builtin; refine app_strs rfl _ _ rfl W0.heap.size _ [] rfl hO _ xs rfl hk (by simp; omega) hz.size ?_; intro v' w3 hown' hb3; rw [List.nil_append] at hown'; obtain ⟨a3, c3, rfl, -⟩ := id hown'.rd; have hB3 := (hb3.block (w.heap.size + 1) (by omega)).trans hB1; have cB := rowCells hB3; have fB := frozenHeap hB3 0)
 refine bodyPost_ret (results_cell_row rfl _ _ (w.heap.size + 1) 26 #[.slice a3 xs.length c3] (0, 0) ?d ?hp ?hg ?hu ?hd ?hi) rfl ?_
 case hp => rfl
 case hg => exact setHeap hB3
 case hu => exact Tryd.underlying26
 case hd => rfl
 case hi => kernel_rfl
 exact ⟨_, rfl, (hown'.wr.far (p := ⟨w.heap.size + 1, 0, none⟩) (by simp; omega) (.slice a3 xs.length c3)).up (by omega), hown'.capd, (hB0.trans ((hz.trans hb3).mono (by omega))).setCell (by simp) _⟩
end Go.Proofs.YtehjafaobaoleaaDoor
