/-
  Texts of this proof: OpenL, Cap, MarkL, WdG, CpL.
-/
import Derived.Test.YtnlonkkbjkfkmaaDoorM09
import Derived.Lib.SmallJoins
import Derived.Deep.Strs
import Derived.Test.YtnlonkkbjkfkmaaDoorM17
import Derived.Test.YtnlonkkbjkfkmaaDoorM05
import Derived.Deep.Cut
import Derived.Deep.CutBlock
import Derived.Test.YtnlonkkbjkfkmaaDoorM04
import Derived.Test.YtnlonkkbjkfkmaaDoorM03
import Derived.Lib.SliceRun
namespace Go.Proofs.YtnlonkkbjkfkmaaDoor
open Go.RowKit Go.Joins Go.ChangeShapes Go.WideShapes Go.Deep
set_option linter.all false
section
variable {H : Type} {enc : TypeId × Value → H} {w : World} {base : Nat} {spare : Nat → Bool} {held : Bool}
end
section
variable {H : Type} {enc : TypeId × Value → H} {w : World} {base : Nat} {spare : Nat → Bool} {held : Bool}
end
end Go.Proofs.YtnlonkkbjkfkmaaDoor
namespace Go.Proofs.YtnlonkkbjkfkmaaDoor
open Go.RowKit
set_option linter.all false
end Go.Proofs.YtnlonkkbjkfkmaaDoor
namespace Go.Proofs.YtnlonkkbjkfkmaaDoor
open Go.RowKit
set_option linter.all false
def LowS (T : Nat) (v : Value) (xs : List (List UInt8)) : Prop := xs = [] ∨ ∃ b n cap, v = .slice (some ⟨b, 0, none⟩) n cap ∧ b < T
theorem WrS.low {w : World} {B : Nat} {v : Value} {xs : List (List UInt8)} (h : WrS w B v xs) : LowS w.heap.size v xs := by
 obtain ⟨a, cap, rfl, h⟩ := h
 by_cases hx : xs = []
 ·exact .inl hx
 ·obtain ⟨b, hB, rfl, hr⟩ := h.resolve_left hx
  exact .inr ⟨b, _, _, rfl, hr.lt hx⟩
end Go.Proofs.YtnlonkkbjkfkmaaDoor
namespace Go.Proofs.YtnlonkkbjkfkmaaDoor
open Go.RowKit Go.Joins Go.ChangeShapes Go.WideShapes Go.Deep
set_option linter.all false
def bz : Bd := ⟨0, 0, 0, 0, 0, 0, 0, 0, 0⟩
def z9 : Array Value := #[.int .i64 0, .int .i64 0, .int .i64 0, .int .i64 0, .int .i64 0, .int .i64 0, .int .i64 0, .int .i64 0, .int .i64 0]
theorem z9_at (j : Nat) : z9[j % z9.size]! = Value.int .i64 0 := by
 have h : j % 9 < 9 := Nat.mod_lt _ (by omega)
 show z9[j % 9]! = _
 generalize j % 9 = k at h
 match k, h with
 | 0, _ => rfl | 1, _ => rfl | 2, _ => rfl | 3, _ => rfl | 4, _ => rfl | 5, _ => rfl | 6, _ => rfl | 7, _ => rfl | 8, _ => rfl
theorem made9 (m j : Nat) (h : j < m) : (madeCells z9 m)[j]? = some (.int .i64 0) := by
 unfold madeCells
 rw [Array.getElem?_map, Array.getElem?_range]
 simp only [h, if_true, Option.map_some]
 rw [z9_at]
theorem bz_at {i : Nat} {v : Value} (h : (bdL bz)[i]? = some v) : i < 9 ∧ v = .int .i64 0 := by
 obtain ⟨hi, e⟩ := List.getElem?_eq_some_iff.1 h
 rw [bdL_len] at hi
 refine ⟨hi, ?_⟩
 rw [← e]
 match i, hi with
 | 0, _ => rfl | 1, _ => rfl | 2, _ => rfl | 3, _ => rfl | 4, _ => rfl | 5, _ => rfl | 6, _ => rfl | 7, _ => rfl | 8, _ => rfl
theorem RowBd.zeros (w : World) (n : Nat) (t : TypeId) : RowBd (w.alloc (.cells (madeCells z9 (n * 9)) t)) w.heap.size (List.replicate n bz) := by
 intro j hj
 rw [List.length_replicate] at hj
 refine ⟨fun i v hv => ?_, fun i hi => ?_⟩
 ·rw [List.getElem_replicate] at hv
  obtain ⟨hi, rfl⟩ := bz_at hv
  rw [World.cell?_alloc_mark, made9 _ _ (by omega)]
 ·rw [World.cell?_alloc_mark, made9 _ _ (by omega), World.frozen?_alloc_mark]
  exact ⟨rfl, by simp⟩
theorem info_BodyS : (Tryd.prog.info? 38).map (fun i => (i.zero, i.size, i.bytes)) = some (some (.agg z9), 9, 72) := by kernel_rfl
theorem cells9 {w : World} {b o : Nat} {x : Bd} (h : w.rangeAt b o (bdL x)) : w.cell? ⟨b, o, none⟩ = some (.int .i64 x.kind) ∧ w.cell? ⟨b, o + 1, none⟩ = some (.int .i64 x.owner) ∧ w.cell? ⟨b, o + 2, none⟩ = some (.int .i64 x.x) ∧ w.cell? ⟨b, o + 3, none⟩ = some (.int .i64 x.y) ∧ w.cell? ⟨b, o + 4, none⟩ = some (.int .i64 x.vx) ∧ w.cell? ⟨b, o + 5, none⟩ = some (.int .i64 x.vy) ∧ w.cell? ⟨b, o + 6, none⟩ = some (.int .i64 x.aim) ∧ w.cell? ⟨b, o + 7, none⟩ = some (.int .i64 x.life) ∧ w.cell? ⟨b, o + 8, none⟩ = some (.int .i64 x.timer) :=
 ⟨h 0 _ rfl, h 1 _ rfl, h 2 _ rfl, h 3 _ rfl, h 4 _ rfl, h 5 _ rfl, h 6 _ rfl, h 7 _ rfl, h 8 _ rfl⟩
theorem free9 {w : World} {b o : Nat} (h : w.there b o 9) : w.frozen? ⟨b, o, none⟩ = false ∧ w.frozen? ⟨b, o + 1, none⟩ = false ∧ w.frozen? ⟨b, o + 2, none⟩ = false ∧ w.frozen? ⟨b, o + 3, none⟩ = false ∧ w.frozen? ⟨b, o + 4, none⟩ = false ∧ w.frozen? ⟨b, o + 5, none⟩ = false ∧ w.frozen? ⟨b, o + 6, none⟩ = false ∧ w.frozen? ⟨b, o + 7, none⟩ = false ∧ w.frozen? ⟨b, o + 8, none⟩ = false :=
 ⟨(h 0 (by omega)).2, (h 1 (by omega)).2, (h 2 (by omega)).2, (h 3 (by omega)).2, (h 4 (by omega)).2, (h 5 (by omega)).2, (h 6 (by omega)).2, (h 7 (by omega)).2, (h 8 (by omega)).2⟩
theorem put9 (w : World) (g o : Nat) (x : Bd) : ((((((((w.setCell ⟨g, o, none⟩ (.int .i64 x.kind)).setCell ⟨g, o + 1, none⟩ (.int .i64 x.owner)).setCell ⟨g, o + 2, none⟩ (.int .i64 x.x)).setCell ⟨g, o + 3, none⟩ (.int .i64 x.y)).setCell ⟨g, o + 4, none⟩ (.int .i64 x.vx)).setCell ⟨g, o + 5, none⟩ (.int .i64 x.vy)).setCell ⟨g, o + 6, none⟩ (.int .i64 x.aim)).setCell ⟨g, o + 7, none⟩ (.int .i64 x.life)).setCell ⟨g, o + 8, none⟩ (.int .i64 x.timer) = w.setCells g o (bdL x) := rfl
def OwnW (w : World) (B : Nat) (x : Wd) (vl vs vb : Value) : Prop := ∃ T1 T2, B ≤ T1 ∧ T1 ≤ T2 ∧ T2 ≤ w.heap.size ∧ WrS w B vl x.rows ∧ LowS T1 vl x.rows ∧ OwnIn w T1 T2 vs x.scores ∧ OwnBd w T2 vb x.bods
def CapW (vl vs vb : Value) : Prop := CapI vl ∧ CapI vs ∧ CapI vb
theorem OwnW.rd {w : World} {B : Nat} {x : Wd} {vl vs vb : Value} (h : OwnW w B x vl vs vb) : RdW w x vl vs vb := by
 obtain ⟨T1, T2, -, -, -, h1, -, h2, h3⟩ := h
 exact ⟨h1.rd, h2.own.rd, h3.rd⟩
theorem load_wd {W : World} {k : Nat} {xs : Array Value} (h : W.heap[k]? = some (.cells xs 30 (0, 0))) (hn : xs.size = 5) : (loadVar 30 ⟨k, 0, none⟩).run Tryd.prog W = .ok (.agg xs) W :=
 run_loadVar_row W _ _ _ _ _ _ h Tryd.underlying30 rfl (by rw [hn]; kernel_rfl)
def putW (w : World) (c : Nat) (x : Wd) (vl vs vb : Value) : World := ((((w.setCell ⟨c, 0, none⟩ vl).setCell ⟨c, 1, none⟩ (.int .i64 x.tick)).setCell ⟨c, 2, none⟩ (.int .i64 x.seed)).setCell ⟨c, 3, none⟩ vs).setCell ⟨c, 4, none⟩ vb
theorem putW_heap {w : World} {c : Nat} {cs : Array Value} (h : w.heap[c]? = some (.cells cs 30 (0, 0))) (hn : cs.size = 5) (x : Wd) (vl vs vb : Value) : (putW w c x vl vs vb).heap[c]? = some (.cells (wdC x vl vs vb) 30 (0, 0)) := by
 obtain ⟨l⟩ := cs
 match l, hn with
 | [a0, a1, a2, a3, a4], _ =>
  have h0 := setH (k := 0) (v := vl) h
  have h1 := setH (k := 1) (v := .int .i64 x.tick) h0
  have h2 := setH (k := 2) (v := .int .i64 x.seed) h1
  have h3 := setH (k := 3) (v := vs) h2
  have h4 := setH (k := 4) (v := vb) h3
  exact h4
theorem putW_below {B : Nat} {w0 w : World} {c : Nat} (h : Below B w0 w) (hc : B ≤ c) (x : Wd) (vl vs vb : Value) : Below B w0 (putW w c x vl vs vb) := by
 unfold putW
 repeat (refine Below.setCell ?_ (by simpa using hc) _)
 exact h
theorem OwnW.far {w : World} {B : Nat} {x : Wd} {vl vs vb : Value} (h : OwnW w B x vl vs vb) {p : Addr} (hp : p.block < B) (u : Value) : OwnW (w.setCell p u) B x vl vs vb := by
 obtain ⟨T1, T2, h1, h2, h7, h3, h4, h5, h6⟩ := h
 exact ⟨T1, T2, h1, h2, by simpa using h7, h3.far hp u, h4, h5.far (by omega) u, h6.far (by omega) u⟩
theorem OwnW.put {w : World} {B : Nat} {x : Wd} {vl vs vb : Value} (h : OwnW w B x vl vs vb) {c : Nat} (hc : c < B) (y : Wd) (ul us ub : Value) : OwnW (putW w c y ul us ub) B x vl vs vb := by
 unfold putW
 repeat (refine OwnW.far ?_ (by simpa using hc) _)
 exact h
theorem OwnW.up {w : World} {B C : Nat} {x : Wd} {vl vs vb : Value} (h : OwnW w B x vl vs vb) (hC : C ≤ B) : OwnW w C x vl vs vb := by
 obtain ⟨T1, T2, h1, h2, h7, h3, h4, h5, h6⟩ := h
 exact ⟨T1, T2, by omega, h2, h7, h3.up hC, h4, h5, h6⟩
end Go.Proofs.YtnlonkkbjkfkmaaDoor
namespace Go.Proofs.YtnlonkkbjkfkmaaDoor
open Go.RowKit
set_option linter.all false
theorem app_strs {ops : Array Oper} {rest : List Oper} {o : Oper} {a : Act} {Q : Exit → Act → World → Prop} {W : World} (hgd : o.guard = none) (s x : Operand)
  (ho : o.op = .call { callee := .builtin .append, args := #[s, x], argTypes := #[24, 24] })
  (B : Nat) (v : Value) (xs : List (List UInt8)) (hs : a.eval s = v) (hown : OwnS W B v xs) (u : Value) (ys : List (List UInt8)) (hx : a.eval x = u) (hr : RdS W u ys)
  (hlen : xs.length + ys.length ≤ 4398046511104) (hbase : B ≤ W.heap.size)
  (h : ∀ v' w', OwnS w' B v' (xs ++ ys) → Below B W w' → wpList Tryd.prog ops Q rest (a.put o.dst v') w') : wpList Tryd.prog ops Q (o :: rest) a W := by
 obtain ⟨i0, hi, hz0, hz1, hz2⟩ := info_parts info_str
 obtain ⟨ad, cap, rfl, hr⟩ := hr
 have key : ∀ (ad : Addr), (∀ j u, (strsV ys)[j]? = some u → W.cell? (ad.add j) = some u) → a.eval x = .slice (some ad) ys.length cap → wpList Tryd.prog ops Q (o :: rest) a W := by
  intro ad hc hx
  refine wpList_append_own _ hgd s x 24 ho B 9 i0 (.string ⟨#[]⟩) 1 16 Tryd.underlying24 hi hz0 hz1 hz2 rfl (by decide) v xs.length (strsV xs) hs hown ad ys.length cap (strsV ys) hx (by simp [strsV]) hc (by intro u hu; obtain ⟨n, -, rfl⟩ := List.mem_map.1 hu; rfl) (by unfold maxLen; omega) (by omega) hbase ?_
  intro v' w' hown' hgrow _
  refine h v' w' ?_ ((Below.refl B W).grown hgrow hbase fun k hk => (hown.row.lt k hk).1)
  unfold OwnS strsV; rw [List.length_append, List.map_append]; exact hown'
 rcases hr with rfl | ⟨b, off, rfl, hc⟩
 ·cases ad with
  | none =>
   refine wp_append_none hgd s x 24 ho B 9 i0 1 Tryd.underlying24 hi v xs.length (strsV xs) hs hown cap hx (h v W (by simpa using hown) (Below.refl _ _))
  | some ad => exact key ad (by simp [strsV]) hx
 ·refine key _ (fun j u hj => ?_) hx
  unfold strsV at hj
  rw [List.getElem?_map, Option.map_eq_some_iff] at hj
  obtain ⟨n, hn, rfl⟩ := hj
  obtain ⟨hj, rfl⟩ := List.getElem?_eq_some_iff.1 hn
  rw [Addr.add_lit]; exact hc j hj
theorem OwnS.capd {w : World} {B : Nat} {v : Value} {xs : List (List UInt8)} (h : OwnS w B v xs) : CapI v := by
 rcases h.2 with ⟨rfl, h0⟩ | ⟨g, cap, cur, rfl, hB, hg, hn, hc, -⟩
 ·exact ⟨_, _, _, rfl, Nat.le_refl _⟩
 ·exact ⟨_, _, _, rfl, hn⟩
def RetCp (w : World) (xs : List (List UInt8)) (e : Ending) (w' : World) : Prop := ∃ v, e = .returned v ∧ WrS w' w.heap.size v xs ∧ CapI v ∧ Below w.heap.size w w'
def RetCpL (w : World) (xs : List (List UInt8)) (e : Ending) (w' : World) : Prop := ∃ v, e = .returned (.agg #[v]) ∧ WrS w' w.heap.size v xs ∧ CapI v ∧ Below w.heap.size w w'
set_option maxHeartbeats 1000000 in
theorem cloneS_any {w : World} {v : Value} {xs : List (List UInt8)} (h : RdS w v xs) (hn : xs.length ≤ 1048576) :
  Calls Tryd.prog 115 #[v] w (RetCp w xs) := by
 obtain ⟨a, cap, rfl, h0⟩ := id h
 have q : ∀ (w : World) (a : Option Addr) (n c n' c' : Nat), (binOp .eql 24 (.slice a n c) (.slice none n' c')).run Tryd.prog w = .ok (.bool a.isNone) w := fun w a n c n' c' => Lib.run_eql_slice_nil w _ _ a n c n' c' Tryd.underlying24
 cases a with
 | none =>
  have hx : xs = [] := by
   rcases h0 with h0 | ⟨b, off, h0, -⟩
   ·exact h0
   ·cases h0
  subst hx
  go_enter Tryd.func115, Tryd.ntmps115
  go_wp2_with (fail)
  go_ret
  exact ⟨_, rfl, ⟨none, 0, rfl, .inl rfl⟩, ⟨none, 0, 0, rfl, Nat.le_refl _⟩, Below.refl _ _⟩
 | some ad =>
  have hk := h.keep (below1 w (.cells #[] 9))
  have ho := OwnS.made w #[] w.heap.size (Nat.le_refl _) (by unfold maxLen; simp)
  clear h h0
  go_enter Tryd.func115, Tryd.ntmps115
  go_wp2_with (at_builtin; refine app_strs rfl _ _ rfl w.heap.size _ [] rfl ho _ xs rfl hk (by simp; omega) (by simp) ?_; intro v' w1 hown' hb1)
  go_ret
  exact ⟨_, rfl, by simpa using hown'.wr, hown'.capd, (below1 w _).trans (hb1.mono (by simp))⟩
set_option maxHeartbeats 1000000 in
theorem copyLevel_impl {w : World} {v : Value} {xs : List (List UInt8)} (h : RdS w v xs) (hn : xs.length ≤ 1048576) :
  Calls Tryd.prog 76 #[.agg #[v]] w (RetCpL w xs) := by
 obtain ⟨a, cap, rfl, h0⟩ := id h
 obtain ⟨W0, hW, hA, hB, hB0, hS0⟩ := rows2 w #[.slice a xs.length cap] #[.slice none 0 0] 26 26
 have cA := rowCells hA
 go_enter Tryd.func76, Tryd.ntmps76
 go_wp2_with (fail)
 try rw [hW]
 refine (cloneS_any (h.keep hB0) hn).mono ?_
 rintro e w1 ⟨v1, rfl, hv, hc1, hb1⟩
 have hB1 := keepHeap hb1 hB
 have cB := rowCells hB1
 have fB := frozenHeap hB1 0
 clear cA hW
 obtain ⟨a1, c1, rfl, hv1⟩ := id hv
 go_wp2_with (fail)
 refine bodyPost_ret (results_cell_row rfl _ _ (w.heap.size + 1) 26 #[.slice a1 xs.length c1] (0, 0) ?d ?hp ?hg ?hu ?hd ?hi) rfl ?_
 case hp => rfl
 case hg => exact setHeap hB1
 case hu => exact Tryd.underlying26
 case hd => rfl
 case hi => kernel_rfl
 exact ⟨_, rfl, (hv.far (p := ⟨w.heap.size + 1, 0, none⟩) (by simp; omega) (.slice a1 xs.length c1)).up (by omega), hc1, (hB0.trans (hb1.mono (by omega))).setCell (by simp) _⟩
set_option maxHeartbeats 1000000 in
theorem copyLevel_spec {w : World} {v : Value} {xs : List (List UInt8)} (h : RdS w v xs) (hn : xs.length ≤ 1048576) :
  Calls Tryd.prog 46 #[.agg #[v]] w (RetCpL w xs) := by
 obtain ⟨a, cap, rfl, h0⟩ := id h
 obtain ⟨W0, hW, hA, hB, hB0, hS0⟩ := rows2 w #[.slice a xs.length cap] #[.slice none 0 0] 26 26
 have cA := rowCells hA
 have hz := below1 W0 (.cells #[] 9)
 have hk := (h.keep hB0).keep hz
 have hO := OwnS.made W0 #[] W0.heap.size (Nat.le_refl _) (by unfold maxLen; simp)
 have hB1 := keepHeap hz hB
 have cA1 := rowCells (keepHeap hz hA)
 go_enter Tryd.func46, Tryd.ntmps46
 go_wp2_with (at_builtin; refine app_strs rfl _ _ rfl W0.heap.size _ [] rfl hO _ xs rfl hk (by simp; omega) hz.size ?_; intro v' w3 hown' hb3; rw [List.nil_append] at hown'; obtain ⟨a3, c3, rfl, -⟩ := id hown'.rd; have hB3 := (hb3.block (w.heap.size + 1) (by omega)).trans hB1; have cB := rowCells hB3; have fB := frozenHeap hB3 0)
 refine bodyPost_ret (results_cell_row rfl _ _ (w.heap.size + 1) 26 #[.slice a3 xs.length c3] (0, 0) ?d ?hp ?hg ?hu ?hd ?hi) rfl ?_
 case hp => rfl
 case hg => exact setHeap hB3
 case hu => exact Tryd.underlying26
 case hd => rfl
 case hi => kernel_rfl
 exact ⟨_, rfl, (hown'.wr.far (p := ⟨w.heap.size + 1, 0, none⟩) (by simp; omega) (.slice a3 xs.length c3)).up (by omega), hown'.capd, (hB0.trans ((hz.trans hb3).mono (by omega))).setCell (by simp) _⟩
end Go.Proofs.YtnlonkkbjkfkmaaDoor
