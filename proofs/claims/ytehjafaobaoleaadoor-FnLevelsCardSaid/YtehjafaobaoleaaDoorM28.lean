/-
  Texts of this proof: OpenL, Cap, MarkL, WdG.
-/
import Derived.Test.YtehjafaobaoleaaDoorM15
import Derived.Lib.SmallJoins
import Derived.Deep.Strs
import Derived.Test.YtehjafaobaoleaaDoorM23
import Derived.Test.YtehjafaobaoleaaDoorM07
import Derived.Deep.Cut
import Derived.Deep.CutBlock
namespace Go.Proofs.YtehjafaobaoleaaDoor
open Go.RowKit Go.Joins Go.ChangeShapes Go.WideShapes Go.Deep
set_option linter.all false
section
variable {H : Type} {enc : TypeId × Value → H} {w : World} {base : Nat} {spare : Nat → Bool} {held : Bool}
end
section
variable {H : Type} {enc : TypeId × Value → H} {w : World} {base : Nat} {spare : Nat → Bool} {held : Bool}
end
end Go.Proofs.YtehjafaobaoleaaDoor
namespace Go.Proofs.YtehjafaobaoleaaDoor
open Go.RowKit
set_option linter.all false
def CapOk (v : Value) : Prop := ∃ a n c, v = .slice a n c ∧ n ≤ c
end Go.Proofs.YtehjafaobaoleaaDoor
namespace Go.Proofs.YtehjafaobaoleaaDoor
open Go.RowKit
set_option linter.all false
def LowS (T : Nat) (v : Value) (xs : List (List UInt8)) : Prop := xs = [] ∨ ∃ b n cap, v = .slice (some ⟨b, 0, none⟩) n cap ∧ b < T
theorem WrS.low {w : World} {B : Nat} {v : Value} {xs : List (List UInt8)} (h : WrS w B v xs) : LowS w.heap.size v xs := by
 obtain ⟨a, cap, rfl, h⟩ := h
 by_cases hx : xs = []
 ·exact .inl hx
 ·obtain ⟨b, hB, rfl, hr⟩ := h.resolve_left hx
  exact .inr ⟨b, _, _, rfl, hr.lt hx⟩
end Go.Proofs.YtehjafaobaoleaaDoor
namespace Go.Proofs.YtehjafaobaoleaaDoor
open Go.RowKit Go.Joins Go.ChangeShapes Go.WideShapes Go.Deep
set_option linter.all false
def bz : Bd := ⟨0, 0, 0, 0, 0, 0, 0, 0, 0⟩
def z9 : Array Value := #[.int .i64 0, .int .i64 0, .int .i64 0, .int .i64 0, .int .i64 0, .int .i64 0, .int .i64 0, .int .i64 0, .int .i64 0]
theorem z9_at (j : Nat) : z9[j % z9.size]! = Value.int .i64 0 := by
 have h : j % 9 < 9 := Nat.mod_lt _ (by omega)
 show z9[j % 9]! = _
 generalize j % 9 = k at h
 match k, h with
 | 0, _ => rfl | 1, _ => rfl | 2, _ => rfl | 3, _ => rfl | 4, _ => rfl | 5, _ => rfl | 6, _ => rfl | 7, _ => rfl | 8, _ => rfl
theorem made9 (m j : Nat) (h : j < m) : (madeCells z9 m)[j]? = some (.int .i64 0) := by
 unfold madeCells
 rw [Array.getElem?_map, Array.getElem?_range]
 simp only [h, if_true, Option.map_some]
 rw [z9_at]
theorem bz_at {i : Nat} {v : Value} (h : (bdL bz)[i]? = some v) : i < 9 ∧ v = .int .i64 0 := by
 obtain ⟨hi, e⟩ := List.getElem?_eq_some_iff.1 h
 rw [bdL_len] at hi
 refine ⟨hi, ?_⟩
 rw [← e]
 match i, hi with
 | 0, _ => rfl | 1, _ => rfl | 2, _ => rfl | 3, _ => rfl | 4, _ => rfl | 5, _ => rfl | 6, _ => rfl | 7, _ => rfl | 8, _ => rfl
theorem RowBd.zeros (w : World) (n : Nat) (t : TypeId) : RowBd (w.alloc (.cells (madeCells z9 (n * 9)) t)) w.heap.size (List.replicate n bz) := by
 intro j hj
 rw [List.length_replicate] at hj
 refine ⟨fun i v hv => ?_, fun i hi => ?_⟩
 ·rw [List.getElem_replicate] at hv
  obtain ⟨hi, rfl⟩ := bz_at hv
  rw [World.cell?_alloc_mark, made9 _ _ (by omega)]
 ·rw [World.cell?_alloc_mark, made9 _ _ (by omega), World.frozen?_alloc_mark]
  exact ⟨rfl, by simp⟩
theorem info_BodyS : (Tryd.prog.info? 57).map (fun i => (i.zero, i.size, i.bytes)) = some (some (.agg z9), 9, 72) := by kernel_rfl
theorem cells9 {w : World} {b o : Nat} {x : Bd} (h : w.rangeAt b o (bdL x)) : w.cell? ⟨b, o, none⟩ = some (.int .i64 x.kind) ∧ w.cell? ⟨b, o + 1, none⟩ = some (.int .i64 x.owner) ∧ w.cell? ⟨b, o + 2, none⟩ = some (.int .i64 x.x) ∧ w.cell? ⟨b, o + 3, none⟩ = some (.int .i64 x.y) ∧ w.cell? ⟨b, o + 4, none⟩ = some (.int .i64 x.vx) ∧ w.cell? ⟨b, o + 5, none⟩ = some (.int .i64 x.vy) ∧ w.cell? ⟨b, o + 6, none⟩ = some (.int .i64 x.aim) ∧ w.cell? ⟨b, o + 7, none⟩ = some (.int .i64 x.life) ∧ w.cell? ⟨b, o + 8, none⟩ = some (.int .i64 x.timer) :=
 ⟨h 0 _ rfl, h 1 _ rfl, h 2 _ rfl, h 3 _ rfl, h 4 _ rfl, h 5 _ rfl, h 6 _ rfl, h 7 _ rfl, h 8 _ rfl⟩
def OwnW (w : World) (B : Nat) (x : Wd) (vl vs vb : Value) : Prop := ∃ T1 T2, B ≤ T1 ∧ T1 ≤ T2 ∧ T2 ≤ w.heap.size ∧ WrS w B vl x.rows ∧ LowS T1 vl x.rows ∧ OwnIn w T1 T2 vs x.scores ∧ OwnBd w T2 vb x.bods
def CapW (vl vs vb : Value) : Prop := CapI vl ∧ CapI vs ∧ CapI vb
theorem OwnW.rd {w : World} {B : Nat} {x : Wd} {vl vs vb : Value} (h : OwnW w B x vl vs vb) : RdW w x vl vs vb := by
 obtain ⟨T1, T2, -, -, -, h1, -, h2, h3⟩ := h
 exact ⟨h1.rd, h2.own.rd, h3.rd⟩
theorem load_wd {W : World} {k : Nat} {xs : Array Value} (h : W.heap[k]? = some (.cells xs 30 (0, 0))) (hn : xs.size = 5) : (loadVar 30 ⟨k, 0, none⟩).run Tryd.prog W = .ok (.agg xs) W :=
 run_loadVar_row W _ _ _ _ _ _ h Tryd.underlying30 rfl (by rw [hn]; kernel_rfl)
def putW (w : World) (c : Nat) (x : Wd) (vl vs vb : Value) : World := ((((w.setCell ⟨c, 0, none⟩ vl).setCell ⟨c, 1, none⟩ (.int .i64 x.tick)).setCell ⟨c, 2, none⟩ (.int .i64 x.seed)).setCell ⟨c, 3, none⟩ vs).setCell ⟨c, 4, none⟩ vb
theorem putW_heap {w : World} {c : Nat} {cs : Array Value} (h : w.heap[c]? = some (.cells cs 30 (0, 0))) (hn : cs.size = 5) (x : Wd) (vl vs vb : Value) : (putW w c x vl vs vb).heap[c]? = some (.cells (wdC x vl vs vb) 30 (0, 0)) := by
 obtain ⟨l⟩ := cs
 match l, hn with
 | [a0, a1, a2, a3, a4], _ =>
  have h0 := setH (k := 0) (v := vl) h
  have h1 := setH (k := 1) (v := .int .i64 x.tick) h0
  have h2 := setH (k := 2) (v := .int .i64 x.seed) h1
  have h3 := setH (k := 3) (v := vs) h2
  have h4 := setH (k := 4) (v := vb) h3
  exact h4
theorem putW_below {B : Nat} {w0 w : World} {c : Nat} (h : Below B w0 w) (hc : B ≤ c) (x : Wd) (vl vs vb : Value) : Below B w0 (putW w c x vl vs vb) := by
 unfold putW
 repeat (refine Below.setCell ?_ (by simpa using hc) _)
 exact h
theorem OwnW.far {w : World} {B : Nat} {x : Wd} {vl vs vb : Value} (h : OwnW w B x vl vs vb) {p : Addr} (hp : p.block < B) (u : Value) : OwnW (w.setCell p u) B x vl vs vb := by
 obtain ⟨T1, T2, h1, h2, h7, h3, h4, h5, h6⟩ := h
 exact ⟨T1, T2, h1, h2, by simpa using h7, h3.far hp u, h4, h5.far (by omega) u, h6.far (by omega) u⟩
theorem OwnW.put {w : World} {B : Nat} {x : Wd} {vl vs vb : Value} (h : OwnW w B x vl vs vb) {c : Nat} (hc : c < B) (y : Wd) (ul us ub : Value) : OwnW (putW w c y ul us ub) B x vl vs vb := by
 unfold putW
 repeat (refine OwnW.far ?_ (by simpa using hc) _)
 exact h
theorem OwnW.up {w : World} {B C : Nat} {x : Wd} {vl vs vb : Value} (h : OwnW w B x vl vs vb) (hC : C ≤ B) : OwnW w C x vl vs vb := by
 obtain ⟨T1, T2, h1, h2, h7, h3, h4, h5, h6⟩ := h
 exact ⟨T1, T2, by omega, h2, h7, h3.up hC, h4, h5, h6⟩
end Go.Proofs.YtehjafaobaoleaaDoor
