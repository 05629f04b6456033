/-
  Packets as the laws hand them over: szPacket, toPacket, eqPacket; a packet that came in, opened to its fields. No condition.
-/
import Derived.Test.YtgbdpmaajihfdaaTrO
import Derived.Test.YtgbdpmaajihfdaaRowL
import Derived.Deep.Cut
import Derived.Deep.CutBlock
namespace Go.Proofs.Ytgbdpmaajihfdaa
open Go.RowKit Go.Joins Go.ChangeShapes Go.WideShapes Go.Deep
set_option linter.all false
structure Pk where
  fr : Int
  tick : Int
  first : Int
  ins : List Int
  acks : List Int
  sumTick : Int
  sum : Int
  time : Int
  echo : Int
def Pk.sane (p : Pk) : Prop := p.ins.length ≤ 9223372036854775807 ∧ p.acks.length ≤ 9223372036854775807
def Pk.few (p : Pk) : Prop := p.ins.length ≤ 1048576 ∧ p.acks.length ≤ 1048576
/-- A packet's cells, its two lists' slices given. -/
def pkC (p : Pk) (vi va : Value) : Array Value := #[.int .i64 p.fr, .int .i64 p.tick, .int .i64 p.first, vi, va, .int .i64 p.sumTick, .int .i64 p.sum, .int .i64 p.time, .int .i64 p.echo]
/-- The two slices read as the packet's lists. -/
def RdP (w : World) (p : Pk) (vi va : Value) : Prop := RdI w vi p.ins ∧ RdI w va p.acks
theorem RdP.keep {w w' : World} {p : Pk} {vi va : Value} (h : RdP w p vi va) (hb : Below w.heap.size w w') : RdP w' p vi va := ⟨h.1.keep hb, h.2.keep hb⟩
theorem load_pk {W : World} {k : Nat} {xs : Array Value} (h : W.heap[k]? = some (.cells xs 31 (0, 0))) (hn : xs.size = 9) : (loadVar 31 ⟨k, 0, none⟩).run Try.prog W = .ok (.agg xs) W :=
  run_loadVar_row W _ _ _ _ _ _ h Try.underlying31 rfl (by rw [hn]; kernel_rfl)
theorem setHl {w : World} {c k : Nat} {v : Value} {l : List Value} {T : TypeId} (h : w.heap[c]? = some (.cells ⟨l⟩ T (0, 0))) : (w.setCell ⟨c, k, none⟩ v).heap[c]? = some (.cells ⟨l.set k v⟩ T (0, 0)) := by
  rw [setHeap h]; simp
/-- A whole packet is stored. -/
def putP (w : World) (c : Nat) (p : Pk) (vi va : Value) : World := ((((((((w.setCell ⟨c, 0, none⟩ (.int .i64 p.fr)).setCell ⟨c, 1, none⟩ (.int .i64 p.tick)).setCell ⟨c, 2, none⟩ (.int .i64 p.first)).setCell ⟨c, 3, none⟩ vi).setCell ⟨c, 4, none⟩ va).setCell ⟨c, 5, none⟩ (.int .i64 p.sumTick)).setCell ⟨c, 6, none⟩ (.int .i64 p.sum)).setCell ⟨c, 7, none⟩ (.int .i64 p.time)).setCell ⟨c, 8, none⟩ (.int .i64 p.echo)
set_option maxHeartbeats 1000000 in
theorem putP_heap {w : World} {c : Nat} {cs : Array Value} (h : w.heap[c]? = some (.cells cs 31 (0, 0))) (hn : cs.size = 9) (p : Pk) (vi va : Value) : (putP w c p vi va).heap[c]? = some (.cells (pkC p vi va) 31 (0, 0)) := by
  obtain ⟨l⟩ := cs
  match l, hn with
  | [a0, a1, a2, a3, a4, a5, a6, a7, a8], _ =>
    have h0 := setHl (k := 0) (v := .int .i64 p.fr) h
    have h1 := setHl (k := 1) (v := .int .i64 p.tick) h0
    have h2 := setHl (k := 2) (v := .int .i64 p.first) h1
    have h3 := setHl (k := 3) (v := vi) h2
    have h4 := setHl (k := 4) (v := va) h3
    have h5 := setHl (k := 5) (v := .int .i64 p.sumTick) h4
    have h6 := setHl (k := 6) (v := .int .i64 p.sum) h5
    have h7 := setHl (k := 7) (v := .int .i64 p.time) h6
    have h8 := setHl (k := 8) (v := .int .i64 p.echo) h7
    exact h8
theorem putP_far {w : World} {c k : Nat} {o : Obj} (h : w.heap[k]? = some o) (hk : k ≠ c) (p : Pk) (vi va : Value) : (putP w c p vi va).heap[k]? = some o := by
  unfold putP
  repeat (refine farHeap ?_ hk _)
  exact h
theorem putP_below {B : Nat} {w0 w : World} {c : Nat} (h : Below B w0 w) (hc : B ≤ c) (p : Pk) (vi va : Value) : Below B w0 (putP w c p vi va) := by
  unfold putP
  repeat (refine Below.setCell ?_ (by simpa using hc) _)
  exact h
theorem putP_own {w : World} {c B : Nat} {v : Value} {xs : List Int} (h : OwnI w B v xs) (hc : c < B) (p : Pk) (vi va : Value) : OwnI (putP w c p vi va) B v xs := by
  unfold putP
  repeat (refine OwnI.far ?_ (by simpa using hc) _)
  exact h
def RetPk (w : World) (p : Pk) (e : Ending) (w' : World) : Prop := ∃ vi va, e = .returned (.agg (pkC p vi va)) ∧ OwnI w' w.heap.size vi p.ins ∧ CapI vi ∧ OwnI w' w.heap.size va p.acks ∧ CapI va ∧ Below w.heap.size w w'
section
variable {H : Type} {enc : TypeId × Value → H} {P : Program} {w : World} {base : Nat} {spare : Nat → Bool} {held : Bool}
theorem open_agg9p {r : Reach} {b0 : Nat} {t : TypeId} {f0 f1 f2 f3 f4 f5 f6 f7 f8 : Field} {v : Value} {d : DataW H} {p : List MemPlace} (hs : P.underlying t = some (.struct #[f0, f1, f2, f3, f4, f5, f6, f7, f8])) (hone : oneCellFields P #[f0, f1, f2, f3, f4, f5, f6, f7, f8] = true) (hC : P.cellsOf t = 9)
    (hv : Value.okWide P w r b0 t v) (h : DataW.Trod enc P w base spare held t v d p) :
    ∃ (v0 v1 v2 v3 v4 v5 v6 v7 v8 : Value) (y0 y1 y2 y3 y4 y5 y6 y7 y8 : DataW H × List MemPlace) (n : Nat), v = .agg #[v0, v1, v2, v3, v4, v5, v6, v7, v8] ∧ d = .agg [y0.1, y1.1, y2.1, y3.1, y4.1, y5.1, y6.1, y7.1, y8.1] ∧ p = y0.2 ++ (y1.2 ++ (y2.2 ++ (y3.2 ++ (y4.2 ++ (y5.2 ++ (y6.2 ++ (y7.2 ++ (y8.2)))))))) ∧
      DataW.trod enc P w base spare held n f0.type [v0] = some y0 ∧ DataW.trod enc P w base spare held n f1.type [v1] = some y1 ∧ DataW.trod enc P w base spare held n f2.type [v2] = some y2 ∧ DataW.trod enc P w base spare held n f3.type [v3] = some y3 ∧ DataW.trod enc P w base spare held n f4.type [v4] = some y4 ∧ DataW.trod enc P w base spare held n f5.type [v5] = some y5 ∧ DataW.trod enc P w base spare held n f6.type [v6] = some y6 ∧ DataW.trod enc P w base spare held n f7.type [v7] = some y7 ∧ DataW.trod enc P w base spare held n f8.type [v8] = some y8 := by
  obtain ⟨cs, rfl, hsz⟩ := okWide_struct hs hv
  obtain ⟨l⟩ := cs
  match l, hsz.trans hC with
  | [c0, c1, c2, c3, c4, c5, c6, c7, c8], _ =>
    obtain ⟨fuel, hf⟩ := h
    obtain ⟨xs, n, _, hx, _, hlen, hg⟩ := DataW.trod_struct hs hf
    obtain ⟨o0, k0⟩ := hone_of hone 0 f0 rfl
    obtain ⟨o1, k1⟩ := hone_of hone 1 f1 rfl
    obtain ⟨o2, k2⟩ := hone_of hone 2 f2 rfl
    obtain ⟨o3, k3⟩ := hone_of hone 3 f3 rfl
    obtain ⟨o4, k4⟩ := hone_of hone 4 f4 rfl
    obtain ⟨o5, k5⟩ := hone_of hone 5 f5 rfl
    obtain ⟨o6, k6⟩ := hone_of hone 6 f6 rfl
    obtain ⟨o7, k7⟩ := hone_of hone 7 f7 rfl
    obtain ⟨o8, k8⟩ := hone_of hone 8 f8 rfl
    match xs, hlen with
    | [y0, y1, y2, y3, y4, y5, y6, y7, y8], _ =>
      simp only [Prod.mk.injEq] at hx
      exact ⟨c0, c1, c2, c3, c4, c5, c6, c7, c8, y0, y1, y2, y3, y4, y5, y6, y7, y8, n, rfl, by simpa using hx.1, by simpa using hx.2, by simpa [Value.cells, o0, k0] using hg 0 f0 rfl, by simpa [Value.cells, o1, k1] using hg 1 f1 rfl, by simpa [Value.cells, o2, k2] using hg 2 f2 rfl, by simpa [Value.cells, o3, k3] using hg 3 f3 rfl, by simpa [Value.cells, o4, k4] using hg 4 f4 rfl, by simpa [Value.cells, o5, k5] using hg 5 f5 rfl, by simpa [Value.cells, o6, k6] using hg 6 f6 rfl, by simpa [Value.cells, o7, k7] using hg 7 f7 rfl, by simpa [Value.cells, o8, k8] using hg 8 f8 rfl⟩
end
end Go.Proofs.Ytgbdpmaajihfdaa
