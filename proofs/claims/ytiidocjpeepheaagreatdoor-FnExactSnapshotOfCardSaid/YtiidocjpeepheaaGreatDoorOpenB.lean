/-
  A body that came in as an argument, opened to its nine numbers.
-/
import Derived.Test.YtiidocjpeepheaaGreatDoorMeet
import Derived.Lib.SmallJoins
namespace Go.Proofs.YtiidocjpeepheaaGreatDoor
open Go.RowKit Go.Joins Go.ChangeShapes Go.WideShapes Go.Deep
set_option linter.all false
section
variable {H : Type} {enc : TypeId × Value → H} {P : Program} {w : World} {base : Nat} {spare : Nat → Bool} {held : Bool}
theorem open_agg9 {r : Reach} {b0 : Nat} {t : TypeId} {f0 f1 f2 f3 f4 f5 f6 f7 f8 : Field} {v : Value} {d : DataW H} {p : List MemPlace} (hs : P.underlying t = some (.struct #[f0, f1, f2, f3, f4, f5, f6, f7, f8])) (hone : oneCellFields P #[f0, f1, f2, f3, f4, f5, f6, f7, f8] = true) (hC : P.cellsOf t = 9)
    (hv : Value.okWide P w r b0 t v) (h : DataW.Trod enc P w base spare held t v d p) :
    ∃ (v0 v1 v2 v3 v4 v5 v6 v7 v8 : Value) (y0 y1 y2 y3 y4 y5 y6 y7 y8 : DataW H × List MemPlace) (n : Nat), v = .agg #[v0, v1, v2, v3, v4, v5, v6, v7, v8] ∧ d = .agg [y0.1, y1.1, y2.1, y3.1, y4.1, y5.1, y6.1, y7.1, y8.1] ∧ p = y0.2 ++ (y1.2 ++ (y2.2 ++ (y3.2 ++ (y4.2 ++ (y5.2 ++ (y6.2 ++ (y7.2 ++ (y8.2)))))))) ∧
      DataW.trod enc P w base spare held n f0.type [v0] = some y0 ∧ DataW.trod enc P w base spare held n f1.type [v1] = some y1 ∧ DataW.trod enc P w base spare held n f2.type [v2] = some y2 ∧ DataW.trod enc P w base spare held n f3.type [v3] = some y3 ∧ DataW.trod enc P w base spare held n f4.type [v4] = some y4 ∧ DataW.trod enc P w base spare held n f5.type [v5] = some y5 ∧ DataW.trod enc P w base spare held n f6.type [v6] = some y6 ∧ DataW.trod enc P w base spare held n f7.type [v7] = some y7 ∧ DataW.trod enc P w base spare held n f8.type [v8] = some y8 := by
  obtain ⟨cs, rfl, hsz⟩ := okWide_struct hs hv
  obtain ⟨l⟩ := cs
  match l, hsz.trans hC with
  | [c0, c1, c2, c3, c4, c5, c6, c7, c8], _ =>
    obtain ⟨fuel, hf⟩ := h
    obtain ⟨xs, n, _, hx, _, hlen, hg⟩ := DataW.trod_struct hs hf
    obtain ⟨o0, k0⟩ := hone_of hone 0 f0 rfl
    obtain ⟨o1, k1⟩ := hone_of hone 1 f1 rfl
    obtain ⟨o2, k2⟩ := hone_of hone 2 f2 rfl
    obtain ⟨o3, k3⟩ := hone_of hone 3 f3 rfl
    obtain ⟨o4, k4⟩ := hone_of hone 4 f4 rfl
    obtain ⟨o5, k5⟩ := hone_of hone 5 f5 rfl
    obtain ⟨o6, k6⟩ := hone_of hone 6 f6 rfl
    obtain ⟨o7, k7⟩ := hone_of hone 7 f7 rfl
    obtain ⟨o8, k8⟩ := hone_of hone 8 f8 rfl
    match xs, hlen with
    | [y0, y1, y2, y3, y4, y5, y6, y7, y8], _ =>
      simp only [Prod.mk.injEq] at hx
      exact ⟨c0, c1, c2, c3, c4, c5, c6, c7, c8, y0, y1, y2, y3, y4, y5, y6, y7, y8, n, rfl, by simpa using hx.1, by simpa using hx.2, by simpa [Value.cells, o0, k0] using hg 0 f0 rfl, by simpa [Value.cells, o1, k1] using hg 1 f1 rfl, by simpa [Value.cells, o2, k2] using hg 2 f2 rfl, by simpa [Value.cells, o3, k3] using hg 3 f3 rfl, by simpa [Value.cells, o4, k4] using hg 4 f4 rfl, by simpa [Value.cells, o5, k5] using hg 5 f5 rfl, by simpa [Value.cells, o6, k6] using hg 6 f6 rfl, by simpa [Value.cells, o7, k7] using hg 7 f7 rfl, by simpa [Value.cells, o8, k8] using hg 8 f8 rfl⟩
end
/-- Each number of a body fits its kind. -/
def Bd.fits (b : Bd) : Prop := (Lit.int .i64 b.kind).wf = true ∧ (Lit.int .i64 b.owner).wf = true ∧ (Lit.int .i64 b.x).wf = true ∧ (Lit.int .i64 b.y).wf = true ∧ (Lit.int .i64 b.vx).wf = true ∧ (Lit.int .i64 b.vy).wf = true ∧ (Lit.int .i64 b.aim).wf = true ∧ (Lit.int .i64 b.life).wf = true ∧ (Lit.int .i64 b.timer).wf = true
set_option maxRecDepth 100000 in
theorem open_body {H : Type} {enc : TypeId × Value → H} {w : World} {base : Nat} {spare : Nat → Bool} {held : Bool} {r : Reach} {b0 : Nat} {v : Value} {d : DataW H} {p : List MemPlace}
    (hv : Value.okWide Tryz.prog w r b0 122 v) (h : DataW.Trod enc Tryz.prog w base spare held 122 v d p) : ∃ b : Bd, v = bdV b ∧ b.fits := by
  obtain ⟨v0, v1, v2, v3, v4, v5, v6, v7, v8, y0, y1, y2, y3, y4, y5, y6, y7, y8, n, rfl, rfl, rfl, h0, h1, h2, h3, h4, h5, h6, h7, h8⟩ := open_agg9 Tryz.underlying122 (by kernel_rfl) (by kernel_rfl) hv h
  obtain ⟨m0, e0, rfl, w0⟩ := DataW.trod_int Tryz.underlying3 h0
  obtain rfl : v0 = .int .i64 m0 := by simpa using e0
  obtain ⟨m1, e1, rfl, w1⟩ := DataW.trod_int Tryz.underlying3 h1
  obtain rfl : v1 = .int .i64 m1 := by simpa using e1
  obtain ⟨m2, e2, rfl, w2⟩ := DataW.trod_int Tryz.underlying3 h2
  obtain rfl : v2 = .int .i64 m2 := by simpa using e2
  obtain ⟨m3, e3, rfl, w3⟩ := DataW.trod_int Tryz.underlying3 h3
  obtain rfl : v3 = .int .i64 m3 := by simpa using e3
  obtain ⟨m4, e4, rfl, w4⟩ := DataW.trod_int Tryz.underlying3 h4
  obtain rfl : v4 = .int .i64 m4 := by simpa using e4
  obtain ⟨m5, e5, rfl, w5⟩ := DataW.trod_int Tryz.underlying3 h5
  obtain rfl : v5 = .int .i64 m5 := by simpa using e5
  obtain ⟨m6, e6, rfl, w6⟩ := DataW.trod_int Tryz.underlying3 h6
  obtain rfl : v6 = .int .i64 m6 := by simpa using e6
  obtain ⟨m7, e7, rfl, w7⟩ := DataW.trod_int Tryz.underlying3 h7
  obtain rfl : v7 = .int .i64 m7 := by simpa using e7
  obtain ⟨m8, e8, rfl, w8⟩ := DataW.trod_int Tryz.underlying3 h8
  obtain rfl : v8 = .int .i64 m8 := by simpa using e8
  exact ⟨⟨m0, m1, m2, m3, m4, m5, m6, m7, m8⟩, rfl, w0, w1, w2, w3, w4, w5, w6, w7, w8⟩
end Go.Proofs.YtiidocjpeepheaaGreatDoor
