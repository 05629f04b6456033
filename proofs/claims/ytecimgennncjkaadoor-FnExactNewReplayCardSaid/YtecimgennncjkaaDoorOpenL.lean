/-
  A level that came in as an argument, opened to its rows.
-/
import Derived.Test.YtecimgennncjkaaDoorLevel
import Derived.Test.YtecimgennncjkaaDoorOpenS
import Derived.Lib.SmallJoins
import Derived.Deep.Strs
namespace Go.Proofs.YtecimgennncjkaaDoor
open Go.RowKit Go.Joins Go.ChangeShapes Go.WideShapes Go.Deep
set_option linter.all false
section
variable {H : Type} {enc : TypeId × Value → H} {w : World} {base : Nat} {spare : Nat → Bool} {held : Bool}
set_option maxRecDepth 100000 in
theorem open_level {r : Reach} {b0 : Nat} {v : Value} {d : DataW H} {p : List MemPlace}
    (hv : Value.okWide Tryd.prog w r b0 36 v) (h : DataW.Trod enc Tryd.prog w base spare held 36 v d p) : ∃ v0 ls, v = .agg #[v0] ∧ RdS w v0 ls ∧ Sane ls := by
  obtain ⟨cs, rfl, hsz⟩ := okWide_struct Tryd.underlying36 hv
  have hC : Tryd.prog.cellsOf 36 = 1 := by kernel_rfl
  obtain ⟨l⟩ := cs
  match l, hsz.trans hC with
  | [c0], _ =>
    obtain ⟨fuel, hf⟩ := h
    obtain ⟨xs, n, _, hx, _, hlen, hg⟩ := DataW.trod_struct Tryd.underlying36 hf
    match xs, hlen with
    | [y0], _ =>
      have h0 := hg 0 _ rfl
      have hcs : Tryd.prog.cellsOf 34 = 1 := by kernel_rfl
      have h1 : DataW.trod enc Tryd.prog w base spare held n 34 [c0] = some y0 := by simpa [Value.cells, hcs] using h0
      obtain ⟨ls, r1, r2⟩ := rdS_of_trod h1
      exact ⟨c0, ls, rfl, r1, r2⟩
end
end Go.Proofs.YtecimgennncjkaaDoor
