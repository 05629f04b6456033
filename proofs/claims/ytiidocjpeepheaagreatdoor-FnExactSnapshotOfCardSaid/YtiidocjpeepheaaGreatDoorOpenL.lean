/-
  A level that came in as an argument, opened to its rows.
-/
import Derived.Test.YtiidocjpeepheaaGreatDoorLevel
import Derived.Lib.SmallJoins
import Derived.Deep.Strs
namespace Go.Proofs.YtiidocjpeepheaaGreatDoor
open Go.RowKit Go.Joins Go.ChangeShapes Go.WideShapes Go.Deep
set_option linter.all false
section
variable {H : Type} {enc : TypeId × Value → H} {w : World} {base : Nat} {spare : Nat → Bool} {held : Bool}
/-- A slice of strings, off its reading. -/
theorem rdS_of_trod {n : Nat} {v0 : Value} {y : DataW H × List MemPlace} (h : DataW.trod enc Tryz.prog w base spare held n 23 [v0] = some y) : ∃ ls, RdS w v0 ls ∧ Sane ls := by
  rcases open_strs Tryz.underlying23 Tryz.underlying9 (by kernel_rfl) h with ⟨hcs, _⟩ | ⟨a, len, cap, m, Sx, hcs, _, hl, hm, hmm, _, hcell⟩
  · simp only [List.cons.injEq, and_true] at hcs
    subst hcs
    exact ⟨[], ⟨none, 0, rfl, .inl rfl⟩, by simp, by simp⟩
  · simp only [List.cons.injEq, and_true] at hcs
    subst hcs
    have hlm : len ≤ m := by rw [hmm]; split <;> omega
    unfold maxLen at hm hcell
    refine ⟨(List.range len).map fun i => (Sx i).data.toList, ⟨some a, cap, by simp, ?_⟩, by simp; omega, ?_⟩
    · by_cases h0 : len = 0
      · subst h0; exact .inl rfl
      · obtain ⟨b, off, spot⟩ := a
        have hc0 := (hcell 0 (by omega)).1
        have hspot : spot = none := by simpa [Addr.add] using World.cell?_spot hc0
        subst hspot
        refine .inr ⟨b, off, rfl, fun j hj => ?_⟩
        rw [List.length_map, List.length_range] at hj
        have := (hcell j (by omega)).1
        rw [show (⟨b, off, none⟩ : Addr).add j = ⟨b, off + j, none⟩ by unfold Addr.add; split <;> simp_all] at this
        rw [this]
        simp
    · intro s hs
      simp only [List.mem_map, List.mem_range] at hs
      obtain ⟨i, hi, rfl⟩ := hs
      have := (hcell i (by omega)).2
      rw [Array.length_toList]
      exact this
end
section
variable {H : Type} {enc : TypeId × Value → H} {w : World} {base : Nat} {spare : Nat → Bool} {held : Bool}
set_option maxRecDepth 100000 in
theorem open_level {r : Reach} {b0 : Nat} {v : Value} {d : DataW H} {p : List MemPlace}
    (hv : Value.okWide Tryz.prog w r b0 25 v) (h : DataW.Trod enc Tryz.prog w base spare held 25 v d p) : ∃ v0 ls, v = .agg #[v0] ∧ RdS w v0 ls ∧ Sane ls := by
  obtain ⟨cs, rfl, hsz⟩ := okWide_struct Tryz.underlying25 hv
  have hC : Tryz.prog.cellsOf 25 = 1 := by kernel_rfl
  obtain ⟨l⟩ := cs
  match l, hsz.trans hC with
  | [c0], _ =>
    obtain ⟨fuel, hf⟩ := h
    obtain ⟨xs, n, _, hx, _, hlen, hg⟩ := DataW.trod_struct Tryz.underlying25 hf
    match xs, hlen with
    | [y0], _ =>
      have h0 := hg 0 _ rfl
      have hcs : Tryz.prog.cellsOf 23 = 1 := by kernel_rfl
      have h1 : DataW.trod enc Tryz.prog w base spare held n 23 [c0] = some y0 := by simpa [Value.cells, hcs] using h0
      obtain ⟨ls, r1, r2⟩ := rdS_of_trod h1
      exact ⟨c0, ls, rfl, r1, r2⟩
end
end Go.Proofs.YtiidocjpeepheaaGreatDoor
