/-
  The law on EncodeStream. Numbers of 64 bits.
-/
import Derived.Test.YtecimgennncjkaaEst
namespace Go.Proofs.Ytecimgennncjkaa
open Go.RowKit
set_option linter.all false
set_option maxRecDepth 100000 in
set_option maxHeartbeats 4000000 in
theorem lawEncodeStream (f : Int) (wf : (Lit.int .i64 f).wf = true) (v : Value) (X : Rowi) {w : World} (h : RdR w v X) (hs : SaneR X) :
    Calls Try.prog 3 #[.int .i64 f, v] w fun e w' => e = .returned (.bool true) ∧ Below w.heap.size w w' := by
  have hZ := szIntSS_any h hs 1048576 (by omega) (by omega)
  have h0 := h
  obtain ⟨a, cap, rfl, -⟩ := h
  go_enter Try.func3, Try.ntmps3
  go_wp2_with (fail)
  refine hZ.mono ?_
  rintro e w2 ⟨r, rfl, hr, hb2⟩
  rcases hr with rfl | ⟨hr0, hr1⟩
  · go_wp2_with (fail)
    go_ret
    exact ⟨rfl, hb2⟩
  have zr : decide (r < 0) = false := by simpa using hr0
  have hf : X.length ≤ 1048576 ∧ ∀ x ∈ X, x.length ≤ 1048576 := ⟨by omega, fun x hx => by have := totalR_mem hx; omega⟩
  have hspec := fun {w : World} {v : Value} (h : RdR w v X) => encodeStream_spec h hf.1 hf.2 f
  have himpl := fun {w : World} {v : Value} (h : RdR w v X) => encodeStream_impl h hf.1 hf.2 f
  generalize strL f X = Y at hspec himpl
  clear hr1
  have r2 := h0.keep hb2
  go_wp2_with (fail)
  refine (toIntSS_any r2 hf.1 hf.2).mono ?_
  rintro e w3 ⟨v3, rfl, wr3, hb3⟩
  have q3 := hb2.trans (hb3.mono hb2.size)
  have rd3 := wr3.rd
  obtain ⟨a3, c3, rfl, -⟩ := id rd3
  go_wp2_with (fail)
  refine (hspec rd3).mono ?_
  rintro e w4 ⟨rfl, hb4⟩
  have q4 := q3.trans (hb4.mono q3.size)
  have r4 := h0.keep q4
  go_wp2_with (fail)
  refine (toIntSS_any r4 hf.1 hf.2).mono ?_
  rintro e w5 ⟨v5, rfl, wr5, hb5⟩
  have q5 := q4.trans (hb5.mono q4.size)
  have rd5 := wr5.rd
  obtain ⟨a5, c5, rfl, -⟩ := id rd5
  clear wr5 r4 r2 rd3 wr3
  go_wp2_with (fail)
  refine (himpl rd5).mono ?_
  rintro e w6 ⟨rfl, hb6⟩
  have q6 := q5.trans (hb6.mono q5.size)
  have rd6 := rd5.keep hb6
  have r6 := h0.keep q6
  go_wp2_with (fail)
  refine (toIntSS_any r6 hf.1 hf.2).mono ?_
  rintro e w8 ⟨v8, rfl, wr8, hb8⟩
  have q8 := q6.trans (hb8.mono q6.size)
  have rd8 := wr8.rd
  have rd58 := rd6.keep hb8
  obtain ⟨a8, c8, rfl, -⟩ := id rd8
  go_wp2_with (fail)
  refine (eqIntSS_rows rd58 rd8 hf.1 hf.2).mono ?_
  rintro e w9 ⟨rfl, hb9⟩
  have q9 := q8.trans (hb9.mono q8.size)
  go_wp2_with (fail)
  go_ret
  exact ⟨rfl, q9⟩
end Go.Proofs.Ytecimgennncjkaa
