/-
  The law on ScriptRows. Numbers of 64 bits.
-/
import Derived.Test.YtlffkcmbeolohaaSrw
import Derived.Test.YtlffkcmbeolohaaRofL
namespace Go.Proofs.Ytlffkcmbeolohaa
open Go.RowKit
set_option linter.all false
set_option maxRecDepth 100000 in
set_option maxHeartbeats 4000000 in
theorem lawScriptRows (v : Value) (X : Rowi) {w : World} (h : RdR w v X) (hs : SaneR X) (d : Int) (wd : (Lit.int .i64 d).wf = true) (n : Int) (wn : (Lit.int .i64 n).wf = true) :
    Calls Try.prog 4 #[v, .int .i64 d, .int .i64 n] w fun e w' => e = .returned (.bool true) ∧ Below w.heap.size w w' := by
  have hZ := szIntSS_any h hs 1048576 (by omega) (by omega)
  have h0 := h
  obtain ⟨a, cap, rfl, -⟩ := h
  go_enter Try.func4, Try.ntmps4
  go_wp2_with (fail)
  refine hZ.mono ?_
  rintro e w2 ⟨r, rfl, hr, hb2⟩
  rcases hr with rfl | ⟨hr0, hr1⟩
  · go_wp2_with (fail)
    go_ret
    exact ⟨rfl, hb2⟩
  have zr : decide (r < 0) = false := by simpa using hr0
  obtain ⟨hf, htot⟩ := SzR.few hr0 hr1
  have hspec := fun {w : World} {v : Value} (h : RdR w v X) => scriptRows_spec h hf d n
  have himpl := fun {w : World} {v : Value} (h : RdR w v X) => scriptRows_impl h hf d n
  obtain ⟨hl1, hl2⟩ := srR_facts X d n
  generalize srR X d n = Y at *
  have hY1 : Y.length ≤ 1048576 := by omega
  have hY2 : ∀ x ∈ Y, x.length ≤ 1048576 := fun x hx => by have := hl2 x hx; omega
  have hY3 : totalR Y ≤ 1048576 := by have := totalR_le hl2; omega
  clear hr1
  have r2 := h0.keep hb2
  go_wp2_with (fail)
  refine (toIntSS_any r2 hf.1 hf.2).mono ?_
  rintro e w3 ⟨v3, rfl, wr3, hb3⟩
  have q3 := hb2.trans (hb3.mono hb2.size)
  have rd3 := wr3.rd
  obtain ⟨a3, c3, rfl, -⟩ := id rd3
  go_wp2_with (fail)
  refine (hspec rd3).mono ?_
  rintro e w4 ⟨v4, rfl, ow4, hb4⟩
  have q4 := q3.trans (hb4.mono q3.size)
  have rw4 := ow4.rd
  have r4 := h0.keep q4
  obtain ⟨a4, c4, rfl, -⟩ := id rw4
  go_wp2_with (fail)
  refine (toIntSS_any r4 hf.1 hf.2).mono ?_
  rintro e w5 ⟨v5, rfl, wr5, hb5⟩
  have q5 := q4.trans (hb5.mono q4.size)
  have rd5 := wr5.rd
  have mk5 := MkR.of_wr wr5
  have rw5 := rw4.keep hb5
  obtain ⟨a5, c5, rfl, -⟩ := id rd5
  clear wr5 r4 r2 rd3 wr3 ow4
  go_wp2_with (fail)
  refine (himpl rd5).mono ?_
  rintro e w6 ⟨v6, rfl, ow6, hb6⟩
  have q6 := q5.trans (hb6.mono q5.size)
  have rw6 := rw5.keep hb6
  have rd6 := rd5.keep hb6
  obtain ⟨a6, c6, rfl, -⟩ := id ow6.rd
  go_wp2_with (fail)
  refine (eqIntSS_rows ow6.rd rw6 hY1 hY2).mono ?_
  rintro e w7 ⟨rfl, hb7⟩
  have q7 := q6.trans (hb7.mono q6.size)
  have ow7 := ow6.keep hb7 (Nat.le_refl _)
  have rd7 := rd6.keep hb7
  have r7 := h0.keep q7
  go_wp2_with (fail)
  refine (toIntSS_any r7 hf.1 hf.2).mono ?_
  rintro e w8 ⟨v8, rfl, wr8, hb8⟩
  have q8 := q7.trans (hb8.mono q7.size)
  have rd8 := wr8.rd
  have rd58 := rd7.keep hb8
  have ow8 := ow7.keep hb8 (Nat.le_refl _)
  obtain ⟨a8, c8, rfl, -⟩ := id rd8
  go_wp2_with (fail)
  refine (eqIntSS_rows rd58 rd8 hf.1 hf.2).mono ?_
  rintro e w9 ⟨rfl, hb9⟩
  have q9 := q8.trans (hb9.mono q8.size)
  have ow9 := ow8.keep hb9 (Nat.le_refl _)
  have hb59 : Below w5.heap.size w5 w9 := (((hb6.trans (hb7.mono hb6.size)).trans (hb8.mono (hb6.trans (hb7.mono hb6.size)).size)).trans (hb9.mono ((hb6.trans (hb7.mono hb6.size)).trans (hb8.mono (hb6.trans (hb7.mono hb6.size)).size)).size))
  have mk9 := mk5.ch (IntCh.of_below hb59 hb5.size)
  have hb49 : Below w4.heap.size w4 w9 := hb5.trans (hb59.mono hb5.size)
  clear r7 rd7 rd58 rd8 wr8 rd6 rd5 ow6 ow7 ow8 mk5 rw5 rw6
  go_wp2_with (fail)
  refine (markIntSS_ch mk9 hf.1 htot 1 (by omega) (by omega)).mono ?_
  rintro e w10 ⟨rfl, ch10⟩
  have ow10 := ow9.ch ch10
  have hb410 := hb49.trans ch10.1
  have q10 := q9.trans (ch10.1.mono q4.size)
  have rw10 := rw4.keep hb410
  have zk : decide ((1 : Int) + (totalR X : Nat) < 0) = false := by simp; omega
  clear mk9 ow9
  go_wp2_with (fail)
  refine (eqIntSS_rows ow10.rd rw10 hY1 hY2).mono ?_
  rintro e w11 ⟨rfl, hb11⟩
  have q11 := q10.trans (hb11.mono q10.size)
  have ow11 := ow10.keep hb11 (Nat.le_refl _)
  have hb411 := hb410.trans (hb11.mono hb410.size)
  go_wp2_with (fail)
  refine (markIntSS_own ow11 hY1 hY3 1 (by omega) (by omega)).mono ?_
  rintro e w12 ⟨rfl, ow12, hb12⟩
  have hb412 := hb411.trans (hb12.mono hb5.size)
  have q12 := q11.trans (hb12.mono q5.size)
  have rd12 := ow12.rd
  have zq : decide ((1 : Int) + (totalR Y : Nat) < 0) = false := by simp; omega
  go_wp2_with (fail)
  refine (heldIntSS_rows Y 1 rd12 hY1 hY3 (by omega) (by omega)).mono ?_
  rintro e w13 ⟨rfl, rfl⟩
  have r13 := h0.keep q12
  have rw13 := rw4.keep hb412
  go_wp2_with (fail)
  refine (toIntSS_any r13 hf.1 hf.2).mono ?_
  rintro e w14 ⟨v14, rfl, wr14, hb14⟩
  have q14 := q12.trans (hb14.mono q12.size)
  have rd14 := wr14.rd
  have rd612 := rd12.keep hb14
  have rw14 := rw13.keep hb14
  obtain ⟨a14, c14, rfl, -⟩ := id rd14
  clear r13 ow10 ow11 ow12 rw10 wr14
  go_wp2_with (fail)
  refine (himpl rd14).mono ?_
  rintro e w15 ⟨v15, rfl, ow15, hb15⟩
  have q15 := q14.trans (hb15.mono q14.size)
  have rd615 := rd612.keep hb15
  have rw15 := rw14.keep hb15
  obtain ⟨a15, c15, rfl, -⟩ := id ow15.rd
  go_wp2_with (fail)
  refine (eqIntSS_rows ow15.rd rw15 hY1 hY2).mono ?_
  rintro e w16 ⟨rfl, hb16⟩
  have q16 := q15.trans (hb16.mono q15.size)
  have rd616 := rd615.keep hb16
  go_wp2_with (fail)
  refine (heldIntSS_rows Y 1 rd616 hY1 hY3 (by omega) (by omega)).mono ?_
  rintro e w17 ⟨rfl, rfl⟩
  go_wp2_with (fail)
  go_ret
  exact ⟨rfl, q16⟩
end Go.Proofs.Ytlffkcmbeolohaa
