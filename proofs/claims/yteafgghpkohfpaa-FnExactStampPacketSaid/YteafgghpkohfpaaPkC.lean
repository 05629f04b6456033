/-
  What a mark on a packet leaves alone. No condition.
-/
import Derived.Test.YteafgghpkohfpaaPkN
import Derived.Test.YteafgghpkohfpaaFar
namespace Go.Proofs.Yteafgghpkohfpaa
open Go.RowKit
set_option linter.all false
theorem MkI.afar {w w' : World} {B T lo hi : Nat} {v : Value} {n : Nat} (h : MkI w B T v n) (hf : FarB lo hi w w') (hle : hi ≤ B) : MkI w' B T v n := by
  obtain ⟨a, cap, hv, h⟩ := h
  refine ⟨a, cap, hv, ?_⟩
  rcases h with h | ⟨b, h1, h2, h3, ha, hr⟩
  · exact .inl h
  · have he := hf.2 b (by omega) h3
    exact .inr ⟨b, h1, h2, by have := hf.1.size; omega, ha, fun j hj => ⟨by obtain ⟨u, hu⟩ := (hr j hj).1; exact ⟨u, by rw [World.cell?_of_block (w := w) he]; exact hu⟩, by rw [frozen_of_block he]; exact (hr j hj).2⟩⟩
set_option maxHeartbeats 1000000 in
theorem markPacket_ch {w : World} {B T : Nat} {p : Pk} {vi va : Value} (h1 : MkI w B T vi p.ins.length) (h2 : MkI w B T va p.acks.length) (hB : B ≤ w.heap.size) (hT : T ≤ w.heap.size) (hn : p.few) (k0 : Int) (h0 : 0 ≤ k0) (hk : k0 ≤ 2097152) :
    Calls Try.prog 52 #[.agg (pkC p vi va), .int .i64 k0] w fun e w' => e = .returned (.int .i64 (k0 + (p.ins.length : Int) + (p.acks.length : Int))) ∧ FarB B T w w' := by
  obtain ⟨hn1, hn2⟩ := hn
  obtain ⟨ai, ci, rfl⟩ := h1.slice
  obtain ⟨aa, ca, rfl⟩ := h2.slice
  unfold pkC
  obtain ⟨W0, hW, hA, hB0, hS0⟩ := rows1 w #[.int .i64 p.fr, .int .i64 p.tick, .int .i64 p.first, .slice ai p.ins.length ci, .slice aa p.acks.length ca, .int .i64 p.sumTick, .int .i64 p.sum, .int .i64 p.time, .int .i64 p.echo] 43
  have cA := rowCells hA
  have hs0 := hB0.size
  have g1 := h1.ch (IntCh.of_below (B := B) (T := T) hB0 hB)
  have g2 := h2.ch (IntCh.of_below (B := B) (T := T) hB0 hB)
  have hm := markIntS_ch g1 hn1 k0 h0 (by omega)
  have hk2 : 0 ≤ k0 + (p.ins.length : Int) := by omega
  clear h1 h2
  go_enter Try.func52, Try.ntmps52
  go_wp2_with (fail)
  try rw [hW]
  clear hW
  refine hm.mono ?_
  rintro e w1 ⟨rfl, c1⟩
  have hA1 := keepHeapFar c1.farB hA (.inr hT)
  have cA1 := rowCells hA1
  have hm2 := markIntS_ch (g2.ch c1) hn2 (k0 + (p.ins.length : Int)) hk2 (by omega)
  clear cA hm
  go_wp2_with (fail)
  refine hm2.mono ?_
  rintro e w2 ⟨rfl, c2⟩
  go_wp2_with (fail)
  go_ret
  exact ⟨rfl, (FarB.of_below hB0 hB).trans (c1.farB.trans c2.farB)⟩
end Go.Proofs.Yteafgghpkohfpaa
