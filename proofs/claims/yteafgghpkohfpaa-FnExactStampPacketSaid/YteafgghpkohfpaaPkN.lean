/-
  The laws' marks on a packet of the call's own, and their test. Lists of at most 2^20 numbers.
-/
import Derived.Test.YteafgghpkohfpaaPk
import Derived.Test.YteafgghpkohfpaaFar
namespace Go.Proofs.Yteafgghpkohfpaa
open Go.RowKit
set_option linter.all false
/-- The packet's two lists lie in two blocks from lo up to hi. -/
def OwnPIn (w : World) (lo hi : Nat) (p : Pk) (vi va : Value) : Prop := ∃ a1 b1 a2 b2, (lo ≤ a1 ∧ a1 ≤ b1 ∧ b1 ≤ hi) ∧ (lo ≤ a2 ∧ a2 ≤ b2 ∧ b2 ≤ hi) ∧ (b1 ≤ a2 ∨ b2 ≤ a1) ∧ OwnIn w a1 b1 vi p.ins ∧ OwnIn w a2 b2 va p.acks
theorem OwnPIn.rd {w : World} {lo hi : Nat} {p : Pk} {vi va : Value} (h : OwnPIn w lo hi p vi va) : RdP w p vi va := by
  obtain ⟨a1, b1, a2, b2, -, -, -, h1, h2⟩ := h
  exact ⟨h1.rd, h2.rd⟩
theorem OwnPIn.wide {w : World} {lo hi lo' hi' : Nat} {p : Pk} {vi va : Value} (h : OwnPIn w lo hi p vi va) (h1 : lo' ≤ lo) (h2 : hi ≤ hi') : OwnPIn w lo' hi' p vi va := by
  obtain ⟨a1, b1, a2, b2, c1, c2, d, e1, e2⟩ := h
  exact ⟨a1, b1, a2, b2, ⟨by omega, by omega, by omega⟩, ⟨by omega, by omega, by omega⟩, d, e1, e2⟩
theorem OwnPIn.keep {w w' : World} {lo hi : Nat} {p : Pk} {vi va : Value} (h : OwnPIn w lo hi p vi va) (hb : Below w.heap.size w w') : OwnPIn w' lo hi p vi va := by
  obtain ⟨a1, b1, a2, b2, c1, c2, d, e1, e2⟩ := h
  exact ⟨a1, b1, a2, b2, c1, c2, d, e1.keep hb, e2.keep hb⟩
theorem OwnPIn.afar {w w' : World} {lo hi l1 h1 : Nat} {p : Pk} {vi va : Value} (h : OwnPIn w l1 h1 p vi va) (hf : FarB lo hi w w') (hle : hi ≤ l1) : OwnPIn w' l1 h1 p vi va := by
  obtain ⟨a1, b1, a2, b2, c1, c2, d, e1, e2⟩ := h
  exact ⟨a1, b1, a2, b2, c1, c2, d, e1.apart2 hf (.inl (by omega)), e2.apart2 hf (.inl (by omega))⟩
def Pk.marksN (p : Pk) : Nat := p.ins.length + p.acks.length
def Pk.marked (p : Pk) (k : Nat) : Pk := { p with ins := marks (k : Int) p.ins.length, acks := marks ((k + p.ins.length : Nat) : Int) p.acks.length }
set_option maxHeartbeats 2000000 in
theorem markPacket_far {w : World} {lo hi : Nat} {p : Pk} {vi va : Value} (h : OwnPIn w lo hi p vi va) (hw : hi ≤ w.heap.size) (hn : p.few) (k0 : Nat) (h0 : 0 < k0) (h1 : k0 ≤ 1048576) :
    Calls Try.prog 52 #[.agg (pkC p vi va), .int .i64 (k0 : Int)] w fun e w' => e = .returned (.int .i64 ((k0 + p.marksN : Nat) : Int)) ∧ OwnPIn w' lo hi (p.marked k0) vi va ∧ FarB lo hi w w' := by
  obtain ⟨hn1, hn2⟩ := hn
  have hrd := h.rd
  obtain ⟨p1, q1, p2, q2, ⟨y1, v1, y2⟩, ⟨y3, v2, y4⟩, z1, a3, a4⟩ := h
  obtain ⟨ai, ci, rfl, -⟩ := id hrd.1
  obtain ⟨aa, ca, rfl, -⟩ := id hrd.2
  unfold pkC
  obtain ⟨W0, hW, hA, hB0, hS0⟩ := rows1 w #[.int .i64 p.fr, .int .i64 p.tick, .int .i64 p.first, .slice ai p.ins.length ci, .slice aa p.acks.length ca, .int .i64 p.sumTick, .int .i64 p.sum, .int .i64 p.time, .int .i64 p.echo] 43
  have cA := rowCells hA
  have r3 := a3.keep hB0
  have r4 := a4.keep hB0
  have hs0 := hB0.size
  have hm := markIntS_far r3 hn1 (k0 : Int) (by omega) (by omega)
  have hAlt : w.heap.size < W0.heap.size := blockLt hA
  clear hrd
  go_enter Try.func52, Try.ntmps52
  go_wp2_with (fail)
  try rw [hW]
  clear hW
  refine hm.mono ?_
  rintro e w1 ⟨rfl, o1, F1⟩
  have hs1 := F1.1.size
  have hA1 := keepHeapFar F1 hA (by omega)
  have cA1 := rowCells hA1
  have r41 := r4.apart2 F1 z1
  obtain ⟨K1, hK1⟩ : ∃ K1 : Nat, (K1 : Int) = (k0 : Int) + (p.ins.length : Int) := ⟨k0 + p.ins.length, by omega⟩
  rw [← hK1]
  have HK1 := Lib.hid hK1
  have hm2 := markIntS_far r41 hn2 (K1 : Int) (by omega) (by omega)
  clear cA hK1 hm
  go_wp2_with (fail)
  refine hm2.mono ?_
  rintro e w2 ⟨rfl, o2, F2⟩
  have o12 := o1.apart2 F2 (Or.comm.1 z1)
  have e1 : ((k0 + p.ins.length : Nat) : Int) = (K1 : Int) := by rw [HK1.out]; omega
  have e2 : (K1 : Int) + (p.acks.length : Int) = ((k0 + p.marksN : Nat) : Int) := by have := HK1.out; unfold Pk.marksN; omega
  have E2 := Lib.hid e2
  clear e2
  go_wp2_with (fail)
  go_ret
  refine ⟨ret_int E2.out, ⟨p1, q1, p2, q2, ⟨y1, v1, y2⟩, ⟨y3, v2, y4⟩, z1, o12, by rw [Pk.marked, e1]; exact o2⟩, ?_⟩
  exact (FarB.of_below hB0 (by omega)).trans ((F1.wide y1 y2).trans (F2.wide y3 y4))
set_option maxHeartbeats 2000000 in
theorem heldPacket_any {w : World} (p : Pk) {vi va : Value} (k0 : Nat) (h : RdP w (p.marked k0) vi va) (hn : p.few) (h0 : 0 < k0) (h1 : k0 ≤ 1048576) :
    Calls Try.prog 53 #[.agg (pkC p vi va), .int .i64 (k0 : Int)] w fun e w' => e = .returned (.int .i64 ((k0 + p.marksN : Nat) : Int)) ∧ Below w.heap.size w w' := by
  obtain ⟨hn1, hn2⟩ := hn
  obtain ⟨g1, g2⟩ := h
  have g1 : RdI w vi (marks (k0 : Int) p.ins.length) := g1
  have g2 : RdI w va (marks ((k0 + p.ins.length : Nat) : Int) p.acks.length) := g2
  obtain ⟨K1, hK1⟩ : ∃ K1, K1 = k0 + p.ins.length := ⟨_, rfl⟩
  rw [← hK1] at g2
  have HE : Hid ((K1 : Int) + (p.acks.length : Int) = ((k0 + p.marksN : Nat) : Int)) := Lib.hid (by unfold Pk.marksN; omega)
  have H1 : Hid ((k0 : Int) + (p.ins.length : Int) = (K1 : Int)) := Lib.hid (by omega)
  have z1 : decide ((K1 : Int) < 0) = false := by simp
  have z2 : decide ((K1 : Int) + (p.acks.length : Int) < 0) = false := by simp; omega
  obtain ⟨n1, hn1'⟩ : ∃ n, n = (marks (k0 : Int) p.ins.length).length := ⟨_, rfl⟩
  obtain ⟨n2, hn2'⟩ : ∃ n, n = (marks (K1 : Int) p.acks.length).length := ⟨_, rfl⟩
  have hK1b : K1 ≤ 2097152 := by omega
  have q1 := fun {W : World} (hb : Below w.heap.size w W) => heldIntS_any p.ins.length (k0 : Int) (g1.keep hb) (by omega) (by omega) (by omega)
  have q2 := fun {W : World} (hb : Below w.heap.size w W) => heldIntS_any p.acks.length (K1 : Int) (g2.keep hb) (by omega) (by omega) (by omega)
  rw [H1.out] at q1
  obtain ⟨ai, ci, rfl, -⟩ := id g1
  obtain ⟨aa, ca, rfl, -⟩ := id g2
  rw [← hn1'] at q1 ⊢
  rw [← hn2'] at q2 ⊢
  unfold pkC
  obtain ⟨W0, hW, hA, hB0, hS0⟩ := rows1 w #[.int .i64 p.fr, .int .i64 p.tick, .int .i64 p.first, .slice ai n1 ci, .slice aa n2 ca, .int .i64 p.sumTick, .int .i64 p.sum, .int .i64 p.time, .int .i64 p.echo] 43
  have cA := rowCells hA
  clear hK1 hn1' hn2' g1 g2 H1
  go_enter Try.func53, Try.ntmps53
  go_wp2_with (fail)
  try rw [hW]
  clear hW
  refine (q1 hB0).mono ?_
  rintro e w1 ⟨rfl, rfl⟩
  go_wp2_with (fail)
  refine (q2 hB0).mono ?_
  rintro e w2 ⟨rfl, rfl⟩
  go_wp2_with (fail)
  go_ret
  exact ⟨ret_int HE.out, hB0⟩
end Go.Proofs.Yteafgghpkohfpaa
