/-
  The laws' marks on a packet of the call's own, and their test. Lists of at most 2^20 numbers.
-/
import Derived.Test.YtgbdpmaajihfdaaPk
import Derived.Test.YtgbdpmaajihfdaaFar
namespace Go.Proofs.Ytgbdpmaajihfdaa
open Go.RowKit
set_option linter.all false
/-- The packet's two lists lie in two blocks from lo up to hi. -/
def OwnPIn (w : World) (lo hi : Nat) (p : Pk) (vi va : Value) : Prop := ∃ a1 b1 a2 b2, (lo ≤ a1 ∧ a1 ≤ b1 ∧ b1 ≤ hi) ∧ (lo ≤ a2 ∧ a2 ≤ b2 ∧ b2 ≤ hi) ∧ (b1 ≤ a2 ∨ b2 ≤ a1) ∧ OwnIn w a1 b1 vi p.ins ∧ OwnIn w a2 b2 va p.acks
theorem OwnPIn.rd {w : World} {lo hi : Nat} {p : Pk} {vi va : Value} (h : OwnPIn w lo hi p vi va) : RdP w p vi va := by
  obtain ⟨a1, b1, a2, b2, -, -, -, h1, h2⟩ := h
  exact ⟨h1.rd, h2.rd⟩
theorem OwnPIn.wide {w : World} {lo hi lo' hi' : Nat} {p : Pk} {vi va : Value} (h : OwnPIn w lo hi p vi va) (h1 : lo' ≤ lo) (h2 : hi ≤ hi') : OwnPIn w lo' hi' p vi va := by
  obtain ⟨a1, b1, a2, b2, c1, c2, d, e1, e2⟩ := h
  exact ⟨a1, b1, a2, b2, ⟨by omega, by omega, by omega⟩, ⟨by omega, by omega, by omega⟩, d, e1, e2⟩
theorem OwnPIn.keep {w w' : World} {lo hi : Nat} {p : Pk} {vi va : Value} (h : OwnPIn w lo hi p vi va) (hb : Below w.heap.size w w') : OwnPIn w' lo hi p vi va := by
  obtain ⟨a1, b1, a2, b2, c1, c2, d, e1, e2⟩ := h
  exact ⟨a1, b1, a2, b2, c1, c2, d, e1.keep hb, e2.keep hb⟩
theorem OwnPIn.afar {w w' : World} {lo hi l1 h1 : Nat} {p : Pk} {vi va : Value} (h : OwnPIn w l1 h1 p vi va) (hf : FarB lo hi w w') (hle : hi ≤ l1) : OwnPIn w' l1 h1 p vi va := by
  obtain ⟨a1, b1, a2, b2, c1, c2, d, e1, e2⟩ := h
  exact ⟨a1, b1, a2, b2, c1, c2, d, e1.apart2 hf (.inl (by omega)), e2.apart2 hf (.inl (by omega))⟩
def Pk.marksN (p : Pk) : Nat := p.ins.length + p.acks.length
def Pk.marked (p : Pk) (k : Nat) : Pk := { p with ins := marks (k : Int) p.ins.length, acks := marks ((k + p.ins.length : Nat) : Int) p.acks.length }
end Go.Proofs.Ytgbdpmaajihfdaa
