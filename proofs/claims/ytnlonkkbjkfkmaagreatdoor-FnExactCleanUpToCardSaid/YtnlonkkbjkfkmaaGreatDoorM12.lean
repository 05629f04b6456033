/-
  Texts of this proof: Strs.
-/
import Derived.Test.YtnlonkkbjkfkmaaGreatDoorM11
namespace Go.Proofs.YtnlonkkbjkfkmaaGreatDoor
open Go.RowKit
set_option linter.all false

theorem info_str : (Tryz.prog.info? 9).map (fun i => (i.zero, i.size, i.bytes)) = some (some (.string ⟨#[]⟩), 1, 16) := by kernel_rfl
def strV (l : List UInt8) : Value := .string ⟨l.toArray⟩
def strsV (ls : List (List UInt8)) : List Value := ls.map strV
def OwnS (w : World) (B : Nat) (v : Value) (ls : List (List UInt8)) : Prop := w.ownsRow B 9 1 v ls.length (strsV ls)
theorem OwnS.row {w : World} {B : Nat} {v : Value} {l : List (List UInt8)} (h : OwnS w B v l) : w.ownsRow B 9 1 v l.length (strsV l) := h
theorem OwnS.nil (w : World) (B : Nat) : OwnS w B (.slice none 0 0) [] := World.ownsRow_nil w B _ 1
theorem OwnS.alloc {w : World} {B : Nat} {v : Value} {l : List (List UInt8)} (h : OwnS w B v l) (o : Obj) : OwnS (w.alloc o) B v l := World.ownsRow.alloc h o
theorem OwnS.drew {w : World} {B : Nat} {v : Value} {l : List (List UInt8)} (h : OwnS w B v l) : OwnS w.drew B v l := h
theorem OwnS.made (w : World) (cur : Array Value) (B : Nat) (hB : B ≤ w.heap.size) (hm : cur.size ≤ maxLen) : OwnS (w.alloc (.cells cur 9)) B (.slice (some ⟨w.heap.size, 0, none⟩) 0 cur.size) [] :=
 World.ownsRow_made w cur cur.size hB hm (by simp)
theorem OwnS.of_below {w w' : World} {B C : Nat} {v : Value} {l : List (List UInt8)} (h : OwnS w B v l) (hb : Below C w w') (hC : w.heap.size ≤ C) : OwnS w' B v l :=
 World.ownsRow.kept h (row := none) ⟨hb.os, hb.tape, hb.output, hb.size, fun k hk _ => hb.block k (by omega)⟩ (by cases v.ownBlock <;> simp)
theorem OwnS.shape {w : World} {B : Nat} {v : Value} {l : List (List UInt8)} (h : OwnS w B v l) : ∃ a c, v = .slice a l.length c := by
 obtain ⟨h1, h2⟩ := h
 rcases h2 with ⟨rfl, h0⟩ | ⟨g, cap, cur, rfl, _⟩
 ·exact ⟨none, 0, by rw [h0]⟩
 ·exact ⟨_, _, rfl⟩
theorem OwnS.up {w : World} {B C : Nat} {v : Value} {l : List (List UInt8)} (h : OwnS w B v l) (hC : C ≤ B) : OwnS w C v l := by
 obtain ⟨h1, h2⟩ := h
 refine ⟨h1, ?_⟩
 rcases h2 with h2 | ⟨g, cap, cur, e, hB, r⟩
 ·exact .inl h2
 ·exact .inr ⟨g, cap, cur, e, by omega, r⟩
theorem OwnS.cell {w : World} {B : Nat} {v : Value} {l : List (List UInt8)} (h : OwnS w B v l) {i : Nat} (hi : i < l.length) : ∃ g c, v = .slice (some ⟨g, 0, none⟩) l.length c ∧ B ≤ g ∧ l.length ≤ c ∧ g < w.heap.size ∧ w.cell? ⟨g, i, none⟩ = some (strV l[i]) := by
 have hrow : w.ownsRow B 9 1 v l.length (strsV l) := h
 obtain ⟨h1, h2⟩ := h
 rcases h2 with ⟨e, h0⟩ | ⟨g, cap, cur, rfl, hB, hg, hn, hc, _⟩
 ·omega
 ·have hcell := World.ownsRow.cells hrow (g := g) rfl i (strV l[i]) (by simp [strsV, hi])
  rw [show (⟨g, 0, none⟩ : Addr).add i = ⟨g, i, none⟩ by unfold Addr.add; split <;> simp_all] at hcell
  exact ⟨g, cap, rfl, hB, hn, (Array.getElem?_eq_some_iff.1 hg).1, hcell⟩
theorem run_at {l : List UInt8} {k : Nat} {c : UInt8} (W : World) (hk : k < l.length) (hc : (ByteArray.mk l.toArray)[k]'hk = c) : (Instr.index 9 (.string ⟨l.toArray⟩) (.int .i64 (k : Int))).run Tryz.prog W = .ok (.int .u8 (c.toNat : Int)) W := by
 rw [run_index_string W 9 _ .i64 _ Tryz.underlying9]
 rw [dif_pos ⟨by omega, by show (k : Int) < (l.toArray.size : Int); simp; exact hk⟩]
 simp only [Int.toNat_natCast]
 rw [hc]
end Go.Proofs.YtnlonkkbjkfkmaaGreatDoor
