/-
  Texts of this proof: Own, Strs, Hex, Fmt, MkT, LstS, Level.
-/
import Derived.Test.YtnlonkkbjkfkmaaDoorM00
import Derived.Deep.RegionLaw
import Derived.Deep.RegionWith
import Derived.Lib.ItoaLen
import Derived.Deep.RegionHeld3
import Derived.Test.YtnlonkkbjkfkmaaDoorM03
import Derived.Lib.SmallJoins
import Derived.Deep.Strs
namespace Go.Proofs.YtnlonkkbjkfkmaaDoor
open Go.RowKit
set_option linter.all false

def byteV (b : UInt8) : Value := .int .u8 (b.toNat : Int)
def bytesV (l : List UInt8) : List Value := l.map byteV
theorem bytesV_snoc (l : List UInt8) (b : UInt8) : bytesV (l ++ [b]) = bytesV l ++ [byteV b] := by simp [bytesV]
def OwnB (w : World) (B : Nat) (v : Value) (l : List UInt8) : Prop := w.ownsRow B 5 1 v l.length (bytesV l)
theorem OwnB.row {w : World} {B : Nat} {v : Value} {l : List UInt8} (h : OwnB w B v l) : w.ownsRow B 5 1 v l.length (bytesV l) := h
theorem OwnB.nil (w : World) (B : Nat) : OwnB w B (.slice none 0 0) [] := World.ownsRow_nil w B _ 1
theorem OwnB.alloc {w : World} {B : Nat} {v : Value} {l : List UInt8} (h : OwnB w B v l) (o : Obj) : OwnB (w.alloc o) B v l := World.ownsRow.alloc h o
theorem OwnB.drew {w : World} {B : Nat} {v : Value} {l : List UInt8} (h : OwnB w B v l) : OwnB w.drew B v l := h
theorem OwnB.made (w : World) (cur : Array Value) (B : Nat) (hB : B ≤ w.heap.size) (hm : cur.size ≤ maxLen) : OwnB (w.alloc (.cells cur 5)) B (.slice (some ⟨w.heap.size, 0, none⟩) 0 cur.size) [] :=
 World.ownsRow_made w cur cur.size hB hm (by simp)
theorem OwnB.of_below {w w' : World} {B C : Nat} {v : Value} {l : List UInt8} (h : OwnB w B v l) (hb : Below C w w') (hC : w.heap.size ≤ C) : OwnB w' B v l :=
 World.ownsRow.kept h (row := none) ⟨hb.os, hb.tape, hb.output, hb.size, fun k hk _ => hb.block k (by omega)⟩ (by cases v.ownBlock <;> simp)
theorem OwnB.snoc {w : World} {B : Nat} {v : Value} {l : List UInt8} {n : Int} {b : UInt8} (hn : n = (b.toNat : Int))
  (h : w.ownsRow B 5 1 v (l.length + 1) (bytesV l ++ [.int .u8 n])) : OwnB w B v (l ++ [b]) := by
 unfold OwnB
 rw [bytesV_snoc, List.length_append, byteV, ← hn]
 exact h
end Go.Proofs.YtnlonkkbjkfkmaaDoor
namespace Go.Proofs.YtnlonkkbjkfkmaaDoor
open Go.RowKit
set_option linter.all false

theorem info_str : (Tryd.prog.info? 9).map (fun i => (i.zero, i.size, i.bytes)) = some (some (.string ⟨#[]⟩), 1, 16) := by kernel_rfl
def strV (l : List UInt8) : Value := .string ⟨l.toArray⟩
def strsV (ls : List (List UInt8)) : List Value := ls.map strV
theorem strsV_snoc (ls : List (List UInt8)) (b : List UInt8) : strsV (ls ++ [b]) = strsV ls ++ [strV b] := by simp [strsV]
def OwnS (w : World) (B : Nat) (v : Value) (ls : List (List UInt8)) : Prop := w.ownsRow B 9 1 v ls.length (strsV ls)
theorem OwnS.row {w : World} {B : Nat} {v : Value} {l : List (List UInt8)} (h : OwnS w B v l) : w.ownsRow B 9 1 v l.length (strsV l) := h
theorem OwnS.nil (w : World) (B : Nat) : OwnS w B (.slice none 0 0) [] := World.ownsRow_nil w B _ 1
theorem OwnS.alloc {w : World} {B : Nat} {v : Value} {l : List (List UInt8)} (h : OwnS w B v l) (o : Obj) : OwnS (w.alloc o) B v l := World.ownsRow.alloc h o
theorem OwnS.drew {w : World} {B : Nat} {v : Value} {l : List (List UInt8)} (h : OwnS w B v l) : OwnS w.drew B v l := h
theorem OwnS.made (w : World) (cur : Array Value) (B : Nat) (hB : B ≤ w.heap.size) (hm : cur.size ≤ maxLen) : OwnS (w.alloc (.cells cur 9)) B (.slice (some ⟨w.heap.size, 0, none⟩) 0 cur.size) [] :=
 World.ownsRow_made w cur cur.size hB hm (by simp)
theorem OwnS.of_below {w w' : World} {B C : Nat} {v : Value} {l : List (List UInt8)} (h : OwnS w B v l) (hb : Below C w w') (hC : w.heap.size ≤ C) : OwnS w' B v l :=
 World.ownsRow.kept h (row := none) ⟨hb.os, hb.tape, hb.output, hb.size, fun k hk _ => hb.block k (by omega)⟩ (by cases v.ownBlock <;> simp)
theorem OwnS.shape {w : World} {B : Nat} {v : Value} {l : List (List UInt8)} (h : OwnS w B v l) : ∃ a c, v = .slice a l.length c := by
 obtain ⟨h1, h2⟩ := h
 rcases h2 with ⟨rfl, h0⟩ | ⟨g, cap, cur, rfl, _⟩
 ·exact ⟨none, 0, by rw [h0]⟩
 ·exact ⟨_, _, rfl⟩
theorem OwnS.up {w : World} {B C : Nat} {v : Value} {l : List (List UInt8)} (h : OwnS w B v l) (hC : C ≤ B) : OwnS w C v l := by
 obtain ⟨h1, h2⟩ := h
 refine ⟨h1, ?_⟩
 rcases h2 with h2 | ⟨g, cap, cur, e, hB, r⟩
 ·exact .inl h2
 ·exact .inr ⟨g, cap, cur, e, by omega, r⟩
theorem str_one (l : List UInt8) : ∀ u ∈ [strV l], u.oneCell' = true := by intro u hu; simp at hu; subst hu; rfl
theorem OwnS.cell {w : World} {B : Nat} {v : Value} {l : List (List UInt8)} (h : OwnS w B v l) {i : Nat} (hi : i < l.length) : ∃ g c, v = .slice (some ⟨g, 0, none⟩) l.length c ∧ B ≤ g ∧ l.length ≤ c ∧ g < w.heap.size ∧ w.cell? ⟨g, i, none⟩ = some (strV l[i]) := by
 have hrow : w.ownsRow B 9 1 v l.length (strsV l) := h
 obtain ⟨h1, h2⟩ := h
 rcases h2 with ⟨e, h0⟩ | ⟨g, cap, cur, rfl, hB, hg, hn, hc, _⟩
 ·omega
 ·have hcell := World.ownsRow.cells hrow (g := g) rfl i (strV l[i]) (by simp [strsV, hi])
  rw [show (⟨g, 0, none⟩ : Addr).add i = ⟨g, i, none⟩ by unfold Addr.add; split <;> simp_all] at hcell
  exact ⟨g, cap, rfl, hB, hn, (Array.getElem?_eq_some_iff.1 hg).1, hcell⟩
theorem run_at {l : List UInt8} {k : Nat} {c : UInt8} (W : World) (hk : k < l.length) (hc : (ByteArray.mk l.toArray)[k]'hk = c) : (Instr.index 9 (.string ⟨l.toArray⟩) (.int .i64 (k : Int))).run Tryd.prog W = .ok (.int .u8 (c.toNat : Int)) W := by
 rw [run_index_string W 9 _ .i64 _ Tryd.underlying9]
 rw [dif_pos ⟨by omega, by show (k : Int) < (l.toArray.size : Int); simp; exact hk⟩]
 simp only [Int.toNat_natCast]
 rw [hc]
theorem run_cut {l : List UInt8} {a b : Nat} (hab : a ≤ b) (hb : b ≤ l.length) (W : World) : (Instr.slice 9 (.string ⟨l.toArray⟩) (some (.int .i64 (a : Int))) (some (.int .i64 (b : Int))) none).run Tryd.prog W = .ok (.string ⟨((l.drop a).take (b - a)).toArray⟩) W := by
 rw [run_slice_string W 9 _ .i64 .i64 _ _ Tryd.underlying9 (by omega) (by omega) (by simp [ByteArray.size]; omega), ByteArray.extract_mk]
 rw [show (b : Int).toNat - (a : Int).toNat = b - a by omega, Int.toNat_natCast]
end Go.Proofs.YtnlonkkbjkfkmaaDoor
namespace Go.Proofs.YtnlonkkbjkfkmaaDoor
open Go.RowKit
set_option linter.all false

def hexD (x : Nat) : UInt8 := if x < 10 then UInt8.ofNat (48 + x) else UInt8.ofNat (87 + x)
end Go.Proofs.YtnlonkkbjkfkmaaDoor
namespace Go.Proofs.YtnlonkkbjkfkmaaDoor
open Go.RowKit
set_option linter.all false

def ddL (m : Nat) : List UInt8 := if m = 0 then [] else Lib.decDigits m
def FmtAt (n m : Nat) (l : List UInt8) : Prop := ddL m ++ l = Lib.decDigits n
theorem FmtAt.start {n : Nat} (h : 0 < n) : FmtAt n n [] := by unfold FmtAt ddL; rw [if_neg (by omega)]; simp
theorem FmtAt.done {n : Nat} {l : List UInt8} (h : FmtAt n 0 l) : l = Lib.decDigits n := by unfold FmtAt ddL at h; simpa using h
theorem FmtAt.next {n m : Nat} {l : List UInt8} (h : FmtAt n m l) (hm : 0 < m) : FmtAt n (m / 10) (hexD (m % 10) :: l) := by
 have hd : hexD (m % 10) = UInt8.ofNat (48 + m % 10) := by unfold hexD; rw [if_pos (by omega)]
 unfold FmtAt ddL at h ⊢
 rw [if_neg (by omega)] at h
 rw [← h, hd]
 by_cases h10 : m < 10
 ·rw [if_pos (by omega), Lib.decDigits_one h10, Nat.mod_eq_of_lt h10]; rfl
 ·rw [if_neg (by omega)]
  conv => rhs; rw [Lib.decDigits, dif_neg h10]
  simp
theorem FmtAt.len {n m : Nat} {l : List UInt8} (h : FmtAt n m l) (hn : n ≤ 9223372036854775808) : l.length ≤ 20 := by
 have h2 : (Lib.decDigits n).length ≤ 20 := by rw [Lib.decDigits_length]; exact Lib.nDigits_le20 n (by omega)
 unfold FmtAt at h
 rw [← h, List.length_append] at h2
 omega
end Go.Proofs.YtnlonkkbjkfkmaaDoor
namespace Go.Proofs.YtnlonkkbjkfkmaaDoor
open Go.RowKit
set_option linter.all false
end Go.Proofs.YtnlonkkbjkfkmaaDoor
namespace Go.Proofs.YtnlonkkbjkfkmaaDoor
open Go.RowKit
set_option linter.all false

def RdS (w : World) (v : Value) (ls : List (List UInt8)) : Prop :=
 ∃ a cap, v = .slice a ls.length cap ∧ (ls = [] ∨ ∃ b off, a = some ⟨b, off, none⟩ ∧ ∀ j (h : j < ls.length), w.cell? ⟨b, off + j, none⟩ = some (.string ⟨ls[j].toArray⟩))
def RowS (w : World) (b : Nat) (ls : List (List UInt8)) : Prop := (∀ j (h : j < ls.length), w.cell? ⟨b, j, none⟩ = some (.string ⟨ls[j].toArray⟩)) ∧ ∀ j, j < ls.length → w.frozen? ⟨b, j, none⟩ = false
def WrS (w : World) (B : Nat) (v : Value) (ls : List (List UInt8)) : Prop :=
 ∃ a cap, v = .slice a ls.length cap ∧ (ls = [] ∨ ∃ b, B ≤ b ∧ a = some ⟨b, 0, none⟩ ∧ RowS w b ls)
theorem WrS.rd {w : World} {B : Nat} {v : Value} {xs : List (List UInt8)} (h : WrS w B v xs) : RdS w v xs := by
 obtain ⟨a, cap, hv, h⟩ := h
 refine ⟨a, cap, hv, ?_⟩
 rcases h with h | ⟨b, hB, ha, hr⟩
 ·exact .inl h
 ·exact .inr ⟨b, 0, ha, fun j hj => by rw [Nat.zero_add]; exact hr.1 j hj⟩
theorem WrS.up {w : World} {B C : Nat} {v : Value} {xs : List (List UInt8)} (h : WrS w B v xs) (hC : C ≤ B) : WrS w C v xs := by
 obtain ⟨a, cap, hv, h⟩ := h
 refine ⟨a, cap, hv, ?_⟩
 rcases h with h | ⟨b, hB, ha, hr⟩
 ·exact .inl h
 ·exact .inr ⟨b, by omega, ha, hr⟩
theorem OwnS.wr {w : World} {B : Nat} {v : Value} {ls : List (List UInt8)} (h : OwnS w B v ls) : WrS w B v ls := by
 have hrow := h.row
 obtain ⟨h1, h2⟩ := hrow
 rcases h2 with ⟨rfl, h0⟩ | ⟨g, cap, cur, rfl, hB, hg, hn, hc, hsz, htk⟩
 ·exact ⟨none, 0, by rw [h0], .inl (List.eq_nil_of_length_eq_zero h0)⟩
 ·refine ⟨_, cap, rfl, .inr ⟨g, hB, rfl, fun j hj => ?_, fun j hj => ?_⟩⟩
  ·obtain ⟨g', c', e, _, _, _, hcell⟩ := h.cell hj
   simp only [Value.slice.injEq, Option.some.injEq, Addr.mk.injEq] at e
   obtain ⟨⟨rfl, -⟩, -⟩ := e
   exact hcell
  ·simp [World.frozen?, hg]
theorem OwnS.rd {w : World} {B : Nat} {v : Value} {ls : List (List UInt8)} (h : OwnS w B v ls) : RdS w v ls := h.wr.rd
theorem RdS.keep {w w' : World} {v : Value} {xs : List (List UInt8)} (h : RdS w v xs) (hb : Below w.heap.size w w') : RdS w' v xs := by
 obtain ⟨a, cap, hv, h⟩ := h
 refine ⟨a, cap, hv, ?_⟩
 rcases h with h | ⟨b, off, ha, hr⟩
 ·exact .inl h
 ·refine .inr ⟨b, off, ha, fun j hj => ?_⟩
  have := hr j hj
  rw [← this]
  exact hb.cell (World.block_lt_of_cell? w _ this)
theorem RowS.keep {w w' : World} {b : Nat} {xs : List (List UInt8)} (h : RowS w b xs) {C : Nat} (hb : Below C w w') (hC : b < C) : RowS w' b xs :=
 ⟨fun j hj => by rw [← h.1 j hj]; exact hb.cell hC, fun j hj => by rw [← h.2 j hj]; exact hb.frozen hC⟩
theorem RowS.lt {w : World} {b : Nat} {xs : List (List UInt8)} (h : RowS w b xs) (hx : xs ≠ []) : b < w.heap.size := by
 have : 0 < xs.length := List.length_pos_iff.2 hx
 exact World.block_lt_of_cell? w _ (h.1 0 this)
theorem WrS.keep {w w' : World} {B : Nat} {v : Value} {xs : List (List UInt8)} (h : WrS w B v xs) (hb : Below w.heap.size w w') : WrS w' B v xs := by
 obtain ⟨a, cap, hv, h⟩ := h
 refine ⟨a, cap, hv, ?_⟩
 by_cases hx : xs = []
 ·exact .inl hx
 rcases h with h | ⟨b, hB, ha, hr⟩
 ·exact .inl h
 ·exact .inr ⟨b, hB, ha, hr.keep hb (hr.lt hx)⟩
theorem WrS.far {w : World} {B : Nat} {v : Value} {xs : List (List UInt8)} (h : WrS w B v xs) {p : Addr} (hp : p.block < B) (u : Value) : WrS (w.setCell p u) B v xs := by
 obtain ⟨a, cap, hv, h⟩ := h
 refine ⟨a, cap, hv, ?_⟩
 rcases h with h | ⟨b, hB, ha, hr⟩
 ·exact .inl h
 ·refine .inr ⟨b, hB, ha, fun j hj => ?_, fun j hj => ?_⟩
  ·rw [World.cell?_setCell_other _ _ _ _ (by intro e; subst e; simp at hp; omega)]; exact hr.1 j hj
  ·rw [World.frozen?_setCell]; exact hr.2 j hj
theorem RowS.set {w : World} {b : Nat} {xs : List (List UInt8)} (h : RowS w b xs) (k : Nat) (hk : k < xs.length) (x : List UInt8) : RowS (w.setCell ⟨b, k, none⟩ (.string ⟨x.toArray⟩)) b (xs.set k x) := by
 refine ⟨fun j hj => ?_, fun j hj => ?_⟩
 ·rw [List.length_set] at hj
  by_cases e : k = j
  ·subst e
   rw [List.getElem_set_self]
   exact World.cell?_setCell_same _ _ _ (h.1 k hk)
  ·rw [List.getElem_set_ne e]
   rw [World.cell?_setCell_other _ _ _ _ (by simpa using e)]
   exact h.1 j hj
 ·rw [List.length_set] at hj
  rw [World.frozen?_setCell]; exact h.2 j hj
theorem RowS.zeros (w : World) (n : Nat) : RowS (w.alloc (.cells (madeCells #[.string ⟨#[]⟩] n) 9)) w.heap.size (List.replicate n []) := by
 refine ⟨fun j hj => ?_, fun j hj => ?_⟩
 ·rw [List.length_replicate] at hj
  rw [World.cell?_alloc_mark, List.getElem_replicate, ← Array.getElem?_toList, toList_madeCells_one, List.getElem?_replicate, if_pos hj]
 ·rw [World.frozen?_alloc_mark]; simp
end Go.Proofs.YtnlonkkbjkfkmaaDoor
namespace Go.Proofs.YtnlonkkbjkfkmaaDoor
open Go.RowKit Go.Joins Go.ChangeShapes Go.WideShapes Go.Deep
set_option linter.all false
def totalS (ls : List (List UInt8)) : Nat := (ls.map List.length).sum
def Sane (ls : List (List UInt8)) : Prop := ls.length ≤ 9223372036854775807 ∧ ∀ s ∈ ls, s.length ≤ 9223372036854775807
end Go.Proofs.YtnlonkkbjkfkmaaDoor
