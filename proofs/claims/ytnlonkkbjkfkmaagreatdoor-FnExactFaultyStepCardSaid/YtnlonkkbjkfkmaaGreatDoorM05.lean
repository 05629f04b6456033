/-
  Texts of this proof: Own, Strs, Hex, Fmt, MkT.
-/
import Derived.Test.YtnlonkkbjkfkmaaGreatDoorM02
import Derived.Deep.RegionLaw
import Derived.Deep.RegionWith
import Derived.Lib.ItoaLen
import Derived.Deep.RegionHeld3
namespace Go.Proofs.YtnlonkkbjkfkmaaGreatDoor
open Go.RowKit
set_option linter.all false

def byteV (b : UInt8) : Value := .int .u8 (b.toNat : Int)
def bytesV (l : List UInt8) : List Value := l.map byteV
def OwnB (w : World) (B : Nat) (v : Value) (l : List UInt8) : Prop := w.ownsRow B 5 1 v l.length (bytesV l)
theorem OwnB.row {w : World} {B : Nat} {v : Value} {l : List UInt8} (h : OwnB w B v l) : w.ownsRow B 5 1 v l.length (bytesV l) := h
theorem OwnB.nil (w : World) (B : Nat) : OwnB w B (.slice none 0 0) [] := World.ownsRow_nil w B _ 1
theorem OwnB.alloc {w : World} {B : Nat} {v : Value} {l : List UInt8} (h : OwnB w B v l) (o : Obj) : OwnB (w.alloc o) B v l := World.ownsRow.alloc h o
theorem OwnB.drew {w : World} {B : Nat} {v : Value} {l : List UInt8} (h : OwnB w B v l) : OwnB w.drew B v l := h
theorem OwnB.made (w : World) (cur : Array Value) (B : Nat) (hB : B ≤ w.heap.size) (hm : cur.size ≤ maxLen) : OwnB (w.alloc (.cells cur 5)) B (.slice (some ⟨w.heap.size, 0, none⟩) 0 cur.size) [] :=
 World.ownsRow_made w cur cur.size hB hm (by simp)
theorem OwnB.of_below {w w' : World} {B C : Nat} {v : Value} {l : List UInt8} (h : OwnB w B v l) (hb : Below C w w') (hC : w.heap.size ≤ C) : OwnB w' B v l :=
 World.ownsRow.kept h (row := none) ⟨hb.os, hb.tape, hb.output, hb.size, fun k hk _ => hb.block k (by omega)⟩ (by cases v.ownBlock <;> simp)
theorem one_cell (W : World) (v : Value) (t : TypeId) : ∀ j u, [v][j]? = some u → (W.alloc (.cells #[v] t)).cell? ((⟨W.heap.size, 0, none⟩ : Addr).add j) = some u := by
 intro j u hj
 match j, hj with
 | 0, hj =>
  simp at hj; subst hj
  rw [show (⟨W.heap.size, 0, none⟩ : Addr).add 0 = ⟨W.heap.size, 0, none⟩ by simp [Addr.add]]
  exact World.cell?_alloc_mark W #[v] t (0, 0) 0
end Go.Proofs.YtnlonkkbjkfkmaaGreatDoor
namespace Go.Proofs.YtnlonkkbjkfkmaaGreatDoor
open Go.RowKit
set_option linter.all false

theorem info_str : (Tryz.prog.info? 9).map (fun i => (i.zero, i.size, i.bytes)) = some (some (.string ⟨#[]⟩), 1, 16) := by kernel_rfl
def strV (l : List UInt8) : Value := .string ⟨l.toArray⟩
def strsV (ls : List (List UInt8)) : List Value := ls.map strV
def OwnS (w : World) (B : Nat) (v : Value) (ls : List (List UInt8)) : Prop := w.ownsRow B 9 1 v ls.length (strsV ls)
theorem OwnS.row {w : World} {B : Nat} {v : Value} {l : List (List UInt8)} (h : OwnS w B v l) : w.ownsRow B 9 1 v l.length (strsV l) := h
theorem OwnS.nil (w : World) (B : Nat) : OwnS w B (.slice none 0 0) [] := World.ownsRow_nil w B _ 1
theorem OwnS.alloc {w : World} {B : Nat} {v : Value} {l : List (List UInt8)} (h : OwnS w B v l) (o : Obj) : OwnS (w.alloc o) B v l := World.ownsRow.alloc h o
theorem OwnS.drew {w : World} {B : Nat} {v : Value} {l : List (List UInt8)} (h : OwnS w B v l) : OwnS w.drew B v l := h
theorem OwnS.made (w : World) (cur : Array Value) (B : Nat) (hB : B ≤ w.heap.size) (hm : cur.size ≤ maxLen) : OwnS (w.alloc (.cells cur 9)) B (.slice (some ⟨w.heap.size, 0, none⟩) 0 cur.size) [] :=
 World.ownsRow_made w cur cur.size hB hm (by simp)
theorem OwnS.of_below {w w' : World} {B C : Nat} {v : Value} {l : List (List UInt8)} (h : OwnS w B v l) (hb : Below C w w') (hC : w.heap.size ≤ C) : OwnS w' B v l :=
 World.ownsRow.kept h (row := none) ⟨hb.os, hb.tape, hb.output, hb.size, fun k hk _ => hb.block k (by omega)⟩ (by cases v.ownBlock <;> simp)
theorem OwnS.shape {w : World} {B : Nat} {v : Value} {l : List (List UInt8)} (h : OwnS w B v l) : ∃ a c, v = .slice a l.length c := by
 obtain ⟨h1, h2⟩ := h
 rcases h2 with ⟨rfl, h0⟩ | ⟨g, cap, cur, rfl, _⟩
 ·exact ⟨none, 0, by rw [h0]⟩
 ·exact ⟨_, _, rfl⟩
theorem OwnS.up {w : World} {B C : Nat} {v : Value} {l : List (List UInt8)} (h : OwnS w B v l) (hC : C ≤ B) : OwnS w C v l := by
 obtain ⟨h1, h2⟩ := h
 refine ⟨h1, ?_⟩
 rcases h2 with h2 | ⟨g, cap, cur, e, hB, r⟩
 ·exact .inl h2
 ·exact .inr ⟨g, cap, cur, e, by omega, r⟩
theorem OwnS.cell {w : World} {B : Nat} {v : Value} {l : List (List UInt8)} (h : OwnS w B v l) {i : Nat} (hi : i < l.length) : ∃ g c, v = .slice (some ⟨g, 0, none⟩) l.length c ∧ B ≤ g ∧ l.length ≤ c ∧ g < w.heap.size ∧ w.cell? ⟨g, i, none⟩ = some (strV l[i]) := by
 have hrow : w.ownsRow B 9 1 v l.length (strsV l) := h
 obtain ⟨h1, h2⟩ := h
 rcases h2 with ⟨e, h0⟩ | ⟨g, cap, cur, rfl, hB, hg, hn, hc, _⟩
 ·omega
 ·have hcell := World.ownsRow.cells hrow (g := g) rfl i (strV l[i]) (by simp [strsV, hi])
  rw [show (⟨g, 0, none⟩ : Addr).add i = ⟨g, i, none⟩ by unfold Addr.add; split <;> simp_all] at hcell
  exact ⟨g, cap, rfl, hB, hn, (Array.getElem?_eq_some_iff.1 hg).1, hcell⟩
theorem run_at {l : List UInt8} {k : Nat} {c : UInt8} (W : World) (hk : k < l.length) (hc : (ByteArray.mk l.toArray)[k]'hk = c) : (Instr.index 9 (.string ⟨l.toArray⟩) (.int .i64 (k : Int))).run Tryz.prog W = .ok (.int .u8 (c.toNat : Int)) W := by
 rw [run_index_string W 9 _ .i64 _ Tryz.underlying9]
 rw [dif_pos ⟨by omega, by show (k : Int) < (l.toArray.size : Int); simp; exact hk⟩]
 simp only [Int.toNat_natCast]
 rw [hc]
end Go.Proofs.YtnlonkkbjkfkmaaGreatDoor
namespace Go.Proofs.YtnlonkkbjkfkmaaGreatDoor
open Go.RowKit
set_option linter.all false

def hexD (x : Nat) : UInt8 := if x < 10 then UInt8.ofNat (48 + x) else UInt8.ofNat (87 + x)
end Go.Proofs.YtnlonkkbjkfkmaaGreatDoor
namespace Go.Proofs.YtnlonkkbjkfkmaaGreatDoor
open Go.RowKit
set_option linter.all false

def ddL (m : Nat) : List UInt8 := if m = 0 then [] else Lib.decDigits m
def FmtAt (n m : Nat) (l : List UInt8) : Prop := ddL m ++ l = Lib.decDigits n
theorem FmtAt.start {n : Nat} (h : 0 < n) : FmtAt n n [] := by unfold FmtAt ddL; rw [if_neg (by omega)]; simp
theorem FmtAt.done {n : Nat} {l : List UInt8} (h : FmtAt n 0 l) : l = Lib.decDigits n := by unfold FmtAt ddL at h; simpa using h
theorem FmtAt.next {n m : Nat} {l : List UInt8} (h : FmtAt n m l) (hm : 0 < m) : FmtAt n (m / 10) (hexD (m % 10) :: l) := by
 have hd : hexD (m % 10) = UInt8.ofNat (48 + m % 10) := by unfold hexD; rw [if_pos (by omega)]
 unfold FmtAt ddL at h ⊢
 rw [if_neg (by omega)] at h
 rw [← h, hd]
 by_cases h10 : m < 10
 ·rw [if_pos (by omega), Lib.decDigits_one h10, Nat.mod_eq_of_lt h10]; rfl
 ·rw [if_neg (by omega)]
  conv => rhs; rw [Lib.decDigits, dif_neg h10]
  simp
theorem FmtAt.len {n m : Nat} {l : List UInt8} (h : FmtAt n m l) (hn : n ≤ 9223372036854775808) : l.length ≤ 20 := by
 have h2 : (Lib.decDigits n).length ≤ 20 := by rw [Lib.decDigits_length]; exact Lib.nDigits_le20 n (by omega)
 unfold FmtAt at h
 rw [← h, List.length_append] at h2
 omega
theorem conv_one (n : Nat) (hn : n < 256) (W : World) : (convert 22 9 (.slice (some ⟨W.heap.size, 0, none⟩) 1 1)).run Tryz.prog (W.alloc (.cells #[.int .u8 (n : Int)] 5)) = .ok (.string ⟨[UInt8.ofNat n].toArray⟩) (W.alloc (.cells #[.int .u8 (n : Int)] 5)) := by
 refine run_convert_bytes_back _ _ _ 5 ⟨W.heap.size, 0, none⟩ 1 [UInt8.ofNat n] Tryz.underlying22 Tryz.underlying5 Tryz.underlying9 fun j hj => ?_
 obtain rfl : j = 0 := by simpa using hj
 have := one_cell W (.int .u8 (n : Int)) 5 0 _ rfl
 rw [this]
 simp; omega
theorem cons_cat (c : UInt8) (l : List UInt8) : (ByteArray.mk [c].toArray) ++ (ByteArray.mk l.toArray) = ByteArray.mk (c :: l).toArray := by rw [ByteArray.mk_append_mk]; simp
end Go.Proofs.YtnlonkkbjkfkmaaGreatDoor
namespace Go.Proofs.YtnlonkkbjkfkmaaGreatDoor
open Go.RowKit
set_option linter.all false
def mkT (k : Nat) : List UInt8 := 109 :: Lib.decDigits k
def marksT (k : Nat) : Nat → List (List UInt8)
 | 0 => []
 | n + 1 => mkT k :: marksT (k + 1) n
theorem marksT_len (n : Nat) : ∀ k, (marksT k n).length = n := by
 induction n with
 | zero => intro k; rfl
 | succ n ih => intro k; simp [marksT, ih]
theorem marksT_at (n : Nat) : ∀ k j (h : j < (marksT k n).length), (marksT k n)[j] = mkT (k + j) := by
 induction n with
 | zero => intro k j h; simp [marksT] at h
 | succ n ih =>
  intro k j h
  match j with
  | 0 => simp [marksT]
  | j + 1 =>
   simp only [marksT, List.getElem_cons_succ]
   rw [ih]; congr 1; omega
set_option maxHeartbeats 1000000 in
theorem markText_any (K : Nat) (hK : 0 < K) (hK2 : K ≤ 9223372036854775807) (w : World) :
  Calls Tryz.prog 174 #[.int .i64 (K : Int)] w fun e w' => e = .returned (.string ⟨(mkT K).toArray⟩) ∧ Below w.heap.size w w' := by
 have z0 : decide ((K : Int) ≤ 0) = false := by simp; omega
 go_enter Tryz.func174, Tryz.ntmps174
 go_wp2_with (fail)
 go_loopw [0, 3] (fun v s wr => ∃ (m : Nat) (l : List UInt8), m ≤ K ∧ FmtAt K m l ∧ v = .int .i64 (m : Int) ∧ s = .string ⟨l.toArray⟩ ∧ Below w.heap.size w wr) (fun v _ _ => (intOf v).natAbs)
 case atStart => exact ⟨K, [], Nat.le_refl _, FmtAt.start hK, rfl, rfl, Below.refl _ _⟩
 case round =>
  obtain ⟨m, l, hm, hat, rfl, rfl, hbel⟩ := hrel
  have hB := hbel.size
  have hl := hat.len (by omega)
  by_cases hm0 : m = 0
  ·subst hm0
   have HD := Lib.hid hat.done
   clear hat
   go_wp2_with (fail)
   go_ret
   exact ⟨by unfold mkT; rw [← HD.out, ← cons_cat]; rfl, hbel⟩
  ·have hat2 := hat.next (by omega)
   obtain ⟨d, hd⟩ : ∃ d, d = m % 10 := ⟨_, rfl⟩
   obtain ⟨q, hq⟩ : ∃ q, q = m / 10 := ⟨_, rfl⟩
   rw [← hd, ← hq] at hat2
   have HN := Lib.hid hat2
   clear hat hat2
   have hd10 : d < 10 := by omega
   have hqm : q < m := by omega
   have e1 : (m : Int) % 10 = (d : Int) := by omega
   have e2 : (m : Int) / 10 = (q : Int) := by omega
   have zm : decide (0 < (m : Int)) = true := by simp; omega
   have hm9 : (m : Int) ≤ 9223372036854775807 := by omega
   have hxd : (hexD d).toNat = 48 + d := by unfold hexD; rw [if_pos hd10]; simp; omega
   have hcv := conv_one (hexD d).toNat (hexD d).toNat_lt
   rw [UInt8.ofNat_toNat, hxd] at hcv
   have hcv2 : ∀ W : World, (convert 22 9 (.slice (some ⟨W.heap.size, 0, none⟩) 1 1)).run Tryz.prog (W.alloc (.cells #[.int .u8 (48 + (d : Int))] 5)) = .ok (.string ⟨[hexD d].toArray⟩) (W.alloc (.cells #[.int .u8 (48 + (d : Int))] 5)) := fun W => by
    have := hcv W
    rw [show ((48 + d : Nat) : Int) = 48 + (d : Int) by omega] at this
    exact this
   have hw1 : IntKind.u8.wrap (48 + (d : Int)) = 48 + (d : Int) := by rw [IntKind.wrap_u8']; omega
   clear hd hq hm0 hcv hxd
   go_wp2_with (fail)
   go_roundw
   case rel => exact ⟨q, _, by omega, HN.out, by go_num, by rw [cons_cat], hbel.alloc hB _⟩
   case measure => simp [intOf]; omega
end Go.Proofs.YtnlonkkbjkfkmaaGreatDoor
