/-
  Texts of this proof: LstS, Level.
-/
import Derived.Test.YtnlonkkbjkfkmaaGreatDoorM05
import Derived.Deep.RegionHeld3
import Derived.Deep.RegionWith
import Derived.Test.YtnlonkkbjkfkmaaGreatDoorM00
import Derived.Lib.SmallJoins
import Derived.Deep.Strs
namespace Go.Proofs.YtnlonkkbjkfkmaaGreatDoor
open Go.RowKit
set_option linter.all false

def RdS (w : World) (v : Value) (ls : List (List UInt8)) : Prop :=
 ∃ a cap, v = .slice a ls.length cap ∧ (ls = [] ∨ ∃ b off, a = some ⟨b, off, none⟩ ∧ ∀ j (h : j < ls.length), w.cell? ⟨b, off + j, none⟩ = some (.string ⟨ls[j].toArray⟩))
def RowS (w : World) (b : Nat) (ls : List (List UInt8)) : Prop := (∀ j (h : j < ls.length), w.cell? ⟨b, j, none⟩ = some (.string ⟨ls[j].toArray⟩)) ∧ ∀ j, j < ls.length → w.frozen? ⟨b, j, none⟩ = false
def WrS (w : World) (B : Nat) (v : Value) (ls : List (List UInt8)) : Prop :=
 ∃ a cap, v = .slice a ls.length cap ∧ (ls = [] ∨ ∃ b, B ≤ b ∧ a = some ⟨b, 0, none⟩ ∧ RowS w b ls)
theorem WrS.rd {w : World} {B : Nat} {v : Value} {xs : List (List UInt8)} (h : WrS w B v xs) : RdS w v xs := by
 obtain ⟨a, cap, hv, h⟩ := h
 refine ⟨a, cap, hv, ?_⟩
 rcases h with h | ⟨b, hB, ha, hr⟩
 ·exact .inl h
 ·exact .inr ⟨b, 0, ha, fun j hj => by rw [Nat.zero_add]; exact hr.1 j hj⟩
theorem WrS.up {w : World} {B C : Nat} {v : Value} {xs : List (List UInt8)} (h : WrS w B v xs) (hC : C ≤ B) : WrS w C v xs := by
 obtain ⟨a, cap, hv, h⟩ := h
 refine ⟨a, cap, hv, ?_⟩
 rcases h with h | ⟨b, hB, ha, hr⟩
 ·exact .inl h
 ·exact .inr ⟨b, by omega, ha, hr⟩
theorem OwnS.wr {w : World} {B : Nat} {v : Value} {ls : List (List UInt8)} (h : OwnS w B v ls) : WrS w B v ls := by
 have hrow := h.row
 obtain ⟨h1, h2⟩ := hrow
 rcases h2 with ⟨rfl, h0⟩ | ⟨g, cap, cur, rfl, hB, hg, hn, hc, hsz, htk⟩
 ·exact ⟨none, 0, by rw [h0], .inl (List.eq_nil_of_length_eq_zero h0)⟩
 ·refine ⟨_, cap, rfl, .inr ⟨g, hB, rfl, fun j hj => ?_, fun j hj => ?_⟩⟩
  ·obtain ⟨g', c', e, _, _, _, hcell⟩ := h.cell hj
   simp only [Value.slice.injEq, Option.some.injEq, Addr.mk.injEq] at e
   obtain ⟨⟨rfl, -⟩, -⟩ := e
   exact hcell
  ·simp [World.frozen?, hg]
theorem OwnS.rd {w : World} {B : Nat} {v : Value} {ls : List (List UInt8)} (h : OwnS w B v ls) : RdS w v ls := h.wr.rd
theorem RdS.keep {w w' : World} {v : Value} {xs : List (List UInt8)} (h : RdS w v xs) (hb : Below w.heap.size w w') : RdS w' v xs := by
 obtain ⟨a, cap, hv, h⟩ := h
 refine ⟨a, cap, hv, ?_⟩
 rcases h with h | ⟨b, off, ha, hr⟩
 ·exact .inl h
 ·refine .inr ⟨b, off, ha, fun j hj => ?_⟩
  have := hr j hj
  rw [← this]
  exact hb.cell (World.block_lt_of_cell? w _ this)
theorem RowS.keep {w w' : World} {b : Nat} {xs : List (List UInt8)} (h : RowS w b xs) {C : Nat} (hb : Below C w w') (hC : b < C) : RowS w' b xs :=
 ⟨fun j hj => by rw [← h.1 j hj]; exact hb.cell hC, fun j hj => by rw [← h.2 j hj]; exact hb.frozen hC⟩
theorem RowS.lt {w : World} {b : Nat} {xs : List (List UInt8)} (h : RowS w b xs) (hx : xs ≠ []) : b < w.heap.size := by
 have : 0 < xs.length := List.length_pos_iff.2 hx
 exact World.block_lt_of_cell? w _ (h.1 0 this)
theorem WrS.keep {w w' : World} {B : Nat} {v : Value} {xs : List (List UInt8)} (h : WrS w B v xs) (hb : Below w.heap.size w w') : WrS w' B v xs := by
 obtain ⟨a, cap, hv, h⟩ := h
 refine ⟨a, cap, hv, ?_⟩
 by_cases hx : xs = []
 ·exact .inl hx
 rcases h with h | ⟨b, hB, ha, hr⟩
 ·exact .inl h
 ·exact .inr ⟨b, hB, ha, hr.keep hb (hr.lt hx)⟩
theorem WrS.far {w : World} {B : Nat} {v : Value} {xs : List (List UInt8)} (h : WrS w B v xs) {p : Addr} (hp : p.block < B) (u : Value) : WrS (w.setCell p u) B v xs := by
 obtain ⟨a, cap, hv, h⟩ := h
 refine ⟨a, cap, hv, ?_⟩
 rcases h with h | ⟨b, hB, ha, hr⟩
 ·exact .inl h
 ·refine .inr ⟨b, hB, ha, fun j hj => ?_, fun j hj => ?_⟩
  ·rw [World.cell?_setCell_other _ _ _ _ (by intro e; subst e; simp at hp; omega)]; exact hr.1 j hj
  ·rw [World.frozen?_setCell]; exact hr.2 j hj
theorem RowS.set {w : World} {b : Nat} {xs : List (List UInt8)} (h : RowS w b xs) (k : Nat) (hk : k < xs.length) (x : List UInt8) : RowS (w.setCell ⟨b, k, none⟩ (.string ⟨x.toArray⟩)) b (xs.set k x) := by
 refine ⟨fun j hj => ?_, fun j hj => ?_⟩
 ·rw [List.length_set] at hj
  by_cases e : k = j
  ·subst e
   rw [List.getElem_set_self]
   exact World.cell?_setCell_same _ _ _ (h.1 k hk)
  ·rw [List.getElem_set_ne e]
   rw [World.cell?_setCell_other _ _ _ _ (by simpa using e)]
   exact h.1 j hj
 ·rw [List.length_set] at hj
  rw [World.frozen?_setCell]; exact h.2 j hj
theorem RowS.zeros (w : World) (n : Nat) : RowS (w.alloc (.cells (madeCells #[.string ⟨#[]⟩] n) 9)) w.heap.size (List.replicate n []) := by
 refine ⟨fun j hj => ?_, fun j hj => ?_⟩
 ·rw [List.length_replicate] at hj
  rw [World.cell?_alloc_mark, List.getElem_replicate, ← Array.getElem?_toList, toList_madeCells_one, List.getElem?_replicate, if_pos hj]
 ·rw [World.frozen?_alloc_mark]; simp
theorem run_make_strs (W : World) (n : Nat) (hn : n ≤ 1099511627776) : (Instr.makeSlice 24 (.int .i64 (n : Int)) (.int .i64 (n : Int))).run Tryz.prog W = .ok (.slice (some ⟨W.heap.size, 0, none⟩) n n) (W.alloc (.cells (madeCells #[.string ⟨#[]⟩] n) 9)) := by
 obtain ⟨i0, hi, hz0, hz1, hz2⟩ := info_parts info_str
 have := run_make (P := Tryz.prog) W 24 9 i0 (.string ⟨#[]⟩) Tryz.underlying24 hi hz0 .i64 .i64 n n (by omega) (Int.le_refl _) (by rw [hz2]; omega) (by omega)
 rw [this, hz1, Nat.mul_one, Int.toNat_natCast]; rfl
set_option maxHeartbeats 400000 in
theorem eqStringS_same {w : World} {v v' : Value} {xs : List (List UInt8)} (h : RdS w v xs) (h' : RdS w v' xs) (hn : xs.length ≤ 1099511627776) :
  Calls Tryz.prog 97 #[v, v'] w fun e w' => e = .returned (.bool true) ∧ ∃ n, w' = w.drewN n := by
 obtain ⟨a, cap, rfl, h⟩ := h
 obtain ⟨a', cap', rfl, h'⟩ := h'
 by_cases hx : xs = []
 ·subst hx
  go_enter Tryz.func97, Tryz.ntmps97
  go_wp2
  refine wp_loop_once ?_
  go_wp2
  go_ret
  exact ⟨rfl, 0, rfl⟩
 ·obtain ⟨b, off, rfl, hc⟩ := h.resolve_left hx
  obtain ⟨b', off', rfl, hc'⟩ := h'.resolve_left hx
  go_enter Tryz.func97, Tryz.ntmps97
  go_wp2
  go_loopw [5] (fun i wr => ∃ k n : Nat, k ≤ xs.length ∧ i = .int .i64 k ∧ wr = w.drewN n) (fun i _ => xs.length - (intOf i).toNat)
  case atStart => exact ⟨0, 0, Nat.zero_le _, rfl, rfl⟩
  case round =>
   obtain ⟨k, n, hk, rfl, rfl⟩ := hrel
   by_cases hkl : k < xs.length
   ·obtain ⟨x, hx2⟩ : ∃ x, x = xs[k] := ⟨_, rfl⟩
    have c1 := hc k hkl
    have c2 := hc' k hkl
    rw [← hx2] at c1 c2
    have hl1 : (k : Int) < (xs.length : Int) := by omega
    clear h h' hx2
    go_wp2
    go_quiet (fail)
    go_wp2
    go_roundw
    case rel => exact ⟨k + 1, _, by omega, by go_num, rfl⟩
    case measure => simp [intOf]; omega
   ·go_wp2
    go_ret
    exact ⟨rfl, n, rfl⟩
set_option maxHeartbeats 1000000 in
theorem heldStringS_any {w : World} {v : Value} (n : Nat) (k0 : Nat) (h : RdS w v (marksT k0 n)) (hn : n ≤ 1099511627776) (h0 : 0 < k0) (h1 : k0 ≤ 1099511627776) :
  Calls Tryz.prog 164 #[v, .int .i64 (k0 : Int)] w fun e w' => e = .returned (.int .i64 ((k0 + n : Nat) : Int)) ∧ Below w.heap.size w w' := by
 obtain ⟨a, cap, rfl, h⟩ := h
 rw [marksT_len]
 match n, hn, h with
 | 0, hn, h =>
  go_enter Tryz.func164, Tryz.ntmps164
  go_wp2
  refine wp_loop_once ?_
  go_wp2
  go_ret
  exact ⟨ret_int (by simp), Below.refl _ _⟩
 | m + 1, hn, h =>
  obtain ⟨b, off, rfl, hc⟩ := h.resolve_left (by simp [marksT])
  have hc' : ∀ j, j < m + 1 → w.cell? ⟨b, off + j, none⟩ = some (.string ⟨(mkT (k0 + j)).toArray⟩) := fun j hj => by rw [hc j (by rw [marksT_len]; exact hj), marksT_at]
  have hblt := World.block_lt_of_cell? w _ (hc' 0 (by omega))
  clear hc h
  have HC := Lib.hid hc'; clear hc'
  go_enter Tryz.func164, Tryz.ntmps164
  go_wp2_with (fail)
  go_loopw [1, 5] (fun x i wr => ∃ k : Nat, k ≤ m + 1 ∧ i = .int .i64 (k : Int) ∧ x = .int .i64 ((k0 + k : Nat) : Int) ∧ Below w.heap.size w wr) (fun _ i _ => m + 1 - (intOf i).toNat)
  case atStart => exact ⟨0, Nat.zero_le _, rfl, by simp, Below.refl _ _⟩
  case round =>
   obtain ⟨k, hk, rfl, rfl, hbel⟩ := hrel
   have hs := hbel.size
   by_cases hkl : k < m + 1
   ·have c1 := (hbel.cell (p := ⟨b, off + k, none⟩) hblt).trans (HC.out k hkl)
    obtain ⟨K, hK⟩ : ∃ K, K = k0 + k := ⟨_, rfl⟩
    rw [← hK] at c1 ⊢
    have HK := Lib.hid hK
    have hK1 : 0 < K := by omega
    have hK2 : K ≤ 2199023255552 := by omega
    have hkc : (K : Int) ≤ 2199023255552 := by omega
    have hkm : (k : Int) < (m : Int) + 1 := by omega
    have hT := fun W => markText_any K hK1 (by omega) W
    generalize mkT K = T at c1 hT
    clear hK
    go_wp2_with (fail)
    go_region_held3 (fun w' => w'.cell? ⟨b, off + k, none⟩ = some (.string ⟨T.toArray⟩)) (first | go_keep | (exact c2) | assumption)
     (first | (go_at_call 174; refine (hT _).mono ?_; rintro e w1 ⟨rfl, hb1⟩; have c2 := (hb1.cell (p := ⟨b, off + k, none⟩) (by simp; omega)).trans c1; have hbel1 := (hbel.drew).trans (hb1.mono (by simp; omega))))
    go_wp2_with (fail)
    go_roundw
    case rel => exact ⟨k + 1, by omega, by go_num, by have := HK.out; congr 1; omega, hbel1⟩
    case measure => simp [intOf]; omega
   ·have ek : k = m + 1 := by omega
    subst ek
    go_wp2_with (fail)
    go_ret
    exact ⟨rfl, hbel⟩
end Go.Proofs.YtnlonkkbjkfkmaaGreatDoor
namespace Go.Proofs.YtnlonkkbjkfkmaaGreatDoor
open Go.RowKit Go.Joins Go.ChangeShapes Go.WideShapes Go.Deep
set_option linter.all false
def totalS (ls : List (List UInt8)) : Nat := (ls.map List.length).sum
theorem totalS_snoc (ls : List (List UInt8)) (k : Nat) (hk : k < ls.length) : totalS (ls.take (k + 1)) = totalS (ls.take k) + ls[k].length := by
 unfold totalS; rw [List.take_succ_eq_append_getElem hk, List.map_append, List.sum_append]; simp
def Sane (ls : List (List UInt8)) : Prop := ls.length ≤ 9223372036854775807 ∧ ∀ s ∈ ls, s.length ≤ 9223372036854775807
def SzPost (left : Int) (n t : Nat) (w : World) (e : Ending) (w' : World) : Prop := ∃ r : Int, e = .returned (.int .i64 r) ∧ (r = -1 ∨ (0 ≤ r ∧ r = left - n - t)) ∧ w = w'
set_option maxHeartbeats 1000000 in
theorem szStringS_any {w : World} {v : Value} {ls : List (List UInt8)} (h : RdS w v ls) (hs : Sane ls) (left : Int) (hl0 : 0 ≤ left) (hl1 : left ≤ 1048576) :
  Calls Tryz.prog 86 #[v, .int .i64 left] w (SzPost left ls.length (totalS ls) w) := by
 obtain ⟨a, cap, rfl, h⟩ := h
 obtain ⟨hs1, hs2⟩ := hs
 have hlc : (ls.length : Int) ≤ 9223372036854775807 := by omega
 by_cases hneg : left - (ls.length : Int) < 0
 ·have z1 : decide (left - (ls.length : Int) < 0) = true := by simpa using hneg
  go_enter Tryz.func86, Tryz.ntmps86
  go_wp2_with (fail)
  go_ret
  exact ⟨-1, rfl, .inl rfl, rfl⟩
 ·have z1 : decide (left - (ls.length : Int) < 0) = false := by simpa using hneg
  have hn20 : ls.length ≤ 1048576 := by omega
  go_enter Tryz.func86, Tryz.ntmps86
  go_wp2_with (fail)
  go_loop [1, 5] (fun x i => ∃ (k : Nat) (r : Int), k ≤ ls.length ∧ i = .int .i64 (k : Int) ∧ x = .int .i64 r ∧ 0 ≤ r ∧ r = left - (ls.length : Int) - (totalS (ls.take k) : Int)) (fun _ i => ls.length - (intOf i).toNat)
  case atStart => exact ⟨0, left - (ls.length : Int), Nat.zero_le _, rfl, rfl, by omega, by simp [totalS]⟩
  case round =>
   obtain ⟨k, r, hk, rfl, rfl, hr0, hr⟩ := hrel
   have hr1 : r ≤ 1048576 := by omega
   by_cases hkl : k < ls.length
   ·obtain ⟨b, off, rfl, hc⟩ := h.resolve_left (by intro e; rw [e] at hkl; simp at hkl)
    have hsn := totalS_snoc ls k hkl
    have c1 := hc k hkl
    have hx3 := hs2 ls[k] (List.getElem_mem _)
    obtain ⟨x, hx⟩ : ∃ x, x = ls[k] := ⟨_, rfl⟩
    rw [← hx] at c1 hx3 hsn
    have hxc : (x.length : Int) ≤ 9223372036854775807 := by omega
    have hkk : (k : Int) < (ls.length : Int) := by omega
    have HR := Lib.hid hr
    have HN := Lib.hid hsn
    clear hc h hx hr hsn hneg
    by_cases hm : r - (x.length : Int) < 0
    ·have z2 : decide (r - (x.length : Int) < 0) = true := by simpa using hm
     go_wp2_with (fail)
     go_ret
     exact ⟨-1, rfl, .inl rfl, rfl⟩
    ·have z2 : decide (r - (x.length : Int) < 0) = false := by simpa using hm
     go_wp2_with (fail)
     go_round
     case rel => exact ⟨k + 1, r - (x.length : Int), by omega, by go_num, rfl, by omega, by have := HR.out; have := HN.out; omega⟩
     case measure => simp [intOf]; omega
   ·have e : k = ls.length := by omega
    subst e
    rw [List.take_of_length_le (Nat.le_refl _)] at hr
    have HR := Lib.hid hr
    clear hr
    go_wp2_with (fail)
    go_ret
    exact ⟨r, rfl, .inr ⟨hr0, HR.out⟩, rfl⟩
def SzBelow (left : Int) (n t : Nat) (w : World) (e : Ending) (w' : World) : Prop := ∃ r : Int, e = .returned (.int .i64 r) ∧ (r = -1 ∨ (0 ≤ r ∧ r = left - n - t)) ∧ Below w.heap.size w w'
set_option maxHeartbeats 1000000 in
theorem szLevel_any {w : World} {v : Value} {ls : List (List UInt8)} (h : RdS w v ls) (hs : Sane ls) (left : Int) (hl0 : 0 ≤ left) (hl1 : left ≤ 1048576) :
  Calls Tryz.prog 32 #[.agg #[v], .int .i64 left] w (SzBelow left ls.length (totalS ls) w) := by
 have hk := h.keep ((Below.refl _ _).alloc (Nat.le_refl _) (.cells #[v] 43))
 have hS := szStringS_any hk hs left hl0 hl1
 obtain ⟨a, cap, rfl, _⟩ := h
 go_enter Tryz.func32, Tryz.ntmps32
 go_wp2_with (fail)
 refine hS.mono ?_
 rintro e w1 ⟨r, rfl, hr, rfl⟩
 rcases hr with rfl | ⟨hr0, hr1⟩
 ·go_wp2_with (fail)
  go_ret
  exact ⟨-1, rfl, .inl rfl, (Below.refl _ _).alloc (Nat.le_refl _) _⟩
 ·have z1 : decide (r < 0) = false := by simpa using hr0
  have HR := Lib.hid hr1
  clear hr1
  go_wp2_with (fail)
  go_ret
  exact ⟨r, rfl, .inr ⟨hr0, HR.out⟩, (Below.refl _ _).alloc (Nat.le_refl _) _⟩
set_option maxHeartbeats 1000000 in
theorem eqLevel_same {w : World} {v v' : Value} {xs : List (List UInt8)} (h : RdS w v xs) (h' : RdS w v' xs) (hn : xs.length ≤ 1099511627776) :
  Calls Tryz.prog 37 #[.agg #[v], .agg #[v']] w fun e w' => e = .returned (.bool true) ∧ Below w.heap.size w w' := by
 obtain ⟨a, cap, rfl, h0⟩ := id h
 obtain ⟨a', cap', rfl, h0'⟩ := id h'
 have hb : Below w.heap.size w ((w.alloc (.cells #[.slice a xs.length cap] 26)).alloc (.cells #[.slice a' xs.length cap'] 26)) := ((Below.refl _ _).alloc (Nat.le_refl _) _).alloc (by simp) _
 go_enter Tryz.func37, Tryz.ntmps37
 go_wp2_with (fail)
 refine (eqStringS_same (h.keep hb) (h'.keep hb) hn).mono ?_
 rintro e w1 ⟨rfl, n, rfl⟩
 go_wp2_with (fail)
 go_ret
 exact ⟨rfl, hb.trans ⟨rfl, rfl, rfl, Nat.le_refl _, fun _ _ => rfl⟩⟩
end Go.Proofs.YtnlonkkbjkfkmaaGreatDoor
