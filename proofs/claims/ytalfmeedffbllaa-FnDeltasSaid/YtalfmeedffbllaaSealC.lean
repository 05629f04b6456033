/-
  Contracts of OpenText. Strings of at most 2^46 bytes.
-/
import Derived.Test.YtalfmeedffbllaaSealB
import Derived.Deep.RegionWith
import Derived.Stop.BytesEq
import Derived.Laws.Cover3
namespace Go.Proofs.Ytalfmeedffbllaa
open Go.RowKit
open Go.Extern.Stop (cell)
set_option linter.all false

theorem sealC_cells (n : Nat) : sealC n = ((seal4 n).map cell).toArray := by
  apply Array.ext
  · rfl
  · intro i h1 h2
    have hi : i < (seal4 n).length := by simpa using h2
    have := seal4_cell n i hi
    rw [Array.getElem?_eq_getElem h1] at this
    simp only [Option.some.injEq] at this
    rw [this]; simp [cell]
theorem size_of1 : ∀ w, (sizeOf 5).run Try.prog w = .ok 1 w := fun w => by kernel_rfl
/-- The seal's test: two arrays of four bytes. -/
theorem run_neq_seal (W : World) (xs : List UInt8) (n : Nat) (hx : xs.length = 4) :
    (Op.equalIn 10000 53 (.agg (xs.map cell).toArray) (.agg (sealC n))).run Try.prog W = .ok (xs == seal4 n) W := by
  rw [sealC_cells, run_equalIn_bytes W 9998 53 5 4 Try.underlying53 Try.underlying5 size_of1 xs (seal4 n) hx (seal4_len n)]
theorem four_of {l : List UInt8} (h : ¬ l.length < 4) : ∃ a b c d r, l = a :: b :: c :: d :: r := by
  match l, h with
  | a :: b :: c :: d :: r, _ => exact ⟨a, b, c, d, r, rfl⟩
  | [], h => simp at h
  | [_], h => simp at h
  | [_, _], h => simp at h
  | [_, _, _], h => simp at h
def openL (l : List UInt8) : Option (List UInt8) := if 4 ≤ l.length ∧ l.take 4 = seal4 (chk (l.drop 4)) then some (l.drop 4) else none
theorem openL_no {l : List UInt8} (h : l.length < 4) : openL l = none := by unfold openL; rw [if_neg (by omega)]
theorem openL_yes {a b c d : UInt8} {r : List UInt8} (h : [a, b, c, d] = seal4 (chk r)) : openL (a :: b :: c :: d :: r) = some r := by
  unfold openL; rw [if_pos ⟨by simp, by simpa using h⟩]; rfl
theorem openL_bad {a b c d : UInt8} {r : List UInt8} (h : ¬ [a, b, c, d] = seal4 (chk r)) : openL (a :: b :: c :: d :: r) = none := by
  unfold openL; rw [if_neg]; rintro ⟨_, h2⟩; exact h (by simpa using h2)
theorem extract_from (l : List UInt8) (k : Nat) : ByteArray.extract ⟨l.toArray⟩ k l.length = ⟨(l.drop k).toArray⟩ := by
  rw [ByteArray.extract_mk, List.take_of_length_le (by simp)]
theorem extract_to (l : List UInt8) (k : Nat) : ByteArray.extract ⟨l.toArray⟩ 0 k = ⟨(l.take k).toArray⟩ := by
  rw [ByteArray.extract_mk]; simp
def retOpt (o : Option (List UInt8)) : Value := .tuple #[.string ⟨(o.getD []).toArray⟩, .bool o.isSome]
set_option maxHeartbeats 400000 in
theorem openText_impl (l : List UInt8) (w : World) (hs : l.length ≤ 70368744177664) :
    Calls Try.prog 19 #[.string ⟨l.toArray⟩] w fun e w' => e = .returned (retOpt (openL l)) ∧ Below w.heap.size w w' := by
  by_cases h4 : l.length < 4
  · have hf := Lib.hid (openL_no h4)
    go_enter Try.func19, Try.ntmps19
    go_wp2_with (fail)
    go_ret2
    exact ⟨by rw [hf.out]; rfl, Below.refl _ _⟩
  · obtain ⟨a, b, c, d, r, rfl⟩ := four_of h4
    have hx1 : ByteArray.extract ⟨(a :: b :: c :: d :: r).toArray⟩ 4 (r.length + 1 + 1 + 1 + 1) = ⟨r.toArray⟩ := extract_from (a :: b :: c :: d :: r) 4
    have hx2 : ByteArray.extract ⟨(a :: b :: c :: d :: r).toArray⟩ 0 4 = ⟨[a, b, c, d].toArray⟩ := extract_to (a :: b :: c :: d :: r) 4
    have hdl : r.length ≤ 70368744177664 := by simp at hs; omega
    have hcv := fun W => run_bytes_of_string (P := Try.prog) W 9 22 5 ⟨[a, b, c, d].toArray⟩ Try.underlying9 Try.underlying22 Try.underlying5
    have hat := fun W (p : Addr) c => run_arrayAt (P := Try.prog) W 53 5 4 (some p) 4 c Try.underlying53 (Nat.le_refl _)
    have hne : ∀ W, (Op.equalIn 10000 53 (.agg #[.int .u8 (a.toNat : Int), .int .u8 (b.toNat : Int), .int .u8 (c.toNat : Int), .int .u8 (d.toNat : Int)]) (.agg (sealC (chk r)))).run Try.prog W = .ok ([a, b, c, d] == seal4 (chk r)) W := fun W => run_neq_seal W [a, b, c, d] (chk r) rfl
    have hc0 : ∀ (W : World) (k : Nat) (t : TypeId) (fr : Nat × Nat), (W.alloc (.cells (bytesRow ⟨[a, b, c, d].toArray⟩ k) t fr)).cell? ⟨W.heap.size, 0, none⟩ = some (.int .u8 (a.toNat : Int)) := fun W k t fr => by rw [World.cell?_alloc_mark]; exact bytesRow_at _ k 0 (by simp)
    have hc1 : ∀ (W : World) (k : Nat) (t : TypeId) (fr : Nat × Nat), (W.alloc (.cells (bytesRow ⟨[a, b, c, d].toArray⟩ k) t fr)).cell? ⟨W.heap.size, 1, none⟩ = some (.int .u8 (b.toNat : Int)) := fun W k t fr => by rw [World.cell?_alloc_mark]; exact bytesRow_at _ k 1 (by simp)
    have hc2 : ∀ (W : World) (k : Nat) (t : TypeId) (fr : Nat × Nat), (W.alloc (.cells (bytesRow ⟨[a, b, c, d].toArray⟩ k) t fr)).cell? ⟨W.heap.size, 2, none⟩ = some (.int .u8 (c.toNat : Int)) := fun W k t fr => by rw [World.cell?_alloc_mark]; exact bytesRow_at _ k 2 (by simp)
    have hc3 : ∀ (W : World) (k : Nat) (t : TypeId) (fr : Nat × Nat), (W.alloc (.cells (bytesRow ⟨[a, b, c, d].toArray⟩ k) t fr)).cell? ⟨W.heap.size, 3, none⟩ = some (.int .u8 (d.toNat : Int)) := fun W k t fr => by rw [World.cell?_alloc_mark]; exact bytesRow_at _ k 3 (by simp)
    have he0 : ∀ (W : World) (k : Nat) (t : TypeId) (fr : Nat × Nat) (o : Obj), ((W.alloc (.cells (bytesRow ⟨[a, b, c, d].toArray⟩ k) t fr)).alloc o).cell? ⟨W.heap.size, 0, none⟩ = some (.int .u8 (a.toNat : Int)) := fun W k t fr o => by rw [World.cell?_alloc_old _ _ _ (by simp)]; exact hc0 W k t fr
    have hd0 : ∀ (W : World) (k : Nat) (t : TypeId) (fr : Nat × Nat) (o : Obj), ((W.alloc o).alloc (.cells (bytesRow ⟨[a, b, c, d].toArray⟩ k) t fr)).cell? ⟨W.heap.size + 1, 0, none⟩ = some (.int .u8 (a.toNat : Int)) := fun W k t fr o => by have := hc0 (W.alloc o) k t fr; simpa using this
    have he1 : ∀ (W : World) (k : Nat) (t : TypeId) (fr : Nat × Nat) (o : Obj), ((W.alloc (.cells (bytesRow ⟨[a, b, c, d].toArray⟩ k) t fr)).alloc o).cell? ⟨W.heap.size, 1, none⟩ = some (.int .u8 (b.toNat : Int)) := fun W k t fr o => by rw [World.cell?_alloc_old _ _ _ (by simp)]; exact hc1 W k t fr
    have hd1 : ∀ (W : World) (k : Nat) (t : TypeId) (fr : Nat × Nat) (o : Obj), ((W.alloc o).alloc (.cells (bytesRow ⟨[a, b, c, d].toArray⟩ k) t fr)).cell? ⟨W.heap.size + 1, 1, none⟩ = some (.int .u8 (b.toNat : Int)) := fun W k t fr o => by have := hc1 (W.alloc o) k t fr; simpa using this
    have he2 : ∀ (W : World) (k : Nat) (t : TypeId) (fr : Nat × Nat) (o : Obj), ((W.alloc (.cells (bytesRow ⟨[a, b, c, d].toArray⟩ k) t fr)).alloc o).cell? ⟨W.heap.size, 2, none⟩ = some (.int .u8 (c.toNat : Int)) := fun W k t fr o => by rw [World.cell?_alloc_old _ _ _ (by simp)]; exact hc2 W k t fr
    have hd2 : ∀ (W : World) (k : Nat) (t : TypeId) (fr : Nat × Nat) (o : Obj), ((W.alloc o).alloc (.cells (bytesRow ⟨[a, b, c, d].toArray⟩ k) t fr)).cell? ⟨W.heap.size + 1, 2, none⟩ = some (.int .u8 (c.toNat : Int)) := fun W k t fr o => by have := hc2 (W.alloc o) k t fr; simpa using this
    have he3 : ∀ (W : World) (k : Nat) (t : TypeId) (fr : Nat × Nat) (o : Obj), ((W.alloc (.cells (bytesRow ⟨[a, b, c, d].toArray⟩ k) t fr)).alloc o).cell? ⟨W.heap.size, 3, none⟩ = some (.int .u8 (d.toNat : Int)) := fun W k t fr o => by rw [World.cell?_alloc_old _ _ _ (by simp)]; exact hc3 W k t fr
    have hd3 : ∀ (W : World) (k : Nat) (t : TypeId) (fr : Nat × Nat) (o : Obj), ((W.alloc o).alloc (.cells (bytesRow ⟨[a, b, c, d].toArray⟩ k) t fr)).cell? ⟨W.heap.size + 1, 3, none⟩ = some (.int .u8 (d.toNat : Int)) := fun W k t fr o => by have := hc3 (W.alloc o) k t fr; simpa using this
    clear hs
    by_cases heq : [a, b, c, d] = seal4 (chk r)
    · have hq : ([a, b, c, d] == seal4 (chk r)) = true := by rw [heq]; simp
      have hf := Lib.hid (openL_yes heq)
      clear heq
      go_enter Try.func19, Try.ntmps19
      go_wp2_with (fail)
      go_region_with (go_at_call 37; refine (sealOf_impl _ _ hdl).mono ?_; rintro e w1 ⟨rfl, rfl⟩)
      all_goals
        go_wp2_with (fail)
        go_ret2
        exact ⟨by rw [hf.out]; rfl, ((((Below.refl _ _).alloc (Nat.le_refl _) _).alloc (by simp) _).drew).drew⟩
    · have hq : ([a, b, c, d] == seal4 (chk r)) = false := by simpa using heq
      have hf := Lib.hid (openL_bad heq)
      clear heq
      go_enter Try.func19, Try.ntmps19
      go_wp2_with (fail)
      go_region_with (go_at_call 37; refine (sealOf_impl _ _ hdl).mono ?_; rintro e w1 ⟨rfl, rfl⟩)
      all_goals
        go_wp2_with (fail)
        go_ret2
        exact ⟨by rw [hf.out]; rfl, ((((Below.refl _ _).alloc (Nat.le_refl _) _).alloc (by simp) _).drew).drew⟩
end Go.Proofs.Ytalfmeedffbllaa
