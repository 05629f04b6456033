/-
  Rows of one number again and again; slices of a row of ints from below and from above. No condition.
-/
import Derived.Test.YtgbdpmaajihfdaaLst
import Derived.Test.YtgbdpmaajihfdaaAppI
import Derived.Test.YtgbdpmaajihfdaaHeap
import Derived.Laws.CopyOwn
import Derived.Deep.RegionLaw
namespace Go.Proofs.Ytgbdpmaajihfdaa
open Go.RowKit
set_option linter.all false
theorem heap_new_int (w : World) (o : Obj) : (w.alloc o).heap[w.heap.size]? = some o := heap_alloc_new w o
def repL (e : Int) (c n : Nat) : List Value := List.replicate n (.int .i64 e) ++ List.replicate (c - n) (.int .i64 0)
theorem repL_len (e : Int) {c n : Nat} (h : n ≤ c) : (repL e c n).length = c := by unfold repL; simp; omega
theorem repL_at (e : Int) {c n j : Nat} (h : j < n) : (repL e c n)[j]? = some (.int .i64 e) := by
  unfold repL; rw [List.getElem?_append_left (by simpa using h)]; simp [h]
theorem repL_splice (e : Int) {c n k : Nat} (h : n + k ≤ c) : splice (repL e c n) n (List.replicate k (.int .i64 e)) = repL e c (n + k) := by
  unfold splice repL
  rw [List.take_left' (by simp), List.length_replicate, List.drop_append]
  simp only [List.length_replicate, List.drop_replicate]
  rw [show n - (n + k) = 0 by omega, show c - n - (n + k - n) = c - (n + k) by omega]
  simp [← List.append_assoc]
theorem rdI_rep {W : World} {g c : Nat} (e : Int) (h : W.heap[g]? = some (.cells (repL e c c).toArray 3 (0, 0))) : RdI W (.slice (some ⟨g, 0, none⟩) c c) (List.replicate c e) := by
  refine ⟨_, c, by simp, .inr ⟨g, 0, rfl, fun j hj => ?_⟩⟩
  rw [Nat.zero_add, Lib.cell_of_heap h]
  rw [List.length_replicate] at hj
  simp [repL_at e hj]
theorem zerosL (e : Int) (c : Nat) : (madeCells #[Value.int .i64 0] c) = (repL e c 0).toArray := by
  unfold repL
  apply Array.ext
  · simp [madeCells]
  · intro i h1 h2
    simp [madeCells, Nat.mod_one]
theorem size_int1 : (Try.prog.info? 3).map (·.size) = some 1 := by kernel_rfl
theorem slice_low (W : World) (b off n cap k : Nat) (hk : k ≤ n) (hc : n ≤ cap) : (Instr.slice 27 (.slice (some ⟨b, off, none⟩) n cap) none (some (.int .i64 (k : Int))) none).run Try.prog W = .ok (.slice (some ⟨b, off, none⟩) k cap) W := by
  obtain ⟨i0, hi, hz0, hz1, hz2⟩ := info_parts info_int
  have he : Try.prog.elem 27 = 3 := by kernel_rfl
  have hu : Try.prog.underlying 27 = some (.slice (Try.prog.elem 27)) := by rw [he]; exact Try.underlying27
  have hsz : (sizeOf (Try.prog.elem 27)).run Try.prog W = .ok 1 W := by
    rw [he]; simp [sizeOf, typeInfo, hi, hz1]
  have := run_slice_h (P := Try.prog) (w := W) 27 (some ⟨b, off, none⟩) n cap hu .i64 (k : Int) (by omega) (by omega)
  rw [this, hsz]
  simp only [Result.andThen, sliced, Int.toNat_natCast, Nat.mul_one]
  split
  · simp [Addr.add]
  · simp [Addr.add]
theorem slice_up (W : World) (b off n cap k : Nat) (hk : k < n) (hc : n ≤ cap) : (Instr.slice 27 (.slice (some ⟨b, off, none⟩) n cap) (some (.int .i64 (k : Int))) none none).run Try.prog W = .ok (.slice (some ⟨b, off + k, none⟩) (n - k) (cap - k)) W := by
  obtain ⟨i0, hi, hz0, hz1, hz2⟩ := info_parts info_int
  have he : Try.prog.elem 27 = 3 := by kernel_rfl
  have hu : Try.prog.underlying 27 = some (.slice (Try.prog.elem 27)) := by rw [he]; exact Try.underlying27
  have hsz : (sizeOf (Try.prog.elem 27)).run Try.prog W = .ok 1 W := by
    rw [he]; simp [sizeOf, typeInfo, hi, hz1]
  have := run_slice_l (P := Try.prog) (w := W) 27 (some ⟨b, off, none⟩) n cap hu .i64 (k : Int) (by omega) (by omega)
  rw [this, hsz]
  simp only [Result.andThen, sliced, Int.toNat_natCast, Nat.mul_one]
  rw [if_neg (by omega)]
  simp [Addr.add]
end Go.Proofs.Ytgbdpmaajihfdaa
