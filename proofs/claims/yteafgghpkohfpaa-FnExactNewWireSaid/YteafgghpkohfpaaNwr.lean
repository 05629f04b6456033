/-
  NewWire of the program and of the model. No condition.
-/
import Derived.Test.YteafgghpkohfpaaWok
import Derived.Test.YteafgghpkohfpaaMkF
namespace Go.Proofs.Yteafgghpkohfpaa
open Go.RowKit
set_option linter.all false
def nwX (s d j a b c : Int) : Wi := ⟨s, d, j, a, b, c, 0, [], 0, 0⟩
def nwB (s d j a b c : Int) : Bool := wireB (nwX s d j a b c)
/-- What NewWire returns. -/
def nwR (s d j a b c : Int) : Wi := if nwB s d j a b c = true then nwX s d j a b c else ⟨0, 0, 0, 0, 0, 0, 0, [], 0, 0⟩
theorem nwX_sane {s d j a b c : Int} : (nwX s d j a b c).sane := ⟨by simp [nwX], by simp [nwX]⟩
theorem nwR_fls (s d j a b c : Int) : (nwR s d j a b c).fls = [] := by unfold nwR; split <;> rfl
theorem RdFl.nil (W : World) : RdFl W (.slice none 0 0) [] := ⟨none, 0, rfl, .inl rfl⟩
def RetNw (w : World) (s d j a b c : Int) (e : Ending) (w' : World) : Prop := e = .returned (.tuple #[.agg (wiC (nwR s d j a b c) (.slice none 0 0)), .bool (nwB s d j a b c)]) ∧ Below w.heap.size w w'
set_option maxRecDepth 100000 in
set_option maxHeartbeats 2000000 in
theorem newWire_impl (s d j a b c : Int) (w : World) : Calls Try.prog 33 #[.int .i64 s, .int .i64 d, .int .i64 j, .int .i64 a, .int .i64 b, .int .i64 c] w (RetNw w s d j a b c) := by
  have P1 := fun {W : World} => wireOk_impl (x := nwX s d j a b c) (RdFl.nil W) nwX_sane
  unfold wiC nwX at P1
  dsimp only at P1
  rw [show wireB ⟨s, d, j, a, b, c, 0, [], 0, 0⟩ = nwB s d j a b c from rfl] at P1
  go_enter Try.func33, Try.ntmps33
  go_wp2_with (fail)
  obtain ⟨W0, hW, hR, hX, hB0, hS0⟩ := rows2 w #[.int .i64 0, .int .i64 0, .int .i64 0, .int .i64 0, .int .i64 0, .int .i64 0, .int .i64 0, .slice none 0 0, .int .i64 0, .int .i64 0] #[.int .i64 s, .int .i64 d, .int .i64 j, .int .i64 a, .int .i64 b, .int .i64 c, .int .i64 0, .slice none 0 0, .int .i64 0, .int .i64 0] 50 50
  rw [hW]
  clear hW
  refine P1.mono ?_
  rintro e w1 ⟨rfl, hb1⟩
  have hR1 := keepHeap hb1 hR
  have hX1 := keepHeap hb1 hX
  have hb01 := hB0.trans (hb1.mono hB0.size)
  have cX1 := rowCells hX1
  have cR1 := rowCells hR1
  have fR1 := fun j => frozenHeap hR1 j
  clear hR hX hb1
  cases q : nwB s d j a b c with
  | false =>
    have Q := Lib.hid q
    have HR : Hid (nwR s d j a b c = ⟨0, 0, 0, 0, 0, 0, 0, [], 0, 0⟩) := Lib.hid (by unfold nwR; rw [q]; rfl)
    clear q
    go_wp2_with (fail)
    have hP := putWi_heap hR1 rfl ⟨0, 0, 0, 0, 0, 0, 0, [], 0, 0⟩ (.slice none 0 0)
    have hbP := putWi_below hb01 (c := w.heap.size) (Nat.le_refl _) ⟨0, 0, 0, 0, 0, 0, 0, [], 0, 0⟩ (.slice none 0 0)
    unfold putWi at hP hbP
    have hL := load_wi hP rfl
    refine bodyPost_ret (v := .tuple #[.agg (wiC ⟨0, 0, 0, 0, 0, 0, 0, [], 0, 0⟩ (.slice none 0 0)), .bool false]) (results_two rfl _ _ _ _ _ rfl rfl hL) rfl ⟨?_, hbP⟩
    rw [Q.out, HR.out]
  | true =>
    have Q := Lib.hid q
    have HR : Hid (nwR s d j a b c = nwX s d j a b c) := Lib.hid (by unfold nwR; rw [q]; rfl)
    clear q
    go_wp2_with (fail)
    have hP := putWi_heap hR1 rfl (nwX s d j a b c) (.slice none 0 0)
    have hbP := putWi_below hb01 (c := w.heap.size) (Nat.le_refl _) (nwX s d j a b c) (.slice none 0 0)
    unfold putWi at hP hbP
    have hL := load_wi hP rfl
    refine bodyPost_ret (v := .tuple #[.agg (wiC (nwX s d j a b c) (.slice none 0 0)), .bool true]) (results_two rfl _ _ _ _ _ rfl rfl hL) rfl ⟨?_, hbP⟩
    rw [Q.out, HR.out]
set_option maxRecDepth 100000 in
set_option maxHeartbeats 2000000 in
theorem newWire_spec (s d j a b c : Int) (w : World) : Calls Try.prog 32 #[.int .i64 s, .int .i64 d, .int .i64 j, .int .i64 a, .int .i64 b, .int .i64 c] w (RetNw w s d j a b c) := by
  have P1 := fun {W : World} => wireOk_spec (x := nwX s d j a b c) (RdFl.nil W) nwX_sane
  unfold wiC nwX at P1
  dsimp only at P1
  rw [show wireB ⟨s, d, j, a, b, c, 0, [], 0, 0⟩ = nwB s d j a b c from rfl] at P1
  go_enter Try.func32, Try.ntmps32
  go_wp2_with (fail)
  obtain ⟨W0, hW, hR, hX, hB0, hS0⟩ := rows2 w #[.int .i64 0, .int .i64 0, .int .i64 0, .int .i64 0, .int .i64 0, .int .i64 0, .int .i64 0, .slice none 0 0, .int .i64 0, .int .i64 0] #[.int .i64 s, .int .i64 d, .int .i64 j, .int .i64 a, .int .i64 b, .int .i64 c, .int .i64 0, .slice none 0 0, .int .i64 0, .int .i64 0] 50 50
  rw [hW]
  clear hW
  refine P1.mono ?_
  rintro e w1 ⟨rfl, hb1⟩
  have hR1 := keepHeap hb1 hR
  have hX1 := keepHeap hb1 hX
  have hb01 := hB0.trans (hb1.mono hB0.size)
  have cX1 := rowCells hX1
  have cR1 := rowCells hR1
  have fR1 := fun j => frozenHeap hR1 j
  clear hR hX hb1
  cases q : nwB s d j a b c with
  | false =>
    have Q := Lib.hid q
    have HR : Hid (nwR s d j a b c = ⟨0, 0, 0, 0, 0, 0, 0, [], 0, 0⟩) := Lib.hid (by unfold nwR; rw [q]; rfl)
    clear q
    go_wp2_with (fail)
    have hP := putWi_heap hR1 rfl ⟨0, 0, 0, 0, 0, 0, 0, [], 0, 0⟩ (.slice none 0 0)
    have hbP := putWi_below hb01 (c := w.heap.size) (Nat.le_refl _) ⟨0, 0, 0, 0, 0, 0, 0, [], 0, 0⟩ (.slice none 0 0)
    unfold putWi at hP hbP
    have hL := load_wi hP rfl
    refine bodyPost_ret (v := .tuple #[.agg (wiC ⟨0, 0, 0, 0, 0, 0, 0, [], 0, 0⟩ (.slice none 0 0)), .bool false]) (results_two rfl _ _ _ _ _ rfl rfl hL) rfl ⟨?_, hbP⟩
    rw [Q.out, HR.out]
  | true =>
    have Q := Lib.hid q
    have HR : Hid (nwR s d j a b c = nwX s d j a b c) := Lib.hid (by unfold nwR; rw [q]; rfl)
    clear q
    go_wp2_with (fail)
    have hP := putWi_heap hR1 rfl (nwX s d j a b c) (.slice none 0 0)
    have hbP := putWi_below hb01 (c := w.heap.size) (Nat.le_refl _) (nwX s d j a b c) (.slice none 0 0)
    unfold putWi at hP hbP
    have hL := load_wi hP rfl
    refine bodyPost_ret (v := .tuple #[.agg (wiC (nwX s d j a b c) (.slice none 0 0)), .bool true]) (results_two rfl _ _ _ _ _ rfl rfl hL) rfl ⟨?_, hbP⟩
    rw [Q.out, HR.out]
end Go.Proofs.Yteafgghpkohfpaa
