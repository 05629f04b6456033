/-
  MoveBody: the plain mathematics; slide, moveIn. Condition: the level is good, the body has a size and its place is free.
-/
import Derived.Test.YtiidocjpeepheaaGreatDoorSolidA
import Derived.Test.YtiidocjpeepheaaGreatDoorOpenB
namespace Go.Proofs.YtiidocjpeepheaaGreatDoor
open Go.RowKit
set_option linter.all false
def slideN (L : Rowz) (S dx dy : Int) : Nat → Int → Int → Int × Int × Bool
  | 0, x, y => (x, y, false)
  | n + 1, x, y => if blockB L (x + dx) (y + dy) S then (x, y, true) else slideN L S dx dy n (x + dx) (y + dy)
/-- A body's cells, place and speed given. -/
def bmv (b : Bd) (x y vx vy : Int) : Array Value := #[.int .i64 b.kind, .int .i64 b.owner, .int .i64 x, .int .i64 y, .int .i64 vx, .int .i64 vy, .int .i64 b.aim, .int .i64 b.life, .int .i64 b.timer]
def bd0 : Array Value := #[.int .i64 0, .int .i64 0, .int .i64 0, .int .i64 0, .int .i64 0, .int .i64 0, .int .i64 0, .int .i64 0, .int .i64 0]
theorem blockB_place {L : Rowz} (hg : Good L) {x y : Int} {S : Nat} (h : blockB L x y (S : Int) = false) : 0 ≤ x ∧ x < 320 ∧ 0 ≤ y ∧ y < 192 := by
  have h0 : 0 ≤ x := by
    apply Classical.byContradiction; intro hn
    rw [blockB_neg (.inl (by omega))] at h; cases h
  have h1 : 0 ≤ y := by
    apply Classical.byContradiction; intro hn
    rw [blockB_neg (.inr (by omega))] at h; cases h
  obtain ⟨X, rfl⟩ := Int.eq_ofNat_of_zero_le h0
  obtain ⟨Y, rfl⟩ := Int.eq_ofNat_of_zero_le h1
  rw [blockB_nat] at h
  obtain ⟨hn3, hn12, hw4, hw20, -⟩ := hg
  have hc : cellN L (Y / 16) (X / 16) = false := by
    cases e : cellN L (Y / 16) (X / 16) with
    | false => rfl
    | true => rw [blockN_hit (.inl rfl) (.inl rfl) e] at h; cases h
  have hr : Y / 16 < L.length := by
    apply Classical.byContradiction; intro hn
    rw [cellN_out (.inl (by omega))] at hc; cases hc
  have hw : X / 16 < wd L := by
    apply Classical.byContradiction; intro hn
    rw [cellN_out (.inr (by omega))] at hc; cases hc
  omega
theorem load_bd {W : World} {k : Nat} {xs : Array Value} (h : W.heap[k]? = some (.cells xs 113 (0, 0))) (hn : xs.size = 9) : (loadVar 113 ⟨k, 0, none⟩).run Tryz.prog W = .ok (.agg xs) W :=
  run_loadVar_row W _ _ _ _ _ _ h Tryz.underlying113 rfl (by rw [hn]; kernel_rfl)
theorem setH {w : World} {c k : Nat} {v : Value} {l : List Value} {T : TypeId} (h : w.heap[c]? = some (.cells ⟨l⟩ T (0, 0))) : (w.setCell ⟨c, k, none⟩ v).heap[c]? = some (.cells ⟨l.set k v⟩ T (0, 0)) := by
  rw [setHeap h]; simp
/-- A whole body is stored. -/
def putB (w : World) (c : Nat) (b : Bd) (x y vx vy : Int) : World := ((((((((w.setCell ⟨c, 0, none⟩ (.int .i64 b.kind)).setCell ⟨c, 1, none⟩ (.int .i64 b.owner)).setCell ⟨c, 2, none⟩ (.int .i64 x)).setCell ⟨c, 3, none⟩ (.int .i64 y)).setCell ⟨c, 4, none⟩ (.int .i64 vx)).setCell ⟨c, 5, none⟩ (.int .i64 vy)).setCell ⟨c, 6, none⟩ (.int .i64 b.aim)).setCell ⟨c, 7, none⟩ (.int .i64 b.life)).setCell ⟨c, 8, none⟩ (.int .i64 b.timer)
set_option maxHeartbeats 1000000 in
theorem putB_heap {w : World} {c : Nat} {cs : Array Value} (h : w.heap[c]? = some (.cells cs 113 (0, 0))) (hn : cs.size = 9) (b : Bd) (x y vx vy : Int) : (putB w c b x y vx vy).heap[c]? = some (.cells (bmv b x y vx vy) 113 (0, 0)) := by
  obtain ⟨l⟩ := cs
  match l, hn with
  | [a0, a1, a2, a3, a4, a5, a6, a7, a8], _ =>
    have h0 := setH (k := 0) (v := .int .i64 b.kind) h
    have h1 := setH (k := 1) (v := .int .i64 b.owner) h0
    have h2 := setH (k := 2) (v := .int .i64 x) h1
    have h3 := setH (k := 3) (v := .int .i64 y) h2
    have h4 := setH (k := 4) (v := .int .i64 vx) h3
    have h5 := setH (k := 5) (v := .int .i64 vy) h4
    have h6 := setH (k := 6) (v := .int .i64 b.aim) h5
    have h7 := setH (k := 7) (v := .int .i64 b.life) h6
    have h8 := setH (k := 8) (v := .int .i64 b.timer) h7
    unfold putB bmv
    rw [h8]
    simp only [List.set]
theorem putB_far {w : World} {c k : Nat} {o : Obj} (h : w.heap[k]? = some o) (hk : k ≠ c) (b : Bd) (x y vx vy : Int) : (putB w c b x y vx vy).heap[k]? = some o := by
  unfold putB
  exact farHeap (farHeap (farHeap (farHeap (farHeap (farHeap (farHeap (farHeap (farHeap h hk _) hk _) hk _) hk _) hk _) hk _) hk _) hk _) hk _
theorem putB_below {B : Nat} {w0 w : World} {c : Nat} (h : Below B w0 w) (hc : B ≤ c) (b : Bd) (x y vx vy : Int) : Below B w0 (putB w c b x y vx vy) := by
  unfold putB
  exact ((((((((h.setCell (p := ⟨c, 0, none⟩) hc _).setCell (p := ⟨c, 1, none⟩) hc _).setCell (p := ⟨c, 2, none⟩) hc _).setCell (p := ⟨c, 3, none⟩) hc _).setCell (p := ⟨c, 4, none⟩) hc _).setCell (p := ⟨c, 5, none⟩) hc _).setCell (p := ⟨c, 6, none⟩) hc _).setCell (p := ⟨c, 7, none⟩) hc _).setCell (p := ⟨c, 8, none⟩) hc _
end Go.Proofs.YtiidocjpeepheaaGreatDoor
