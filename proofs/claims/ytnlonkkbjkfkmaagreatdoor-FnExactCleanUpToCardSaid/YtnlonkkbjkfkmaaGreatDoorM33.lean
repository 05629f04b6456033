/-
  Texts of this proof: WdE.
-/
import Derived.Test.YtnlonkkbjkfkmaaGreatDoorM32
import Derived.Deep.RegionHeld3
namespace Go.Proofs.YtnlonkkbjkfkmaaGreatDoor
open Go.RowKit Go.Joins Go.ChangeShapes Go.WideShapes Go.Deep
set_option linter.all false
theorem RowBd.same {w w' : World} {g : Nat} {X : List Bd} (h : RowBd w g X) (he : w'.heap[g]? = w.heap[g]?) : RowBd w' g X := fun j hj => ⟨rangeSame (h j hj).1 he, thereSame (h j hj).2 he⟩
theorem WrS.same {w w' : World} {B T : Nat} {v : Value} {xs : List (List UInt8)} (h : WrS w B v xs) (hT : LowS T v xs) (he : ∀ b, B ≤ b → b < T → b < w.heap.size → w'.heap[b]? = w.heap[b]?) : WrS w' B v xs := by
 obtain ⟨a, cap, rfl, h⟩ := h
 refine ⟨a, cap, rfl, ?_⟩
 by_cases hx : xs = []
 ·exact .inl hx
 ·obtain ⟨b, hB, rfl, hr⟩ := h.resolve_left hx
  have hbT : b < T := by
   obtain ⟨b', n', c', e, hlt⟩ := hT.resolve_left hx
   simp only [Value.slice.injEq, Option.some.injEq, Addr.mk.injEq] at e
   omega
  have hb := he b hB hbT (hr.lt hx)
  refine .inr ⟨b, hB, rfl, fun j hj => ?_, fun j hj => ?_⟩
  ·rw [World.cell?_of_block (w := w) hb]; exact hr.1 j hj
  ·rw [frozen_of_block hb]; exact hr.2 j hj
set_option maxHeartbeats 1000000 in
theorem eqBodyW (x : Bd) (w : World) : Calls Tryz.prog 163 #[.agg #[.int .i64 x.kind, .int .i64 x.owner, .int .i64 x.x, .int .i64 x.y, .int .i64 x.vx, .int .i64 x.vy, .int .i64 x.aim, .int .i64 x.life, .int .i64 x.timer], .agg #[.int .i64 x.kind, .int .i64 x.owner, .int .i64 x.x, .int .i64 x.y, .int .i64 x.vx, .int .i64 x.vy, .int .i64 x.aim, .int .i64 x.life, .int .i64 x.timer]] w fun e w' => e = .returned (.bool true) ∧ Below w.heap.size w w' := by
 go_enter Tryz.func163, Tryz.ntmps163
 go_wp2_with (fail)
 go_ret
 exact ⟨rfl, below2 _ _ _⟩
set_option maxRecDepth 100000 in
set_option maxHeartbeats 2000000 in
theorem eqBodyS_same {w : World} {v v' : Value} {X : List Bd} (h : RdBd w v X) (h' : RdBd w v' X) (hn : X.length ≤ 1048576) :
  Calls Tryz.prog 81 #[v, v'] w fun e w' => e = .returned (.bool true) ∧ Below w.heap.size w w' := by
 obtain ⟨a, cap, rfl, h⟩ := h
 obtain ⟨a', cap', rfl, h'⟩ := h'
 by_cases hx : X = []
 ·subst hx
  go_enter Tryz.func81, Tryz.ntmps81
  go_wp2_with (fail)
  refine wp_loop_once ?_
  go_wp2_with (fail)
  go_ret
  exact ⟨rfl, Below.refl _ _⟩
 ·obtain ⟨b, off, rfl, hc⟩ := h.resolve_left hx
  obtain ⟨b', off', rfl, hc'⟩ := h'.resolve_left hx
  have HC := Lib.hid hc
  have HC' := Lib.hid hc'
  clear h h' hc hc'
  go_enter Tryz.func81, Tryz.ntmps81
  go_wp2_with (fail)
  go_loopw [5] (fun i wr => ∃ k : Nat, k ≤ X.length ∧ i = .int .i64 (k : Int) ∧ Below w.heap.size w wr) (fun i _ => X.length - (intOf i).toNat)
  case atStart => exact ⟨0, Nat.zero_le _, rfl, Below.refl _ _⟩
  case round =>
   obtain ⟨k, hk, rfl, hbel⟩ := hrel
   by_cases hkl : k < X.length
   ·have c0 := HC.out k hkl
    have d0 := HC'.out k hkl
    have c1 : wr.rangeAt b (off + k * 9) (bdL X[k]) := rangeKeep c0 hbel (rangeLt c0)
    have d1 : wr.rangeAt b' (off' + k * 9) (bdL X[k]) := rangeKeep d0 hbel (rangeLt d0)
    have hkk : (k : Int) < (X.length : Int) := by omega
    have hk0 : (0 : Int) ≤ (k : Int) := by omega
    clear c0 d0
    generalize X[k] = x at c1 d1
    have hsz := hbel.size
    obtain ⟨p0, p1, p2, p3, p4, p5, p6, p7, p8⟩ := cells9 c1
    obtain ⟨q0, q1, q2, q3, q4, q5, q6, q7, q8⟩ := cells9 d1
    go_wp2_with (fail)
    go_region_held3 (fun w' => (w'.cell? ⟨b, off + k * 9, none⟩ = some (.int .i64 x.kind) ∧ w'.cell? ⟨b, off + k * 9 + 1, none⟩ = some (.int .i64 x.owner) ∧ w'.cell? ⟨b, off + k * 9 + 2, none⟩ = some (.int .i64 x.x) ∧ w'.cell? ⟨b, off + k * 9 + 3, none⟩ = some (.int .i64 x.y) ∧ w'.cell? ⟨b, off + k * 9 + 4, none⟩ = some (.int .i64 x.vx) ∧ w'.cell? ⟨b, off + k * 9 + 5, none⟩ = some (.int .i64 x.vy) ∧ w'.cell? ⟨b, off + k * 9 + 6, none⟩ = some (.int .i64 x.aim) ∧ w'.cell? ⟨b, off + k * 9 + 7, none⟩ = some (.int .i64 x.life) ∧ w'.cell? ⟨b, off + k * 9 + 8, none⟩ = some (.int .i64 x.timer)) ∧ (w'.cell? ⟨b', off' + k * 9, none⟩ = some (.int .i64 x.kind) ∧ w'.cell? ⟨b', off' + k * 9 + 1, none⟩ = some (.int .i64 x.owner) ∧ w'.cell? ⟨b', off' + k * 9 + 2, none⟩ = some (.int .i64 x.x) ∧ w'.cell? ⟨b', off' + k * 9 + 3, none⟩ = some (.int .i64 x.y) ∧ w'.cell? ⟨b', off' + k * 9 + 4, none⟩ = some (.int .i64 x.vx) ∧ w'.cell? ⟨b', off' + k * 9 + 5, none⟩ = some (.int .i64 x.vy) ∧ w'.cell? ⟨b', off' + k * 9 + 6, none⟩ = some (.int .i64 x.aim) ∧ w'.cell? ⟨b', off' + k * 9 + 7, none⟩ = some (.int .i64 x.life) ∧ w'.cell? ⟨b', off' + k * 9 + 8, none⟩ = some (.int .i64 x.timer)))
     (first | (exact ⟨cells9 c1, cells9 d1⟩) | (exact ⟨cells9 c3, cells9 d3⟩) | go_keep)
     (first | (go_at_call 163; refine (eqBodyW x _).mono ?_; rintro e w1 ⟨rfl, hb1⟩; have hb3 := (belowDrew wr 1).trans (hb1.mono (by simp)); have c3 := rangeKeep c1 hb3 (rangeLt c1); have d3 := rangeKeep d1 hb3 (rangeLt d1)))
    go_wp2_with (fail)
    go_roundw
    case rel => exact ⟨k + 1, by omega, by go_num, hbel.trans (Below.mono hb3 hsz)⟩
    case measure => simp [intOf]; omega
   ·go_wp2_with (fail)
    go_ret
    exact ⟨rfl, hbel⟩
set_option maxHeartbeats 2000000 in
theorem eqWorld_same {w : World} {x : Wd} {vl vs vb vl' vs' vb' : Value} (h : RdW w x vl vs vb) (h' : RdW w x vl' vs' vb') (hn : x.few) :
  Calls Tryz.prog 27 #[.agg (wdC x vl vs vb), .agg (wdC x vl' vs' vb')] w fun e w' => e = .returned (.bool true) ∧ Below w.heap.size w w' := by
 obtain ⟨hn1, hn2, hn3⟩ := hn
 have h0 := h
 have h0' := h'
 obtain ⟨al, cl, rfl, -⟩ := id h.1
 obtain ⟨aq, cq, rfl, -⟩ := id h.2.1
 obtain ⟨ab, cb, rfl, -⟩ := id h.2.2
 obtain ⟨al', cl', rfl, -⟩ := id h'.1
 obtain ⟨aq', cq', rfl, -⟩ := id h'.2.1
 obtain ⟨ab', cb', rfl, -⟩ := id h'.2.2
 unfold wdC
 obtain ⟨W0, hW, hA, hB, hB0, hS0⟩ := rows2 w #[.slice al x.rows.length cl, .int .i64 x.tick, .int .i64 x.seed, .slice aq x.scores.length cq, .slice ab x.bods.length cb] #[.slice al' x.rows.length cl', .int .i64 x.tick, .int .i64 x.seed, .slice aq' x.scores.length cq', .slice ab' x.bods.length cb'] 30 30
 have cA := rowCells hA
 have cB := rowCells hB
 go_enter Tryz.func27, Tryz.ntmps27
 go_wp2_with (fail)
 try rw [hW]
 clear hW
 refine (eqLevel_same (h0.keep hB0).1 (h0'.keep hB0).1 (by omega)).mono ?_
 rintro e w1 ⟨rfl, hb1⟩
 have hb01 := hB0.trans (hb1.mono hB0.size)
 have hA1 := keepHeap hb1 hA
 have hB1 := keepHeap hb1 hB
 have cA1 := rowCells hA1
 have cB1 := rowCells hB1
 clear cA cB
 go_wp2_with (fail)
 refine (eqIntS_same (h0.keep hb01).2.1 (h0'.keep hb01).2.1 (by omega)).mono ?_
 rintro e w2 ⟨rfl, n2, hw2⟩
 have hb2 : Below w1.heap.size w1 w2 := by rw [hw2]; exact belowDrew _ _
 clear hw2
 have hb02 := hb01.trans (hb2.mono hb01.size)
 have cA2 := rowCells (keepHeap hb2 hA1)
 have cB2 := rowCells (keepHeap hb2 hB1)
 clear cA1 cB1
 go_wp2_with (fail)
 refine (eqBodyS_same (h0.keep hb02).2.2 (h0'.keep hb02).2.2 (by omega)).mono ?_
 rintro e w3 ⟨rfl, hb3⟩
 go_wp2_with (fail)
 go_ret
 exact ⟨rfl, hb02.trans (hb3.mono hb02.size)⟩
section
variable {H : Type} {enc : TypeId × Value → H} {P : Program} {w : World} {base : Nat} {spare : Nat → Bool} {held : Bool}
end
set_option maxRecDepth 100000 in
theorem rdL_of_trod {H : Type} {enc : TypeId × Value → H} {w : World} {base : Nat} {spare : Nat → Bool} {held : Bool} {n : Nat} {v0 : Value} {y : DataW H × List MemPlace} (h : DataW.trod enc Tryz.prog w base spare held n 43 [v0] = some y) : ∃ ls, RdS w v0 ls ∧ Sane ls := by
 obtain ⟨xs, n', _, hx, _, hlen, hg⟩ := DataW.trod_struct Tryz.underlying43 h
 match xs, hlen with
 | [y0], _ =>
  have h0 := hg 0 _ rfl
  have hcs : Tryz.prog.cellsOf 24 = 1 := by kernel_rfl
  exact rdS_of_trod (n := n') (y := y0) (by simpa [Value.cells, hcs] using h0)
end Go.Proofs.YtnlonkkbjkfkmaaGreatDoor
