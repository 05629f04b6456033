/-
  Texts of this proof: Meet.
-/
import Derived.Test.YtnlonkkbjkfkmaaGreatDoorM00
import Derived.Deep.RegionHeld3
import Derived.Deep.RegionWith
namespace Go.Proofs.YtnlonkkbjkfkmaaGreatDoor
open Go.RowKit
set_option linter.all false

theorem load_body {W : World} {k : Nat} {xs : Array Value} (h : W.heap[k]? = some (.cells xs 100 (0, 0))) (hn : xs.size = 9) : (loadVar 100 ⟨k, 0, none⟩).run Tryz.prog W = .ok (.agg xs) W :=
 run_loadVar_row W _ _ _ _ _ _ h Tryz.underlying100 rfl (by rw [hn]; kernel_rfl)
structure Bd where
 kind : Int
 owner : Int
 x : Int
 y : Int
 vx : Int
 vy : Int
 aim : Int
 life : Int
 timer : Int
def bdV (b : Bd) : Value := .agg #[.int .i64 b.kind, .int .i64 b.owner, .int .i64 b.x, .int .i64 b.y, .int .i64 b.vx, .int .i64 b.vy, .int .i64 b.aim, .int .i64 b.life, .int .i64 b.timer]
theorem toBody_any (b : Bd) (w : World) : Calls Tryz.prog 162 #[bdV b] w fun e w' => e = .returned (bdV b) ∧ Below w.heap.size w w' := by
 unfold bdV
 go_enter Tryz.func162, Tryz.ntmps162
 go_wp2_with (fail)
 refine bodyPost_ret (results_cell_row rfl _ _ (w.heap.size + 1) 100 #[.int .i64 b.kind, .int .i64 b.owner, .int .i64 b.x, .int .i64 b.y, .int .i64 b.vx, .int .i64 b.vy, .int .i64 b.aim, .int .i64 b.life, .int .i64 b.timer] (0, 0) ?d ?hp ?hg ?hu ?hd ?hi) rfl ?_
 case hp => rfl
 case hg => rw [heap_alloc_old _ _ (by simp)]; exact heap_at _ _ (by simp)
 case hu => exact Tryz.underlying100
 case hd => rfl
 case hi => kernel_rfl
 exact ⟨rfl, (below2 _ _ _).alloc (by simp; omega) _⟩
theorem placed_impl (b : Bd) (w : World) : Calls Tryz.prog 245 #[bdV b] w fun e w' => e = .returned (.bool (inR b.x 0 1000 && inR b.y 0 1000)) ∧ Below w.heap.size w w' := by
 unfold bdV
 cases q1 : inR b.x 0 1000 with
 | true =>
  have Q := Lib.hid q1
  clear q1
  go_enter Tryz.func245, Tryz.ntmps245
  go_wp2_with (go_at_call 69; refine (within_impl _ _ _ _).mono ?_; rintro e w1 ⟨rfl, rfl⟩; try rw [Q.out])
  go_ret
  exact ⟨rfl, below1 _ _⟩
 | false =>
  have Q := Lib.hid q1
  clear q1
  go_enter Tryz.func245, Tryz.ntmps245
  go_wp2_with (go_at_call 69; refine (within_impl _ _ _ _).mono ?_; rintro e w1 ⟨rfl, rfl⟩; try rw [Q.out])
  go_ret
  exact ⟨rfl, below1 _ _⟩
def meetB (a b : Bd) : Bool := !((sizeI a.kind == 0) || ((sizeI b.kind == 0) || (!(inR a.x 0 1000) || (!(inR a.y 0 1000) || (!(inR b.x 0 1000) || !(inR b.y 0 1000)))))) &&
 (decide (a.x < b.x + sizeI b.kind) && (decide (b.x < a.x + sizeI a.kind) && (decide (a.y < b.y + sizeI b.kind) && decide (b.y < a.y + sizeI a.kind))))
set_option maxHeartbeats 2000000 in
theorem meet_spec (a b : Bd) (w : World) : Calls Tryz.prog 273 #[bdV a, bdV b] w fun e w' => e = .returned (.bool (meetB a b)) ∧ Below w.heap.size w w' := by
 have ra := sizeI_range a.kind
 have rb := sizeI_range b.kind
 unfold bdV
 cases p1 : (sizeI a.kind == 0) with
 | true =>
  have HF0 : meetB a b = false := by unfold meetB; simp only [p1]; rfl
  have HF := Lib.hid HF0
  clear HF0
  go_enter Tryz.func273, Tryz.ntmps273
  go_wp2_with (first | (go_at_call 242; refine (sizeOf_spec _ _).mono ?_; rintro e w1 ⟨rfl, rfl⟩) | (go_at_call 88; refine (in_spec _ _ _ _).mono ?_; rintro e w1 ⟨rfl, rfl⟩))
  go_ret
  exact ⟨by rw [HF.out]; rfl, below2 _ _ _⟩
 | false =>
  cases p2 : (sizeI b.kind == 0) with
  | true =>
   have HF0 : meetB a b = false := by unfold meetB; simp only [p1, p2]; rfl
   have HF := Lib.hid HF0
   clear HF0
   go_enter Tryz.func273, Tryz.ntmps273
   go_wp2_with (first | (go_at_call 242; refine (sizeOf_spec _ _).mono ?_; rintro e w1 ⟨rfl, rfl⟩) | (go_at_call 88; refine (in_spec _ _ _ _).mono ?_; rintro e w1 ⟨rfl, rfl⟩))
   go_ret
   exact ⟨by rw [HF.out]; rfl, below2 _ _ _⟩
  | false =>
   cases q1 : inR a.x 0 1000 with
   | true =>
    cases q2 : inR a.y 0 1000 with
    | true =>
     cases q3 : inR b.x 0 1000 with
     | true =>
      cases q4 : inR b.y 0 1000 with
      | true =>
       have r1 := (inR_iff _ _ _).1 q1; have r2 := (inR_iff _ _ _).1 q2; have r3 := (inR_iff _ _ _).1 q3; have r4 := (inR_iff _ _ _).1 q4
       cases c1 : decide (a.x < b.x + sizeI b.kind) with
       | true =>
        cases c2 : decide (b.x < a.x + sizeI a.kind) with
        | true =>
         cases c3 : decide (a.y < b.y + sizeI b.kind) with
         | true =>
          cases c4 : decide (b.y < a.y + sizeI a.kind) with
          | true =>
           have HF0 : meetB a b = true := by unfold meetB; simp only [p1, p2, q1, q2, q3, q4, c1, c2, c3, c4]; rfl
           have HF := Lib.hid HF0
           clear HF0
           go_enter Tryz.func273, Tryz.ntmps273
           go_wp2_with (first | (go_at_call 242; refine (sizeOf_spec _ _).mono ?_; rintro e w1 ⟨rfl, rfl⟩) | (go_at_call 88; refine (in_spec _ _ _ _).mono ?_; rintro e w1 ⟨rfl, rfl⟩))
           go_ret
           exact ⟨by rw [HF.out]; rfl, below2 _ _ _⟩
          | false =>
           have HF0 : meetB a b = false := by unfold meetB; simp only [p1, p2, q1, q2, q3, q4, c1, c2, c3, c4]; rfl
           have HF := Lib.hid HF0
           clear HF0
           go_enter Tryz.func273, Tryz.ntmps273
           go_wp2_with (first | (go_at_call 242; refine (sizeOf_spec _ _).mono ?_; rintro e w1 ⟨rfl, rfl⟩) | (go_at_call 88; refine (in_spec _ _ _ _).mono ?_; rintro e w1 ⟨rfl, rfl⟩))
           go_ret
           exact ⟨by rw [HF.out]; rfl, below2 _ _ _⟩
         | false =>
          have HF0 : meetB a b = false := by unfold meetB; simp only [p1, p2, q1, q2, q3, q4, c1, c2, c3]; rfl
          have HF := Lib.hid HF0
          clear HF0
          go_enter Tryz.func273, Tryz.ntmps273
          go_wp2_with (first | (go_at_call 242; refine (sizeOf_spec _ _).mono ?_; rintro e w1 ⟨rfl, rfl⟩) | (go_at_call 88; refine (in_spec _ _ _ _).mono ?_; rintro e w1 ⟨rfl, rfl⟩))
          go_ret
          exact ⟨by rw [HF.out]; rfl, below2 _ _ _⟩
        | false =>
         have HF0 : meetB a b = false := by unfold meetB; simp only [p1, p2, q1, q2, q3, q4, c1, c2]; rfl
         have HF := Lib.hid HF0
         clear HF0
         go_enter Tryz.func273, Tryz.ntmps273
         go_wp2_with (first | (go_at_call 242; refine (sizeOf_spec _ _).mono ?_; rintro e w1 ⟨rfl, rfl⟩) | (go_at_call 88; refine (in_spec _ _ _ _).mono ?_; rintro e w1 ⟨rfl, rfl⟩))
         go_ret
         exact ⟨by rw [HF.out]; rfl, below2 _ _ _⟩
       | false =>
        have HF0 : meetB a b = false := by unfold meetB; simp only [p1, p2, q1, q2, q3, q4, c1]; rfl
        have HF := Lib.hid HF0
        clear HF0
        go_enter Tryz.func273, Tryz.ntmps273
        go_wp2_with (first | (go_at_call 242; refine (sizeOf_spec _ _).mono ?_; rintro e w1 ⟨rfl, rfl⟩) | (go_at_call 88; refine (in_spec _ _ _ _).mono ?_; rintro e w1 ⟨rfl, rfl⟩))
        go_ret
        exact ⟨by rw [HF.out]; rfl, below2 _ _ _⟩
      | false =>
       have HF0 : meetB a b = false := by unfold meetB; simp only [p1, p2, q1, q2, q3, q4]; rfl
       have HF := Lib.hid HF0
       clear HF0
       go_enter Tryz.func273, Tryz.ntmps273
       go_wp2_with (first | (go_at_call 242; refine (sizeOf_spec _ _).mono ?_; rintro e w1 ⟨rfl, rfl⟩) | (go_at_call 88; refine (in_spec _ _ _ _).mono ?_; rintro e w1 ⟨rfl, rfl⟩))
       go_ret
       exact ⟨by rw [HF.out]; rfl, below2 _ _ _⟩
     | false =>
      have HF0 : meetB a b = false := by unfold meetB; simp only [p1, p2, q1, q2, q3]; rfl
      have HF := Lib.hid HF0
      clear HF0
      go_enter Tryz.func273, Tryz.ntmps273
      go_wp2_with (first | (go_at_call 242; refine (sizeOf_spec _ _).mono ?_; rintro e w1 ⟨rfl, rfl⟩) | (go_at_call 88; refine (in_spec _ _ _ _).mono ?_; rintro e w1 ⟨rfl, rfl⟩))
      go_ret
      exact ⟨by rw [HF.out]; rfl, below2 _ _ _⟩
    | false =>
     have HF0 : meetB a b = false := by unfold meetB; simp only [p1, p2, q1, q2]; rfl
     have HF := Lib.hid HF0
     clear HF0
     go_enter Tryz.func273, Tryz.ntmps273
     go_wp2_with (first | (go_at_call 242; refine (sizeOf_spec _ _).mono ?_; rintro e w1 ⟨rfl, rfl⟩) | (go_at_call 88; refine (in_spec _ _ _ _).mono ?_; rintro e w1 ⟨rfl, rfl⟩))
     go_ret
     exact ⟨by rw [HF.out]; rfl, below2 _ _ _⟩
   | false =>
    have HF0 : meetB a b = false := by unfold meetB; simp only [p1, p2, q1]; rfl
    have HF := Lib.hid HF0
    clear HF0
    go_enter Tryz.func273, Tryz.ntmps273
    go_wp2_with (first | (go_at_call 242; refine (sizeOf_spec _ _).mono ?_; rintro e w1 ⟨rfl, rfl⟩) | (go_at_call 88; refine (in_spec _ _ _ _).mono ?_; rintro e w1 ⟨rfl, rfl⟩))
    go_ret
    exact ⟨by rw [HF.out]; rfl, below2 _ _ _⟩
set_option maxHeartbeats 2000000 in
theorem meet_impl (a b : Bd) (w : World) : Calls Tryz.prog 277 #[bdV a, bdV b] w fun e w' => e = .returned (.bool (meetB a b)) ∧ Below w.heap.size w w' := by
 have ra := sizeI_range a.kind
 have rb := sizeI_range b.kind
 have va : bdV a = .agg #[.int .i64 a.kind, .int .i64 a.owner, .int .i64 a.x, .int .i64 a.y, .int .i64 a.vx, .int .i64 a.vy, .int .i64 a.aim, .int .i64 a.life, .int .i64 a.timer] := rfl
 have vb : bdV b = .agg #[.int .i64 b.kind, .int .i64 b.owner, .int .i64 b.x, .int .i64 b.y, .int .i64 b.vx, .int .i64 b.vy, .int .i64 b.aim, .int .i64 b.life, .int .i64 b.timer] := rfl
 have pa := fun W => placed_impl a W
 have pb := fun W => placed_impl b W
 rw [va] at pa
 rw [vb] at pb
 rw [va, vb]
 clear va vb
 obtain ⟨W0, hW, hA, hB, hB0, hS0⟩ := rows2 w #[.int .i64 a.kind, .int .i64 a.owner, .int .i64 a.x, .int .i64 a.y, .int .i64 a.vx, .int .i64 a.vy, .int .i64 a.aim, .int .i64 a.life, .int .i64 a.timer] #[.int .i64 b.kind, .int .i64 b.owner, .int .i64 b.x, .int .i64 b.y, .int .i64 b.vx, .int .i64 b.vy, .int .i64 b.aim, .int .i64 b.life, .int .i64 b.timer] 100 100
 go_enter Tryz.func277, Tryz.ntmps277
 go_wp2_with (fail)
 try rw [hW]
 have kA := rowCells hA
 have kB := rowCells hB
 go_region_held3 (fun w' => (∀ j, w'.cell? ⟨w.heap.size, j, none⟩ = #[.int .i64 a.kind, .int .i64 a.owner, .int .i64 a.x, .int .i64 a.y, .int .i64 a.vx, .int .i64 a.vy, .int .i64 a.aim, .int .i64 a.life, .int .i64 a.timer][j]?) ∧ (∀ j, w'.cell? ⟨w.heap.size + 1, j, none⟩ = #[.int .i64 b.kind, .int .i64 b.owner, .int .i64 b.x, .int .i64 b.y, .int .i64 b.vx, .int .i64 b.vy, .int .i64 b.aim, .int .i64 b.life, .int .i64 b.timer][j]?)) (first | go_keep | (exact ⟨kA1, kB1⟩) | exact ⟨kA2, kB2⟩)
  (first
  | (go_at_call 244; refine (sizeOf_impl _ _).mono ?_; rintro e w1 ⟨rfl, hb1⟩; have hA1 := keepHeap hb1 hA; have hB1 := keepHeap hb1 hB; have kA1 := rowCells hA1; have kB1 := rowCells hB1; have hbel1 := hB0.drew.trans (hb1.mono (by simp; omega)))
  | (go_at_call 244; refine (sizeOf_impl _ _).mono ?_; rintro e w2 ⟨rfl, hb2⟩; have hA2 := keepHeap hb2 hA1; have hB2 := keepHeap hb2 hB1; have kA2 := rowCells hA2; have kB2 := rowCells hB2; have hbel := hbel1.trans (hb2.mono hbel1.size)))
 have la2 := load_body hA2 rfl
 have lb2 := load_body hB2 rfl
 clear hW kA kB hB0 hb1 kA1 kB1 hbel1 hb2 hA hB hA1 hB1 kA2 kB2
 cases p1 : (sizeI a.kind == 0) with
 | true =>
  have HF0 : meetB a b = false := by unfold meetB; simp only [p1]; rfl
  have HF := Lib.hid HF0
  clear HF0
  go_wp2_with (first | (go_at_call_of 245 (Value.int .i64 a.kind); refine (pa _).mono ?_; rintro e w3 ⟨rfl, hb3⟩; have hB3 := keepHeap hb3 hB2; have hA3 := keepHeap hb3 hA2; have kB3 := rowCells hB3; have hbel := hbel.trans (hb3.mono hbel.size)) | (go_at_call_of 245 (Value.int .i64 b.kind); refine (pb _).mono ?_; rintro e w4 ⟨rfl, hb4⟩; have kB4 := rowCells (keepHeap hb4 hB3); have kA4 := rowCells (keepHeap hb4 hA3); have hbel := hbel.trans (hb4.mono hbel.size)))
  go_ret
  exact ⟨by rw [HF.out]; rfl, hbel⟩
 | false =>
  cases p2 : (sizeI b.kind == 0) with
  | true =>
   have HF0 : meetB a b = false := by unfold meetB; simp only [p1, p2]; rfl
   have HF := Lib.hid HF0
   clear HF0
   go_wp2_with (first | (go_at_call_of 245 (Value.int .i64 a.kind); refine (pa _).mono ?_; rintro e w3 ⟨rfl, hb3⟩; have hB3 := keepHeap hb3 hB2; have hA3 := keepHeap hb3 hA2; have kB3 := rowCells hB3; have hbel := hbel.trans (hb3.mono hbel.size)) | (go_at_call_of 245 (Value.int .i64 b.kind); refine (pb _).mono ?_; rintro e w4 ⟨rfl, hb4⟩; have kB4 := rowCells (keepHeap hb4 hB3); have kA4 := rowCells (keepHeap hb4 hA3); have hbel := hbel.trans (hb4.mono hbel.size)))
   go_ret
   exact ⟨by rw [HF.out]; rfl, hbel⟩
  | false =>
   cases q1 : inR a.x 0 1000 with
   | true =>
    cases q2 : inR a.y 0 1000 with
    | true =>
     cases q3 : inR b.x 0 1000 with
     | true =>
      cases q4 : inR b.y 0 1000 with
      | true =>
       have r1 := (inR_iff _ _ _).1 q1; have r2 := (inR_iff _ _ _).1 q2; have r3 := (inR_iff _ _ _).1 q3; have r4 := (inR_iff _ _ _).1 q4
       cases c1 : decide (a.x < b.x + sizeI b.kind) with
       | true =>
        cases c2 : decide (b.x < a.x + sizeI a.kind) with
        | true =>
         cases c3 : decide (a.y < b.y + sizeI b.kind) with
         | true =>
          cases c4 : decide (b.y < a.y + sizeI a.kind) with
          | true =>
           have HF0 : meetB a b = true := by unfold meetB; simp only [p1, p2, q1, q2, q3, q4, c1, c2, c3, c4]; rfl
           have HF := Lib.hid HF0
           clear HF0
           go_wp2_with (first | (go_at_call_of 245 (Value.int .i64 a.kind); refine (pa _).mono ?_; rintro e w3 ⟨rfl, hb3⟩; have hB3 := keepHeap hb3 hB2; have hA3 := keepHeap hb3 hA2; have kB3 := rowCells hB3; have hbel := hbel.trans (hb3.mono hbel.size)) | (go_at_call_of 245 (Value.int .i64 b.kind); refine (pb _).mono ?_; rintro e w4 ⟨rfl, hb4⟩; have kB4 := rowCells (keepHeap hb4 hB3); have kA4 := rowCells (keepHeap hb4 hA3); have hbel := hbel.trans (hb4.mono hbel.size)))
           go_ret
           exact ⟨by rw [HF.out]; rfl, hbel⟩
          | false =>
           have HF0 : meetB a b = false := by unfold meetB; simp only [p1, p2, q1, q2, q3, q4, c1, c2, c3, c4]; rfl
           have HF := Lib.hid HF0
           clear HF0
           go_wp2_with (first | (go_at_call_of 245 (Value.int .i64 a.kind); refine (pa _).mono ?_; rintro e w3 ⟨rfl, hb3⟩; have hB3 := keepHeap hb3 hB2; have hA3 := keepHeap hb3 hA2; have kB3 := rowCells hB3; have hbel := hbel.trans (hb3.mono hbel.size)) | (go_at_call_of 245 (Value.int .i64 b.kind); refine (pb _).mono ?_; rintro e w4 ⟨rfl, hb4⟩; have kB4 := rowCells (keepHeap hb4 hB3); have kA4 := rowCells (keepHeap hb4 hA3); have hbel := hbel.trans (hb4.mono hbel.size)))
           go_ret
           exact ⟨by rw [HF.out]; rfl, hbel⟩
         | false =>
          have HF0 : meetB a b = false := by unfold meetB; simp only [p1, p2, q1, q2, q3, q4, c1, c2, c3]; rfl
          have HF := Lib.hid HF0
          clear HF0
          go_wp2_with (first | (go_at_call_of 245 (Value.int .i64 a.kind); refine (pa _).mono ?_; rintro e w3 ⟨rfl, hb3⟩; have hB3 := keepHeap hb3 hB2; have hA3 := keepHeap hb3 hA2; have kB3 := rowCells hB3; have hbel := hbel.trans (hb3.mono hbel.size)) | (go_at_call_of 245 (Value.int .i64 b.kind); refine (pb _).mono ?_; rintro e w4 ⟨rfl, hb4⟩; have kB4 := rowCells (keepHeap hb4 hB3); have kA4 := rowCells (keepHeap hb4 hA3); have hbel := hbel.trans (hb4.mono hbel.size)))
          go_ret
          exact ⟨by rw [HF.out]; rfl, hbel⟩
        | false =>
         have HF0 : meetB a b = false := by unfold meetB; simp only [p1, p2, q1, q2, q3, q4, c1, c2]; rfl
         have HF := Lib.hid HF0
         clear HF0
         go_wp2_with (first | (go_at_call_of 245 (Value.int .i64 a.kind); refine (pa _).mono ?_; rintro e w3 ⟨rfl, hb3⟩; have hB3 := keepHeap hb3 hB2; have hA3 := keepHeap hb3 hA2; have kB3 := rowCells hB3; have hbel := hbel.trans (hb3.mono hbel.size)) | (go_at_call_of 245 (Value.int .i64 b.kind); refine (pb _).mono ?_; rintro e w4 ⟨rfl, hb4⟩; have kB4 := rowCells (keepHeap hb4 hB3); have kA4 := rowCells (keepHeap hb4 hA3); have hbel := hbel.trans (hb4.mono hbel.size)))
         go_ret
         exact ⟨by rw [HF.out]; rfl, hbel⟩
       | false =>
        have HF0 : meetB a b = false := by unfold meetB; simp only [p1, p2, q1, q2, q3, q4, c1]; rfl
        have HF := Lib.hid HF0
        clear HF0
        go_wp2_with (first | (go_at_call_of 245 (Value.int .i64 a.kind); refine (pa _).mono ?_; rintro e w3 ⟨rfl, hb3⟩; have hB3 := keepHeap hb3 hB2; have hA3 := keepHeap hb3 hA2; have kB3 := rowCells hB3; have hbel := hbel.trans (hb3.mono hbel.size)) | (go_at_call_of 245 (Value.int .i64 b.kind); refine (pb _).mono ?_; rintro e w4 ⟨rfl, hb4⟩; have kB4 := rowCells (keepHeap hb4 hB3); have kA4 := rowCells (keepHeap hb4 hA3); have hbel := hbel.trans (hb4.mono hbel.size)))
        go_ret
        exact ⟨by rw [HF.out]; rfl, hbel⟩
      | false =>
       have HF0 : meetB a b = false := by unfold meetB; simp only [p1, p2, q1, q2, q3, q4]; rfl
       have HF := Lib.hid HF0
       clear HF0
       go_wp2_with (first | (go_at_call_of 245 (Value.int .i64 a.kind); refine (pa _).mono ?_; rintro e w3 ⟨rfl, hb3⟩; have hB3 := keepHeap hb3 hB2; have hA3 := keepHeap hb3 hA2; have kB3 := rowCells hB3; have hbel := hbel.trans (hb3.mono hbel.size)) | (go_at_call_of 245 (Value.int .i64 b.kind); refine (pb _).mono ?_; rintro e w4 ⟨rfl, hb4⟩; have kB4 := rowCells (keepHeap hb4 hB3); have kA4 := rowCells (keepHeap hb4 hA3); have hbel := hbel.trans (hb4.mono hbel.size)))
       go_ret
       exact ⟨by rw [HF.out]; rfl, hbel⟩
     | false =>
      have HF0 : meetB a b = false := by unfold meetB; simp only [p1, p2, q1, q2, q3]; rfl
      have HF := Lib.hid HF0
      clear HF0
      go_wp2_with (first | (go_at_call_of 245 (Value.int .i64 a.kind); refine (pa _).mono ?_; rintro e w3 ⟨rfl, hb3⟩; have hB3 := keepHeap hb3 hB2; have hA3 := keepHeap hb3 hA2; have kB3 := rowCells hB3; have hbel := hbel.trans (hb3.mono hbel.size)) | (go_at_call_of 245 (Value.int .i64 b.kind); refine (pb _).mono ?_; rintro e w4 ⟨rfl, hb4⟩; have kB4 := rowCells (keepHeap hb4 hB3); have kA4 := rowCells (keepHeap hb4 hA3); have hbel := hbel.trans (hb4.mono hbel.size)))
      go_ret
      exact ⟨by rw [HF.out]; rfl, hbel⟩
    | false =>
     have HF0 : meetB a b = false := by unfold meetB; simp only [p1, p2, q1, q2]; rfl
     have HF := Lib.hid HF0
     clear HF0
     go_wp2_with (first | (go_at_call_of 245 (Value.int .i64 a.kind); refine (pa _).mono ?_; rintro e w3 ⟨rfl, hb3⟩; have hB3 := keepHeap hb3 hB2; have hA3 := keepHeap hb3 hA2; have kB3 := rowCells hB3; have hbel := hbel.trans (hb3.mono hbel.size)) | (go_at_call_of 245 (Value.int .i64 b.kind); refine (pb _).mono ?_; rintro e w4 ⟨rfl, hb4⟩; have kB4 := rowCells (keepHeap hb4 hB3); have kA4 := rowCells (keepHeap hb4 hA3); have hbel := hbel.trans (hb4.mono hbel.size)))
     go_ret
     exact ⟨by rw [HF.out]; rfl, hbel⟩
   | false =>
    have HF0 : meetB a b = false := by unfold meetB; simp only [p1, p2, q1]; rfl
    have HF := Lib.hid HF0
    clear HF0
    go_wp2_with (first | (go_at_call_of 245 (Value.int .i64 a.kind); refine (pa _).mono ?_; rintro e w3 ⟨rfl, hb3⟩; have hB3 := keepHeap hb3 hB2; have hA3 := keepHeap hb3 hA2; have kB3 := rowCells hB3; have hbel := hbel.trans (hb3.mono hbel.size)) | (go_at_call_of 245 (Value.int .i64 b.kind); refine (pb _).mono ?_; rintro e w4 ⟨rfl, hb4⟩; have kB4 := rowCells (keepHeap hb4 hB3); have kA4 := rowCells (keepHeap hb4 hA3); have hbel := hbel.trans (hb4.mono hbel.size)))
    go_ret
    exact ⟨by rw [HF.out]; rfl, hbel⟩
end Go.Proofs.YtnlonkkbjkfkmaaGreatDoor
