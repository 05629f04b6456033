/-
  Texts of this proof: Body.
-/
import Derived.Test.YtnlonkkbjkfkmaaGreatDoorM21
import Derived.Test.YtnlonkkbjkfkmaaGreatDoorM22
namespace Go.Proofs.YtnlonkkbjkfkmaaGreatDoor
open Go.RowKit
set_option linter.all false
def aimB (b : Bd) : Bool := decide (b.aim = 1) || decide (b.aim = -1)
def kindB (b : Bd) : Bool :=
 if b.kind = 0 then aimB b && (inR b.life 0 3 && (if b.life = 0 then inR b.timer 1 20 else inR b.timer 0 12))
 else if b.kind = 1 then decide (b.aim = 0) && (decide (b.life = 0) && inR b.timer 1 25)
 else decide (b.owner = 0) && (decide (b.aim = 0) && (decide (b.life = 0) && decide (b.timer = 0)))
def fitB (L : Rowz) (n : Int) (b : Bd) : Bool := inR b.kind 0 2 && (inR b.owner 0 (n - 1) && (!blockB L b.x b.y (sizeI b.kind) && (inR b.vx (-15) 15 && (inR b.vy (-15) 15 && kindB b))))
section
variable {L : Rowz} {n : Int} {b : Bd}
theorem fit_k (h : inR b.kind 0 2 = false) : fitB L n b = false := by unfold fitB; rw [h]; rfl
theorem fit_o (h : inR b.owner 0 (n - 1) = false) : fitB L n b = false := by unfold fitB; rw [h]; simp
theorem fit_s (h : blockB L b.x b.y (sizeI b.kind) = true) : fitB L n b = false := by unfold fitB; rw [h]; simp
theorem fit_x (h : inR b.vx (-15) 15 = false) : fitB L n b = false := by unfold fitB; rw [h]; simp
theorem fit_y (h : inR b.vy (-15) 15 = false) : fitB L n b = false := by unfold fitB; rw [h]; simp
theorem fit_all (h0 : inR b.kind 0 2 = true) (h1 : inR b.owner 0 (n - 1) = true) (h2 : blockB L b.x b.y (sizeI b.kind) = false) (h3 : inR b.vx (-15) 15 = true) (h4 : inR b.vy (-15) 15 = true) : fitB L n b = kindB b := by
 unfold fitB; rw [h0, h1, h2, h3, h4]; rfl
theorem kind3 (h : inR b.kind 0 2 = true) : b.kind = 0 ∨ b.kind = 1 ∨ b.kind = 2 := by
 have := (inR_iff _ _ _).1 h; omega
theorem kind_0 (h : b.kind = 0) : kindB b = (aimB b && (inR b.life 0 3 && (if b.life = 0 then inR b.timer 1 20 else inR b.timer 0 12))) := by unfold kindB; rw [if_pos h]
theorem kind_1 (h : b.kind = 1) : kindB b = (decide (b.aim = 0) && (decide (b.life = 0) && inR b.timer 1 25)) := by unfold kindB; rw [if_neg (by rw [h]; decide), if_pos h]
theorem kind_2 (h : b.kind = 2) : kindB b = (decide (b.owner = 0) && (decide (b.aim = 0) && (decide (b.life = 0) && decide (b.timer = 0)))) := by unfold kindB; rw [if_neg (by rw [h]; decide), if_neg (by rw [h]; decide)]
theorem size_kind (h : inR b.kind 0 2 = true) : 1 ≤ sizeI b.kind ∧ sizeI b.kind ≤ 16 := by
 rcases kind3 h with e | e | e <;> rw [e] <;> decide
end
set_option maxRecDepth 100000 in
set_option maxHeartbeats 8000000 in
theorem body_spec {w : World} {v : Value} {L : Rowz} (h : RdS w v L) (hg : Good L) (b : Bd) (hx : I64 b.x) (hy : I64 b.y) (n : Int) (hn : 1 ≤ n) (hn2 : n ≤ 9223372036854775807) :
  Calls Tryz.prog 201 #[.agg #[v], .int .i64 n, .agg #[.int .i64 b.kind, .int .i64 b.owner, .int .i64 b.x, .int .i64 b.y, .int .i64 b.vx, .int .i64 b.vy, .int .i64 b.aim, .int .i64 b.life, .int .i64 b.timer]] w fun e w' => e = .returned (.bool (fitB L n b)) ∧ Below w.heap.size w w' := by
 obtain ⟨a, cap, rfl, -⟩ := id h
 obtain ⟨W0, hW, hA, hB, hB0, hS0⟩ := rows2 w #[.slice a L.length cap] #[.int .i64 b.kind, .int .i64 b.owner, .int .i64 b.x, .int .i64 b.y, .int .i64 b.vx, .int .i64 b.vy, .int .i64 b.aim, .int .i64 b.life, .int .i64 b.timer] 26 100
 have h0 := h.keep hB0
 have Q00 : inR 0 0 3 = true := rfl
 have hwr : IntKind.i64.wrap (n - 1) = n - 1 := IntWalk.i64_in _ (by omega)
 obtain ⟨S, HS0⟩ : ∃ S : Nat, sizeI b.kind = (S : Int) := Int.eq_ofNat_of_zero_le (sizeI_range _).1
 have HS := Lib.hid HS0
 clear HS0
 go_enter Tryz.func201, Tryz.ntmps201
 go_wp2_with (fail)
 try rw [hW]
 clear hW
 have bs_0 : Below W0.heap.size W0 W0.drew := belowDrew W0 1
 refine wp_region_held_drew (S := (fun w' => (∀ j, w'.cell? ⟨w.heap.size, j, none⟩ = #[Value.slice a L.length cap][j]?) ∧ (∀ j, w'.cell? ⟨w.heap.size + 1, j, none⟩ = #[.int .i64 b.kind, .int .i64 b.owner, .int .i64 b.x, .int .i64 b.y, .int .i64 b.vx, .int .i64 b.vy, .int .i64 b.aim, .int .i64 b.life, .int .i64 b.timer][j]?))) (by kernel_rfl) ?_ (fun hHeld => ?_)
 ·exact ⟨rowCells (keepHeap bs_0 hA), rowCells (keepHeap bs_0 hB)⟩
 refine tk 0 7 ?_
 (try simp only [zP, zA, zB, zC])
 refine tk 1 8 ?_
 (try simp only [zP, zA, zB, zC])
 refine wpAnyH_ready (rs := [2]) (by kernel_rfl) (by simp) ?_
 refine AllReadyH.cons rfl (fun K hK => ?_) AllReadyH.nil
 go_simp
 refine (in_spec _ _ _ _).mono ?_
 rintro e w_x ⟨rfl, rfl⟩
 cases q0 : inR b.kind 0 2 with
 | false =>
  have Q0 := Lib.hid q0
  clear q0
  (try go_wp2_with (fail))
  refine hK.out _ _ ?_ (fun hHeld => ?_)
  ·exact ⟨rowCells (keepHeap bs_0 hA), rowCells (keepHeap bs_0 hB)⟩
  clear hK K
  (try simp only [zP, zA, zB, zC])
  refine tk 3 10 ?_
  (try simp only [zP, zA, zB, zC])
  refine tk 4 11 ?_
  (try simp only [zP, zA, zB, zC])
  refine tof 5 12 4 11 false true ?_
  (try simp only [zP, zA, zB, zC])
  refine tof 6 13 4 11 false true ?_
  (try simp only [zP, zA, zB, zC])
  refine tof 7 14 4 11 false true ?_
  (try simp only [zP, zA, zB, zC])
  refine tof 8 15 4 11 false true ?_
  (try simp only [zP, zA, zB, zC])
  refine tof 9 16 4 11 false true ?_
  (try simp only [zP, zA, zB, zC])
  refine tof 10 17 4 11 false true ?_
  (try simp only [zP, zA, zB, zC])
  refine tk 11 18 ?_
  (try simp only [zP, zA, zB, zC])
  refine tk 12 19 ?_
  (try simp only [zP, zA, zB, zC])
  refine tof 13 20 12 19 false true ?_
  (try simp only [zP, zA, zB, zC])
  refine tof 14 21 12 19 false true ?_
  (try simp only [zP, zA, zB, zC])
  refine tof 15 22 12 19 false true ?_
  (try simp only [zP, zA, zB, zC])
  refine tof 16 23 12 19 false true ?_
  (try simp only [zP, zA, zB, zC])
  refine tof 17 24 12 19 false true ?_
  (try simp only [zP, zA, zB, zC])
  refine tof 18 25 12 19 false true ?_
  (try simp only [zP, zA, zB, zC])
  refine tof 19 26 12 19 false true ?_
  (try simp only [zP, zA, zB, zC])
  refine tof 20 27 12 19 false true ?_
  (try simp only [zP, zA, zB, zC])
  refine tof 21 28 12 19 false true ?_
  (try simp only [zP, zA, zB, zC])
  refine tk 22 29 ?_
  (try simp only [zP, zA, zB, zC])
  refine tk 23 30 ?_
  (try simp only [zP, zA, zB, zC])
  refine tof 24 31 23 30 false true ?_
  (try simp only [zP, zA, zB, zC])
  refine tof 25 32 23 30 false true ?_
  (try simp only [zP, zA, zB, zC])
  refine tof 26 33 23 30 false true ?_
  (try simp only [zP, zA, zB, zC])
  refine tof 27 34 23 30 false true ?_
  (try simp only [zP, zA, zB, zC])
  refine tk 28 35 ?_
  (try simp only [zP, zA, zB, zC])
  refine tk 29 36 ?_
  (try simp only [zP, zA, zB, zC])
  refine tof 30 37 29 36 false true ?_
  (try simp only [zP, zA, zB, zC])
  refine tof 31 38 29 36 false true ?_
  (try simp only [zP, zA, zB, zC])
  refine tof 32 39 29 36 false true ?_
  (try simp only [zP, zA, zB, zC])
  refine tof 33 40 29 36 false true ?_
  (try simp only [zP, zA, zB, zC])
  refine tk 34 41 ?_
  (try simp only [zP, zA, zB, zC])
  refine wpAnyH_done (by kernel_rfl) ?_ _
  have HF := Lib.hid (fit_k (L := L) (n := n) (b := b) Q0.out)
  go_wp2_with (fail)
  go_ret
  exact ⟨by rw [HF.out]; rfl, (hB0.trans (bs_0.mono hB0.size))⟩
 | true =>
  have Q0 := Lib.hid q0
  clear q0
  (try go_wp2_with (fail))
  refine hK.out _ _ ?_ (fun hHeld => ?_)
  ·exact ⟨rowCells (keepHeap bs_0 hA), rowCells (keepHeap bs_0 hB)⟩
  clear hK K
  (try simp only [zP, zA, zB, zC])
  refine tk 3 10 ?_
  (try simp only [zP, zA, zB, zC])
  refine tk 4 11 ?_
  (try simp only [zP, zA, zB, zC])
  refine tw 5 12 4 11 false ?_
  (try simp only [zP, zA, zB, zC])
  refine tw 6 13 4 11 false ?_
  (try simp only [zP, zA, zB, zC])
  refine tw 7 14 4 11 false ?_
  (try simp only [zP, zA, zB, zC])
  refine tw 8 15 4 11 false ?_
  (try simp only [zP, zA, zB, zC])
  refine wpAnyH_ready (rs := [9]) (by kernel_rfl) (by simp) ?_
  refine AllReadyH.cons rfl (fun K hK => ?_) AllReadyH.nil
  go_simp
  refine (in_spec _ _ _ _).mono ?_
  rintro e w_x ⟨rfl, rfl⟩
  cases q1 : inR b.owner 0 (n - 1) with
  | false =>
   have Q1 := Lib.hid q1
   clear q1
   (try go_wp2_with (fail))
   refine hK.out _ _ ?_ (fun hHeld => ?_)
   ·exact ⟨rowCells (keepHeap bs_0 hA), rowCells (keepHeap bs_0 hB)⟩
   clear hK K
   (try simp only [zP, zA, zB, zC])
   refine tw 10 17 4 11 false ?_
   (try simp only [zP, zA, zB, zC])
   refine tk 11 18 ?_
   (try simp only [zP, zA, zB, zC])
   refine tk 12 19 ?_
   (try simp only [zP, zA, zB, zC])
   refine tof 13 20 12 19 false true ?_
   (try simp only [zP, zA, zB, zC])
   refine tof 14 21 12 19 false true ?_
   (try simp only [zP, zA, zB, zC])
   refine tof 15 22 12 19 false true ?_
   (try simp only [zP, zA, zB, zC])
   refine tof 16 23 12 19 false true ?_
   (try simp only [zP, zA, zB, zC])
   refine tof 17 24 12 19 false true ?_
   (try simp only [zP, zA, zB, zC])
   refine tof 18 25 12 19 false true ?_
   (try simp only [zP, zA, zB, zC])
   refine tof 19 26 12 19 false true ?_
   (try simp only [zP, zA, zB, zC])
   refine tof 20 27 12 19 false true ?_
   (try simp only [zP, zA, zB, zC])
   refine tof 21 28 12 19 false true ?_
   (try simp only [zP, zA, zB, zC])
   refine tk 22 29 ?_
   (try simp only [zP, zA, zB, zC])
   refine tk 23 30 ?_
   (try simp only [zP, zA, zB, zC])
   refine tof 24 31 23 30 false true ?_
   (try simp only [zP, zA, zB, zC])
   refine tof 25 32 23 30 false true ?_
   (try simp only [zP, zA, zB, zC])
   refine tof 26 33 23 30 false true ?_
   (try simp only [zP, zA, zB, zC])
   refine tof 27 34 23 30 false true ?_
   (try simp only [zP, zA, zB, zC])
   refine tk 28 35 ?_
   (try simp only [zP, zA, zB, zC])
   refine tk 29 36 ?_
   (try simp only [zP, zA, zB, zC])
   refine tof 30 37 29 36 false true ?_
   (try simp only [zP, zA, zB, zC])
   refine tof 31 38 29 36 false true ?_
   (try simp only [zP, zA, zB, zC])
   refine tof 32 39 29 36 false true ?_
   (try simp only [zP, zA, zB, zC])
   refine tof 33 40 29 36 false true ?_
   (try simp only [zP, zA, zB, zC])
   refine tk 34 41 ?_
   (try simp only [zP, zA, zB, zC])
   refine wpAnyH_done (by kernel_rfl) ?_ _
   have HF := Lib.hid (fit_o (L := L) (n := n) (b := b) Q1.out)
   go_wp2_with (fail)
   go_ret
   exact ⟨by rw [HF.out]; rfl, (hB0.trans (bs_0.mono hB0.size))⟩
  | true =>
   have Q1 := Lib.hid q1
   clear q1
   (try go_wp2_with (fail))
   refine hK.out _ _ ?_ (fun hHeld => ?_)
   ·exact ⟨rowCells (keepHeap bs_0 hA), rowCells (keepHeap bs_0 hB)⟩
   clear hK K
   (try simp only [zP, zA, zB, zC])
   refine tw 10 17 4 11 false ?_
   (try simp only [zP, zA, zB, zC])
   refine tk 11 18 ?_
   (try simp only [zP, zA, zB, zC])
   refine tk 12 19 ?_
   (try simp only [zP, zA, zB, zC])
   refine tw 13 20 12 19 false ?_
   (try simp only [zP, zA, zB, zC])
   refine tw 14 21 12 19 false ?_
   (try simp only [zP, zA, zB, zC])
   refine tw 15 22 12 19 false ?_
   (try simp only [zP, zA, zB, zC])
   refine tw 16 23 12 19 false ?_
   (try simp only [zP, zA, zB, zC])
   refine tw 17 24 12 19 false ?_
   (try simp only [zP, zA, zB, zC])
   refine tw 18 25 12 19 false ?_
   (try simp only [zP, zA, zB, zC])
   refine tw 19 26 12 19 false ?_
   (try simp only [zP, zA, zB, zC])
   refine wpAnyH_ready (rs := [20]) (by kernel_rfl) (by simp) ?_
   refine AllReadyH.cons rfl (fun K hK => ?_) AllReadyH.nil
   go_simp
   refine (sizeOf_spec _ _).mono ?_
   rintro e w_x ⟨rfl, rfl⟩
   rw [HS.out]
   have hS1 : 1 ≤ S := by have := size_kind Q0.out; have := HS.out; omega
   have hS2 : S ≤ 16 := by have := size_kind Q0.out; have := HS.out; omega
   (try go_wp2_with (fail))
   refine hK.out _ _ ?_ (fun hHeld => ?_)
   ·exact ⟨rowCells (keepHeap bs_0 hA), rowCells (keepHeap bs_0 hB)⟩
   clear hK K
   (try simp only [zP, zA, zB, zC])
   refine wpAnyH_ready (rs := [21]) (by kernel_rfl) (by simp) ?_
   refine AllReadyH.cons rfl (fun K hK => ?_) AllReadyH.nil
   go_simp
   refine (solid_spec (h0.keep bs_0) hg b.x b.y S hS1 hS2 hx.2 hy.2 hx.1 hy.1).mono ?_
   rintro e w_1 ⟨rfl, hb_1⟩
   have bs_1 := bs_0.trans (hb_1.mono bs_0.size)
   cases q2 : blockB L b.x b.y (S : Int) with
   | false =>
    have Q2 := Lib.hid q2
    clear q2
    (try go_wp2_with (fail))
    refine hK.out _ _ ?_ (fun hHeld => ?_)
    ·exact ⟨rowCells (keepHeap bs_1 hA), rowCells (keepHeap bs_1 hB)⟩
    clear hK K
    (try simp only [zP, zA, zB, zC])
    refine tk 22 29 ?_
    (try simp only [zP, zA, zB, zC])
    refine tk 23 30 ?_
    (try simp only [zP, zA, zB, zC])
    refine tw 24 31 23 30 false ?_
    (try simp only [zP, zA, zB, zC])
    refine tw 25 32 23 30 false ?_
    (try simp only [zP, zA, zB, zC])
    refine wpAnyH_ready (rs := [26]) (by kernel_rfl) (by simp) ?_
    refine AllReadyH.cons rfl (fun K hK => ?_) AllReadyH.nil
    go_simp
    refine (in_spec _ _ _ _).mono ?_
    rintro e w_x ⟨rfl, rfl⟩
    cases q3 : inR b.vx (-15) 15 with
    | false =>
     have Q3 := Lib.hid q3
     clear q3
     (try go_wp2_with (fail))
     refine hK.out _ _ ?_ (fun hHeld => ?_)
     ·exact ⟨rowCells (keepHeap bs_1 hA), rowCells (keepHeap bs_1 hB)⟩
     clear hK K
     (try simp only [zP, zA, zB, zC])
     refine tw 27 34 23 30 false ?_
     (try simp only [zP, zA, zB, zC])
     refine tk 28 35 ?_
     (try simp only [zP, zA, zB, zC])
     refine tk 29 36 ?_
     (try simp only [zP, zA, zB, zC])
     refine tof 30 37 29 36 false true ?_
     (try simp only [zP, zA, zB, zC])
     refine tof 31 38 29 36 false true ?_
     (try simp only [zP, zA, zB, zC])
     refine tof 32 39 29 36 false true ?_
     (try simp only [zP, zA, zB, zC])
     refine tof 33 40 29 36 false true ?_
     (try simp only [zP, zA, zB, zC])
     refine tk 34 41 ?_
     (try simp only [zP, zA, zB, zC])
     refine wpAnyH_done (by kernel_rfl) ?_ _
     have HF := Lib.hid (fit_x (L := L) (n := n) (b := b) Q3.out)
     go_wp2_with (fail)
     go_ret
     exact ⟨by rw [HF.out]; rfl, (hB0.trans (bs_1.mono hB0.size))⟩
    | true =>
     have Q3 := Lib.hid q3
     clear q3
     (try go_wp2_with (fail))
     refine hK.out _ _ ?_ (fun hHeld => ?_)
     ·exact ⟨rowCells (keepHeap bs_1 hA), rowCells (keepHeap bs_1 hB)⟩
     clear hK K
     (try simp only [zP, zA, zB, zC])
     refine tw 27 34 23 30 false ?_
     (try simp only [zP, zA, zB, zC])
     refine tk 28 35 ?_
     (try simp only [zP, zA, zB, zC])
     refine tk 29 36 ?_
     (try simp only [zP, zA, zB, zC])
     refine tw 30 37 29 36 false ?_
     (try simp only [zP, zA, zB, zC])
     refine tw 31 38 29 36 false ?_
     (try simp only [zP, zA, zB, zC])
     refine wpAnyH_ready (rs := [32]) (by kernel_rfl) (by simp) ?_
     refine AllReadyH.cons rfl (fun K hK => ?_) AllReadyH.nil
     go_simp
     refine (in_spec _ _ _ _).mono ?_
     rintro e w_x ⟨rfl, rfl⟩
     cases q4 : inR b.vy (-15) 15 with
     | false =>
      have Q4 := Lib.hid q4
      clear q4
      (try go_wp2_with (fail))
      refine hK.out _ _ ?_ (fun hHeld => ?_)
      ·exact ⟨rowCells (keepHeap bs_1 hA), rowCells (keepHeap bs_1 hB)⟩
      clear hK K
      (try simp only [zP, zA, zB, zC])
      refine tw 33 40 29 36 false ?_
      (try simp only [zP, zA, zB, zC])
      refine tk 34 41 ?_
      (try simp only [zP, zA, zB, zC])
      refine wpAnyH_done (by kernel_rfl) ?_ _
      have HF := Lib.hid (fit_y (L := L) (n := n) (b := b) Q4.out)
      go_wp2_with (fail)
      go_ret
      exact ⟨by rw [HF.out]; rfl, (hB0.trans (bs_1.mono hB0.size))⟩
     | true =>
      have Q4 := Lib.hid q4
      clear q4
      (try go_wp2_with (fail))
      refine hK.out _ _ ?_ (fun hHeld => ?_)
      ·exact ⟨rowCells (keepHeap bs_1 hA), rowCells (keepHeap bs_1 hB)⟩
      clear hK K
      (try simp only [zP, zA, zB, zC])
      refine tw 33 40 29 36 false ?_
      (try simp only [zP, zA, zB, zC])
      refine tk 34 41 ?_
      (try simp only [zP, zA, zB, zC])
      refine wpAnyH_done (by kernel_rfl) ?_ _
      have HF0 := Lib.hid (fit_all (L := L) (n := n) (b := b) Q0.out Q1.out (by rw [HS.out]; exact Q2.out) Q3.out Q4.out)
      have hA9 := keepHeap bs_1 hA
      have hB9 := keepHeap bs_1 hB
      have hb9 := hB0.trans (bs_1.mono hB0.size)
      have cB9 := rowCells hB9
      rcases kind3 Q0.out with hk | hk | hk
      ·have HP := Lib.hid (HF0.out.trans (kind_0 hk))
       by_cases ha : b.aim = 1 ∨ b.aim = -1
       ·have za : (b.aim != 1 && b.aim != -1) = false := by rcases ha with h | h <;> simp [h]
        cases ql : inR b.life 0 3 with
        | false =>
         have QL := Lib.hid ql
         have HF := Lib.hid (show fitB L n b = false by rw [HP.out, ql]; simp)
         clear ql HP
         rcases ha with ha | ha
         all_goals
          go_wp2_with (fail)
          refine (in_spec _ _ _ _).mono ?_
          rintro e w1 ⟨rfl, rfl⟩
          rw [QL.out]
          go_wp2_with (fail)
          go_ret
          exact ⟨by rw [HF.out]; rfl, hb9⟩
        | true =>
         have QL := Lib.hid ql
         have haim : aimB b = true := by unfold aimB; rcases ha with h | h <;> rw [h] <;> rfl
         by_cases hl : b.life = 0
         ·have HF := Lib.hid (show fitB L n b = inR b.timer 1 20 by rw [HP.out, ql, haim, if_pos hl]; rfl)
          clear ql HP haim za
          rcases ha with ha | ha
          all_goals
           go_wp2_with (fail)
           refine (in_spec _ _ _ _).mono ?_
           rintro e w1 ⟨rfl, rfl⟩
           (first | rw [QL.out] | rw [Q00])
           go_wp2_with (fail)
           refine (in_spec _ _ _ _).mono ?_
           rintro e w1 ⟨rfl, rfl⟩
           go_wp2_with (fail)
           go_ret
           exact ⟨by rw [HF.out]; rfl, hb9⟩
         ·have HF := Lib.hid (show fitB L n b = inR b.timer 0 12 by rw [HP.out, ql, haim, if_neg hl]; rfl)
          clear ql HP haim za
          rcases ha with ha | ha
          all_goals
           go_wp2_with (fail)
           refine (in_spec _ _ _ _).mono ?_
           rintro e w1 ⟨rfl, rfl⟩
           (first | rw [QL.out] | rw [Q00])
           go_wp2_with (fail)
           refine (in_spec _ _ _ _).mono ?_
           rintro e w1 ⟨rfl, rfl⟩
           go_wp2_with (fail)
           go_ret
           exact ⟨by rw [HF.out]; rfl, hb9⟩
       ·have haim : aimB b = false := by unfold aimB; simp only [not_or] at ha; simp [ha.1, ha.2]
        have HF := Lib.hid (show fitB L n b = false by rw [HP.out, haim]; rfl)
        have h1 : ¬ b.aim = 1 := fun h => ha (.inl h)
        have h2 : ¬ b.aim = -1 := fun h => ha (.inr h)
        have z1 : (b.aim != 1) = true := by simp [h1]
        have z2 : (b.aim != -1) = true := by simp [h2]
        clear ha HP haim
        go_wp2_with (fail)
        go_ret
        exact ⟨by rw [HF.out]; rfl, hb9⟩
      ·have HP := Lib.hid (HF0.out.trans (kind_1 hk))
       by_cases h1 : b.aim = 0
       ·by_cases h2 : b.life = 0
        ·have HF := Lib.hid (show fitB L n b = inR b.timer 1 25 by rw [HP.out, h1, h2]; rfl)
         clear HP
         go_wp2_with (fail)
         refine (in_spec _ _ _ _).mono ?_
         rintro e w1 ⟨rfl, rfl⟩
         go_wp2_with (fail)
         go_ret
         exact ⟨by rw [HF.out]; rfl, hb9⟩
        ·have HF := Lib.hid (show fitB L n b = false by rw [HP.out, h1]; simp [h2])
         have z2 : (b.life == 0) = false := by simp [h2]
         clear HP
         go_wp2_with (fail)
         go_ret
         exact ⟨by rw [HF.out]; rfl, hb9⟩
       ·have HF := Lib.hid (show fitB L n b = false by rw [HP.out]; simp [h1])
        have z1 : (b.aim == 0) = false := by simp [h1]
        clear HP
        go_wp2_with (fail)
        go_ret
        exact ⟨by rw [HF.out]; rfl, hb9⟩
      ·have HP := Lib.hid (HF0.out.trans (kind_2 hk))
       by_cases h0 : b.owner = 0
       ·by_cases h1 : b.aim = 0
        ·by_cases h2 : b.life = 0
         ·by_cases h3 : b.timer = 0
          ·have HF := Lib.hid (show fitB L n b = true by rw [HP.out, h0, h1, h2, h3]; rfl)
           clear HP
           go_wp2_with (fail)
           go_ret
           exact ⟨by rw [HF.out]; rfl, hb9⟩
          ·have HF := Lib.hid (show fitB L n b = false by rw [HP.out]; simp [h3])
           have z1 : (b.timer == 0) = false := by simp [h3]
           clear HP
           go_wp2_with (fail)
           go_ret
           exact ⟨by rw [HF.out]; rfl, hb9⟩
         ·have HF := Lib.hid (show fitB L n b = false by rw [HP.out]; simp [h2])
          have z1 : (b.life == 0) = false := by simp [h2]
          clear HP
          go_wp2_with (fail)
          go_ret
          exact ⟨by rw [HF.out]; rfl, hb9⟩
        ·have HF := Lib.hid (show fitB L n b = false by rw [HP.out]; simp [h1])
         have z1 : (b.aim == 0) = false := by simp [h1]
         clear HP
         go_wp2_with (fail)
         go_ret
         exact ⟨by rw [HF.out]; rfl, hb9⟩
       ·have HF := Lib.hid (show fitB L n b = false by rw [HP.out]; simp [h0])
        have z1 : (b.owner == 0) = false := by simp [h0]
        clear HP
        go_wp2_with (fail)
        go_ret
        exact ⟨by rw [HF.out]; rfl, hb9⟩
   | true =>
    have Q2 := Lib.hid q2
    clear q2
    (try go_wp2_with (fail))
    refine hK.out _ _ ?_ (fun hHeld => ?_)
    ·exact ⟨rowCells (keepHeap bs_1 hA), rowCells (keepHeap bs_1 hB)⟩
    clear hK K
    (try simp only [zP, zA, zB, zC])
    refine tk 22 29 ?_
    (try simp only [zP, zA, zB, zC])
    refine tk 23 30 ?_
    (try simp only [zP, zA, zB, zC])
    refine tof 24 31 23 30 false true ?_
    (try simp only [zP, zA, zB, zC])
    refine tof 25 32 23 30 false true ?_
    (try simp only [zP, zA, zB, zC])
    refine tof 26 33 23 30 false true ?_
    (try simp only [zP, zA, zB, zC])
    refine tof 27 34 23 30 false true ?_
    (try simp only [zP, zA, zB, zC])
    refine tk 28 35 ?_
    (try simp only [zP, zA, zB, zC])
    refine tk 29 36 ?_
    (try simp only [zP, zA, zB, zC])
    refine tof 30 37 29 36 false true ?_
    (try simp only [zP, zA, zB, zC])
    refine tof 31 38 29 36 false true ?_
    (try simp only [zP, zA, zB, zC])
    refine tof 32 39 29 36 false true ?_
    (try simp only [zP, zA, zB, zC])
    refine tof 33 40 29 36 false true ?_
    (try simp only [zP, zA, zB, zC])
    refine tk 34 41 ?_
    (try simp only [zP, zA, zB, zC])
    refine wpAnyH_done (by kernel_rfl) ?_ _
    have HF := Lib.hid (fit_s (L := L) (n := n) (b := b) (by rw [HS.out]; exact Q2.out))
    go_wp2_with (fail)
    go_ret
    exact ⟨by rw [HF.out]; rfl, (hB0.trans (bs_1.mono hB0.size))⟩
end Go.Proofs.YtnlonkkbjkfkmaaGreatDoor
