/-
  Texts of this proof: SteerP.
-/
import Derived.Test.YtdnnejohfhmliaaDoorM43
namespace Go.Proofs.YtdnnejohfhmliaaDoor
open Go.RowKit
set_option linter.all false
def stpB (L : Rowz) (b : Bd) (i : Int) : Bool := inR b.owner 0 3 && (levelB L && (fitB L (b.owner + 1) b && (decide (b.kind = 0) && (decide (1 ≤ b.life) && inR i 0 15))))
def stB (L : Rowz) (b : Bd) (i : Int) : Bd := if stpB L b i = true then strB L b i else b
def stT (L : Rowz) (b : Bd) (i : Int) : Bool := if stpB L b i = true then strT b i else false
section
variable {L : Rowz} {b : Bd} {i : Int}
theorem st_no (h : stpB L b i = false) : stB L b i = b ∧ stT L b i = false := by unfold stB stT; rw [h]; exact ⟨rfl, rfl⟩
theorem st_go (h : stpB L b i = true) : stB L b i = strB L b i ∧ stT L b i = strT b i := by unfold stB stT; rw [h]; exact ⟨rfl, rfl⟩
theorem no_o (h : inR b.owner 0 3 = false) : stpB L b i = false := by unfold stpB; rw [h]; rfl
theorem no_l (h : levelB L = false) : stpB L b i = false := by unfold stpB; rw [h]; simp
theorem no_f (h : fitB L (b.owner + 1) b = false) : stpB L b i = false := by unfold stpB; rw [h]; simp
theorem no_k (h : ¬ b.kind = 0) : stpB L b i = false := by unfold stpB; simp [h]
theorem no_v (h : b.life < 1) : stpB L b i = false := by
  have : ¬ 1 ≤ b.life := by omega
  unfold stpB; simp [this]
theorem no_i (h : inR i 0 15 = false) : stpB L b i = false := by unfold stpB; rw [h]; simp
theorem yes_all (ho : inR b.owner 0 3 = true) (hl : levelB L = true) (hf : fitB L (b.owner + 1) b = true) (hk : b.kind = 0) (hv : ¬ b.life < 1) (hi : inR i 0 15 = true) : stpB L b i = true := by
  have : 1 ≤ b.life := by omega
  unfold stpB; rw [ho, hl, hf, hi]; simp [hk, this]
theorem steer_facts {n : Int} (hg : Good L) (hf : fitB L n b = true) (hk : b.kind = 0) (hv : ¬ b.life < 1) : (-9223372036854775808 ≤ b.y ∧ b.y ≤ 1000) ∧ (0 ≤ b.timer ∧ b.timer ≤ 12) ∧ (-15 ≤ b.vy ∧ b.vy ≤ 15) := by
  have hr : inR b.kind 0 2 = true := by rw [hk]; rfl
  rw [fit_eq hr] at hf
  simp only [Bool.and_eq_true] at hf
  obtain ⟨h1, h2, h3⟩ := hf
  unfold rngB at h1
  rw [kind_0 hk] at h1
  simp only [Bool.and_eq_true] at h1
  have hz : ¬ b.life = 0 := by omega
  rw [if_neg hz] at h1
  unfold spdB at h2
  rw [Bool.and_eq_true] at h2
  have e1 := (inR_iff _ _ _).1 h1.2.2.2
  have e2 := (inR_iff _ _ _).1 h2.2
  have hs : sizeI b.kind = ((12 : Nat) : Int) := by rw [hk]; rfl
  rw [hs] at h3
  obtain ⟨p1, p2, p3, p4⟩ := blockB_place hg (show blockB L b.x b.y ((12 : Nat) : Int) = false by simpa using h3)
  exact ⟨⟨by omega, by omega⟩, e1, e2⟩
end
set_option maxRecDepth 100000 in
set_option maxHeartbeats 8000000 in
theorem steerPlayer_impl {w : World} {v : Value} {L : Rowz} (h : RdS w v L) (hs : Sane L) (b : Bd) (hx : I64 b.x) (hy : I64 b.y) (i : Int) :
    Calls Tryd.prog 18 #[.agg #[v], .agg #[.int .i64 b.kind, .int .i64 b.owner, .int .i64 b.x, .int .i64 b.y, .int .i64 b.vx, .int .i64 b.vy, .int .i64 b.aim, .int .i64 b.life, .int .i64 b.timer], .int .i64 i] w fun e w' => e = .returned (.tuple #[bdV (stB L b i), .bool (stT L b i)]) ∧ Below w.heap.size w w' := by
  obtain ⟨a, cap, rfl, -⟩ := id h
  obtain ⟨W0, hW, hA, hB, hC, hB0, hS0⟩ := rows3 w #[.slice a L.length cap] #[.int .i64 b.kind, .int .i64 b.owner, .int .i64 b.x, .int .i64 b.y, .int .i64 b.vx, .int .i64 b.vy, .int .i64 b.aim, .int .i64 b.life, .int .i64 b.timer] bd0 26 36 36
  have cA := rowCells hA
  have cB := rowCells hB
  have cC := rowCells hC
  have fC := fun j => frozenHeap hC j
  unfold bd0 at hW cC
  go_enter Tryd.func18, Tryd.ntmps18
  go_wp2_with (fail)
  try rw [hW]
  clear hW
  refine (levelOk_impl (h.keep hB0) hs).mono ?_
  rintro e w1 ⟨rfl, hb1⟩
  have hA1 := keepHeap hb1 hA
  have hB1 := keepHeap hb1 hB
  have hC1 := keepHeap hb1 hC
  have hb01 := hB0.trans (hb1.mono hB0.size)
  have cA1 := rowCells hA1
  have cB1 := rowCells hB1
  have cC1 := rowCells hC1
  have fC1 := fun j => frozenHeap hC1 j
  unfold bd0 at cC1
  have r1 := h.keep hb01
  clear hA hB hC cA cB cC fC
  cases hl : levelB L with
  | false =>
    obtain ⟨e1, e2⟩ := st_no (L := L) (b := b) (i := i) (no_l hl)
    have HB := Lib.hid e1
    have HT := Lib.hid e2
    clear e1 e2
    clear hl
    go_wp2_with (fail)
    have hP := putB_heap hC1 rfl b b.x b.y b.vx b.vy
    have hL := load_bd hP rfl
    have hbP := putB_below hb01 (c := w.heap.size + 1 + 1) (by omega) b b.x b.y b.vx b.vy
    unfold putB at hL hbP
    refine bodyPost_ret (v := .tuple #[.agg (bmv b b.x b.y b.vx b.vy), .bool false]) (results_two rfl _ _ _ _ _ rfl rfl hL) rfl ⟨?_, hbP⟩
    rw [HB.out, HT.out]; rfl
  | true =>
    have hg := levelB_facts hl
    have HLV := Lib.hid hl
    clear hl
    by_cases hk : b.kind = 0
    rotate_left
    · have z1 : (b.kind != 0) = true := by simp [hk]
      obtain ⟨e1, e2⟩ := st_no (L := L) (b := b) (i := i) (no_k hk)
      have HB := Lib.hid e1
      have HT := Lib.hid e2
      clear e1 e2
      clear hk
      go_wp2_with (fail)
      have hP := putB_heap hC1 rfl b b.x b.y b.vx b.vy
      have hL := load_bd hP rfl
      have hbP := putB_below hb01 (c := w.heap.size + 1 + 1) (by omega) b b.x b.y b.vx b.vy
      unfold putB at hL hbP
      refine bodyPost_ret (v := .tuple #[.agg (bmv b b.x b.y b.vx b.vy), .bool false]) (results_two rfl _ _ _ _ _ rfl rfl hL) rfl ⟨?_, hbP⟩
      rw [HB.out, HT.out]; rfl
    have z1 : (b.kind != 0) = false := by simp [hk]
    have HK := Lib.hid hk
    clear hk
    by_cases hv : b.life < 1
    · have z2 : decide (b.life < 1) = true := by simpa using hv
      obtain ⟨e1, e2⟩ := st_no (L := L) (b := b) (i := i) (no_v hv)
      have HB := Lib.hid e1
      have HT := Lib.hid e2
      clear e1 e2
      clear hv
      go_wp2_with (fail)
      have hP := putB_heap hC1 rfl b b.x b.y b.vx b.vy
      have hL := load_bd hP rfl
      have hbP := putB_below hb01 (c := w.heap.size + 1 + 1) (by omega) b b.x b.y b.vx b.vy
      unfold putB at hL hbP
      refine bodyPost_ret (v := .tuple #[.agg (bmv b b.x b.y b.vx b.vy), .bool false]) (results_two rfl _ _ _ _ _ rfl rfl hL) rfl ⟨?_, hbP⟩
      rw [HB.out, HT.out]; rfl
    have z2 : decide (b.life < 1) = false := by simpa using hv
    have HV := Lib.hid hv
    clear hv
    go_wp2_with (fail)
    refine (within_impl _ _ _ _).mono ?_
    rintro e w2 ⟨rfl, rfl⟩
    cases qo : inR b.owner 0 3 with
    | false =>
      obtain ⟨e1, e2⟩ := st_no (L := L) (b := b) (i := i) (no_o qo)
      have HB := Lib.hid e1
      have HT := Lib.hid e2
      clear e1 e2
      clear qo
      go_wp2_with (fail)
      have hP := putB_heap hC1 rfl b b.x b.y b.vx b.vy
      have hL := load_bd hP rfl
      have hbP := putB_below hb01 (c := w.heap.size + 1 + 1) (by omega) b b.x b.y b.vx b.vy
      unfold putB at hL hbP
      refine bodyPost_ret (v := .tuple #[.agg (bmv b b.x b.y b.vx b.vy), .bool false]) (results_two rfl _ _ _ _ _ rfl rfl hL) rfl ⟨?_, hbP⟩
      rw [HB.out, HT.out]; rfl
    | true =>
      have QO := Lib.hid qo
      have hwo : IntKind.i64.wrap (b.owner + 1) = b.owner + 1 := IntWalk.i64_in _ (by have := (inR_iff _ _ _).1 qo; omega)
      have hoo := (inR_iff _ _ _).1 qo
      obtain ⟨ho1, ho2⟩ := hoo
      clear qo
      go_wp2_with (fail)
      refine (within_impl _ _ _ _).mono ?_
      rintro e w2 ⟨rfl, rfl⟩
      cases qi : inR i 0 15 with
      | false =>
        obtain ⟨e1, e2⟩ := st_no (L := L) (b := b) (i := i) (no_i qi)
        have HB := Lib.hid e1
        have HT := Lib.hid e2
        clear e1 e2
        clear qi
        go_wp2_with (fail)
        have hP := putB_heap hC1 rfl b b.x b.y b.vx b.vy
        have hL := load_bd hP rfl
        have hbP := putB_below hb01 (c := w.heap.size + 1 + 1) (by omega) b b.x b.y b.vx b.vy
        unfold putB at hL hbP
        refine bodyPost_ret (v := .tuple #[.agg (bmv b b.x b.y b.vx b.vy), .bool false]) (results_two rfl _ _ _ _ _ rfl rfl hL) rfl ⟨?_, hbP⟩
        rw [HB.out, HT.out]; rfl
      | true =>
        have QI := Lib.hid qi
        clear qi
        go_wp2_with (fail)
        refine (bodyFits_impl r1 hg b hx hy (b.owner + 1)).mono ?_
        rintro e w2 ⟨rfl, hb2⟩
        have hA2 := keepHeap hb2 hA1
        have hB2 := keepHeap hb2 hB1
        have hC2 := keepHeap hb2 hC1
        have hb02 := hb01.trans (hb2.mono hb01.size)
        have cA2 := rowCells hA2
        have cB2 := rowCells hB2
        have cC2 := rowCells hC2
        have fC2 := fun j => frozenHeap hC2 j
        unfold bd0 at cC2
        have r2 := h.keep hb02
        clear hA1 hB1 hC1 cA1 cB1 cC1 fC1
        cases qf : fitB L (b.owner + 1) b with
        | false =>
          obtain ⟨e1, e2⟩ := st_no (L := L) (b := b) (i := i) (no_f qf)
          have HB := Lib.hid e1
          have HT := Lib.hid e2
          clear e1 e2
          clear qf
          go_wp2_with (fail)
          have hP := putB_heap hC2 rfl b b.x b.y b.vx b.vy
          have hL := load_bd hP rfl
          have hbP := putB_below hb02 (c := w.heap.size + 1 + 1) (by omega) b b.x b.y b.vx b.vy
          unfold putB at hL hbP
          refine bodyPost_ret (v := .tuple #[.agg (bmv b b.x b.y b.vx b.vy), .bool false]) (results_two rfl _ _ _ _ _ rfl rfl hL) rfl ⟨?_, hbP⟩
          rw [HB.out, HT.out]; rfl
        | true =>
          have QF := Lib.hid qf
          clear qf
          obtain ⟨hyy, htt, hvv⟩ := steer_facts hg QF.out HK.out (by have := HV.out; omega)
          have hii := (inR_iff _ _ _).1 QI.out
          have hM := steerIn_impl r2 hg b HK.out hx hyy htt hvv i hii
          obtain ⟨e1, e2⟩ := st_go (L := L) (b := b) (i := i) (yes_all QO.out HLV.out QF.out HK.out (by have := HV.out; omega) QI.out)
          rw [← e1, ← e2] at hM
          obtain ⟨c, hc⟩ : ∃ c, c = stB L b i := ⟨_, rfl⟩
          obtain ⟨t, ht⟩ : ∃ t, t = stT L b i := ⟨_, rfl⟩
          rw [← hc, ← ht] at hM
          have HB := Lib.hid hc
          have HT := Lib.hid ht
          clear hc ht e1 e2 hyy htt hvv hii
          unfold bdV at hM
          go_wp2_with (fail)
          refine hM.mono ?_
          rintro e w3 ⟨rfl, hb3⟩
          clear hM
          have hA3 := keepHeap hb3 hA2
          have hB3 := keepHeap hb3 hB2
          have hC3 := keepHeap hb3 hC2
          have hb03 := hb02.trans (hb3.mono hb02.size)
          have cA3 := rowCells hA3
          have cB3 := rowCells hB3
          have cC3 := rowCells hC3
          have fC3 := fun j => frozenHeap hC3 j
          unfold bd0 at cC3
          have r3 := h.keep hb03
          clear hA2 hB2 hC2 cA2 cB2 cC2 fC2
          go_wp2_with (fail)
          have hP := putB_heap hC3 rfl c c.x c.y c.vx c.vy
          have hL := load_bd hP rfl
          have hbP := putB_below hb03 (c := w.heap.size + 1 + 1) (by omega) c c.x c.y c.vx c.vy
          unfold putB at hL hbP
          exact bodyPost_ret (v := .tuple #[.agg (bmv c c.x c.y c.vx c.vy), .bool t]) (results_two rfl _ _ _ _ _ rfl rfl hL) rfl ⟨by rw [← HB.out, ← HT.out]; rfl, hbP⟩
end Go.Proofs.YtdnnejohfhmliaaDoor
