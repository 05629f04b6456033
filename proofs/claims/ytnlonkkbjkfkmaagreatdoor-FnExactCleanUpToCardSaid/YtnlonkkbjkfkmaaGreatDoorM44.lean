/-
  Texts of this proof: WdO.
-/
import Derived.Test.YtnlonkkbjkfkmaaGreatDoorM33
import Derived.Test.YtnlonkkbjkfkmaaGreatDoorM43
namespace Go.Proofs.YtnlonkkbjkfkmaaGreatDoor
open Go.RowKit
set_option linter.all false
theorem bodAt_fit {L : Rowz} {n k : Nat} {b : Bd} (h : fitB L (n : Int) b = false) : bodAt L n k b = false := by unfold bodAt; rw [h]; rfl
theorem bodAt_kind {L : Rowz} {n k : Nat} {b : Bd} (h : ¬ (b.kind = 0 ↔ k < n)) : bodAt L n k b = false := by
 have : (decide (b.kind = 0) == decide (k < n)) = false := by
  by_cases h1 : b.kind = 0 <;> by_cases h2 : k < n <;> simp [h1, h2] at h ⊢
 unfold bodAt; rw [this]; simp
theorem bodAt_owner {L : Rowz} {n k : Nat} {b : Bd} (h1 : k < n) (h : ¬ b.owner = (k : Int)) : bodAt L n k b = false := by
 have : (decide (n ≤ k) || decide (b.owner = (k : Int))) = false := by simp; omega
 unfold bodAt; rw [this]; simp
theorem bodAt_ok {L : Rowz} {n k : Nat} {b : Bd} (h1 : fitB L (n : Int) b = true) (h2 : b.kind = 0 ↔ k < n) (h3 : k < n → b.owner = (k : Int)) : bodAt L n k b = true := by
 have e1 : (decide (b.kind = 0) == decide (k < n)) = true := by
  by_cases h1 : b.kind = 0 <;> by_cases h4 : k < n <;> simp [h1, h4] at h2 ⊢
 have e2 : (decide (n ≤ k) || decide (b.owner = (k : Int))) = true := by
  by_cases h4 : k < n
  ·simp [h3 h4]
  ·simp; omega
 unfold bodAt; rw [h1, e1, e2]; rfl
set_option maxRecDepth 100000 in
set_option maxHeartbeats 4000000 in
theorem worldOk_impl {w : World} {x : Wd} {vl vs vb : Value} (h : RdW w x vl vs vb) (hs : x.sane) :
  Calls Tryz.prog 63 #[.agg (wdC x vl vs vb)] w fun e w' => e = .returned (.bool (worldB x)) ∧ Below w.heap.size w w' := by
 obtain ⟨hs1, hs2, hs3, hs4⟩ := hs
 have h0 := h
 obtain ⟨al, cl, rfl, -⟩ := id h.1
 obtain ⟨aq, cq, rfl, -⟩ := id h.2.1
 obtain ⟨ab, cb, rfl, hb9⟩ := id h.2.2
 unfold wdC
 obtain ⟨W0, hW, hA, hB0, hS0⟩ := rows1 w #[.slice al x.rows.length cl, .int .i64 x.tick, .int .i64 x.seed, .slice aq x.scores.length cq, .slice ab x.bods.length cb] 30
 have cA := rowCells hA
 have hlq : (x.scores.length : Int) ≤ 9223372036854775807 := by omega
 have hlb : (x.bods.length : Int) ≤ 9223372036854775807 := by omega
 go_enter Tryz.func63, Tryz.ntmps63
 go_wp2_with (fail)
 try rw [hW]
 clear hW
 refine (levelOk_impl (h0.keep hB0).1 hs1).mono ?_
 rintro e w1 ⟨rfl, hb1⟩
 have hA1 := keepHeap hb1 hA
 have hb01 := hB0.trans (hb1.mono hB0.size)
 have h1 := h0.keep hb01
 have cA1 := rowCells hA1
 clear cA hA
 cases ql : levelB x.rows with
 | false =>
  have HF := Lib.hid (wd_l ql)
  clear ql
  go_wp2_with (fail)
  go_ret
  exact ⟨by rw [HF.out]; rfl, hb01⟩
 | true =>
 have hg := levelB_facts ql
 have QL := Lib.hid ql
 clear ql
 go_wp2_with (fail)
 refine (within_impl _ _ _ _).mono ?_
 rintro e w2 ⟨rfl, rfl⟩
 cases q2 : inR x.tick 0 100000 with
 | false =>
  have HF := Lib.hid (wd_t q2)
  clear q2
  go_wp2_with (fail)
  go_ret
  exact ⟨by rw [HF.out]; rfl, hb01⟩
 | true =>
 have Q2 := Lib.hid q2
 clear q2
 go_wp2_with (fail)
 refine (within_impl _ _ _ _).mono ?_
 rintro e w2 ⟨rfl, rfl⟩
 cases q3 : inR x.seed 0 65535 with
 | false =>
  have HF := Lib.hid (wd_s q3)
  clear q3
  go_wp2_with (fail)
  go_ret
  exact ⟨by rw [HF.out]; rfl, hb01⟩
 | true =>
 have Q3 := Lib.hid q3
 clear q3
 go_wp2_with (fail)
 refine (within_impl _ _ _ _).mono ?_
 rintro e w2 ⟨rfl, rfl⟩
 cases q4 : inR (x.scores.length : Int) 1 4 with
 | false =>
  have HF := Lib.hid (wd_n q4)
  clear q4
  go_wp2_with (fail)
  go_ret
  exact ⟨by rw [HF.out]; rfl, hb01⟩
 | true =>
 have hn4 := (inR_iff _ _ _).1 q4
 have Q4 := Lib.hid q4
 clear q4
 go_wp2_with (fail)
 refine (within_impl _ _ _ _).mono ?_
 rintro e w2 ⟨rfl, rfl⟩
 cases q5 : inR (x.bods.length : Int) (x.scores.length : Int) 24 with
 | false =>
  have HF := Lib.hid (wd_m q5)
  clear q5
  go_wp2_with (fail)
  go_ret
  exact ⟨by rw [HF.out]; rfl, hb01⟩
 | true =>
 have hm24 := (inR_iff _ _ _).1 q5
 have Q5 := Lib.hid q5
 clear q5
 go_wp2_with (fail)
 refine (allWithin_any h1.2.1 hs2 0 1000000).mono ?_
 rintro e w2 ⟨rfl, rfl⟩
 cases q6 : allW 0 1000000 x.scores with
 | false =>
  have HF := Lib.hid (wd_w q6)
  clear q6
  go_wp2_with (fail)
  go_ret
  exact ⟨by rw [HF.out]; rfl, hb01⟩
 | true =>
 have Q6 := Lib.hid q6
 clear q6
 obtain ⟨n, hn⟩ : ∃ n, n = x.scores.length := ⟨_, rfl⟩
 have HBAD : Hid (∀ k (hk : k < x.bods.length), bodAt x.rows n k x.bods[k] = false → worldB x = false) := Lib.hid (fun k hk hb => wd_b (by rw [← hn]; exact bodsB_bad hk hb))
 have HOK : Hid ((∀ k (hk : k < x.bods.length), bodAt x.rows n k x.bods[k] = true) → worldB x = true) := Lib.hid (fun hb => wd_ok QL.out Q2.out Q3.out Q4.out Q5.out Q6.out (by rw [← hn]; exact bodsB_ok hb))
 rw [← hn] at hn4 hm24 hA1 hlq ⊢
 have cA1 := rowCells hA1
 have hn5 : n ≤ 4 := by omega
 have hm5 : x.bods.length ≤ 24 := by omega
 clear Q2 Q3 Q4 Q5 Q6 QL hn
 go_wp2_with (fail)
 go_loopw [43] (fun i wr => ∃ k : Nat, k ≤ x.bods.length ∧ i = .int .i64 (k : Int) ∧ Below w1.heap.size w1 wr ∧ Hid (∀ j (hj : j < x.bods.length), j < k → bodAt x.rows n j x.bods[j] = true)) (fun i _ => x.bods.length - (intOf i).toNat)
 case atStart => exact ⟨0, Nat.zero_le _, rfl, Below.refl _ _, Lib.hid (fun j hj hl => by omega)⟩
 case round =>
  obtain ⟨k, hk, rfl, hbel, HA⟩ := hrel
  have hb0r := hb01.trans (hbel.mono hb01.size)
  by_cases hkl : k < x.bods.length
  ·obtain ⟨bb, off, rfl, hc⟩ := hb9.resolve_left (by intro e; rw [e] at hkl; simp at hkl)
   have c0 := hc k hkl
   have c1 : wr.rangeAt bb (off + k * 9) (bdL x.bods[k]) := rangeKeep c0 hb0r (rangeLt c0)
   have hf := hs4 x.bods[k] (List.getElem_mem _)
   have HB1 := Lib.hid (HBAD.out k hkl)
   obtain ⟨b, hb⟩ : ∃ b, b = x.bods[k] := ⟨_, rfl⟩
   rw [← hb] at c1 hf HB1
   have HBK := Lib.hid hb
   have hx : I64 b.x := I64.of hf.2.2.1
   have hy : I64 b.y := I64.of hf.2.2.2.1
   have hkk : (k : Int) < (x.bods.length : Int) := by omega
   have hAr := keepHeap hbel hA1
   have cAr := rowCells hAr
   have hr := h0.keep hb0r
   have hszr := hb0r.size
   clear hc c0 hb hf cA1 h1
   obtain ⟨d0, d1, d2, d3, d4, d5, d6, d7, d8⟩ := cells9 c1
   obtain ⟨W5, hW5, hP5, hb5⟩ : ∃ W, wr.alloc (.cells #[.int .i64 b.kind, .int .i64 b.owner, .int .i64 b.x, .int .i64 b.y, .int .i64 b.vx, .int .i64 b.vy, .int .i64 b.aim, .int .i64 b.life, .int .i64 b.timer] 100) = W ∧ W.heap[wr.heap.size]? = some (.cells #[.int .i64 b.kind, .int .i64 b.owner, .int .i64 b.x, .int .i64 b.y, .int .i64 b.vx, .int .i64 b.vy, .int .i64 b.aim, .int .i64 b.life, .int .i64 b.timer] 100 (0, 0)) ∧ Below wr.heap.size wr W := ⟨_, rfl, heap_alloc_new _ _, below1 _ _⟩
   have hA5 := keepHeap hb5 hAr
   have cP5 := rowCells hP5
   have cA5 := rowCells hA5
   have hb05 := hb0r.trans (hb5.mono hszr)
   have hbel5 := hbel.trans (hb5.mono hbel.size)
   have hF := bodyFits_impl (h0.keep hb05).1 hg b hx hy (n : Int)
   clear c1 hr
   by_cases hk0 : b.kind = 0
   ·have z1 : (b.kind == 0) = true := by simpa using hk0
    have HK0 := Lib.hid hk0
    clear hk0
    by_cases hkn : k < n
    ·have hkn' : (k : Int) < (n : Int) := by omega
     by_cases ho : b.owner = (k : Int)
     ·have z2 : (b.owner != (k : Int)) = false := by simpa using ho
      have HO := Lib.hid ho
      clear ho
      go_wp2_with (fail)
      try rw [hW5]
      clear hW5
      refine hF.mono ?_
      rintro e w6 ⟨rfl, hb6⟩
      have hbel6 := hbel5.trans (hb6.mono hbel5.size)
      cases hq : fitB x.rows (n : Int) b with
      | false =>
       have HF := Lib.hid (HB1.out (bodAt_fit hq))
       clear hq
       go_wp2_with (fail)
       go_ret
       exact ⟨by rw [HF.out]; rfl, hb01.trans (hbel6.mono hb01.size)⟩
      | true =>
       have HQ := Lib.hid (bodAt_ok (k := k) hq ⟨fun _ => hkn, fun _ => HK0.out⟩ (fun _ => HO.out))
       clear hq
       go_wp2_with (fail)
       go_roundw
       case rel =>
        refine ⟨k + 1, by omega, by go_num, hbel6, Lib.hid (fun j hj hl => ?_)⟩
        by_cases e : j = k
        ·subst e; rw [← HBK.out]; exact HQ.out
        ·exact HA.out j hj (by omega)
       case measure => simp [intOf]; omega
     ·have z2 : (b.owner != (k : Int)) = true := by simpa using ho
      have HF := Lib.hid (HB1.out (bodAt_owner hkn ho))
      clear ho
      go_wp2_with (fail)
      try rw [hW5]
      clear hW5
      go_ret
      exact ⟨by rw [HF.out]; rfl, hb01.trans (hbel5.mono hb01.size)⟩
    ·have hkn' : ¬ (k : Int) < (n : Int) := by omega
     have HF := Lib.hid (HB1.out (bodAt_kind (fun e => hkn (e.1 HK0.out))))
     go_wp2_with (fail)
     try rw [hW5]
     clear hW5
     go_ret
     exact ⟨by rw [HF.out]; rfl, hb01.trans (hbel5.mono hb01.size)⟩
   ·have z1 : (b.kind == 0) = false := by simpa using hk0
    by_cases hkn : k < n
    ·have hkn' : (k : Int) < (n : Int) := by omega
     have HF := Lib.hid (HB1.out (bodAt_kind (fun e => hk0 (e.2 hkn))))
     clear hk0
     go_wp2_with (fail)
     try rw [hW5]
     clear hW5
     go_ret
     exact ⟨by rw [HF.out]; rfl, hb01.trans (hbel5.mono hb01.size)⟩
    ·have hkn' : ¬ (k : Int) < (n : Int) := by omega
     have HK0 := Lib.hid hk0
     clear hk0
     go_wp2_with (fail)
     try rw [hW5]
     clear hW5
     refine hF.mono ?_
     rintro e w6 ⟨rfl, hb6⟩
     have hbel6 := hbel5.trans (hb6.mono hbel5.size)
     cases hq : fitB x.rows (n : Int) b with
     | false =>
      have HF := Lib.hid (HB1.out (bodAt_fit hq))
      clear hq
      go_wp2_with (fail)
      go_ret
      exact ⟨by rw [HF.out]; rfl, hb01.trans (hbel6.mono hb01.size)⟩
     | true =>
      have HQ := Lib.hid (bodAt_ok (k := k) hq ⟨fun e => absurd e HK0.out, fun e => absurd e hkn⟩ (fun e => absurd e hkn))
      clear hq
      go_wp2_with (fail)
      go_roundw
      case rel =>
       refine ⟨k + 1, by omega, by go_num, hbel6, Lib.hid (fun j hj hl => ?_)⟩
       by_cases e : j = k
       ·subst e; rw [← HBK.out]; exact HQ.out
       ·exact HA.out j hj (by omega)
      case measure => simp [intOf]; omega
  ·have HF := Lib.hid (HOK.out (fun j hj => HA.out j hj (by omega)))
   go_wp2_with (fail)
   go_ret
   exact ⟨by rw [HF.out]; rfl, hb0r⟩
set_option maxRecDepth 100000 in
set_option maxHeartbeats 4000000 in
theorem worldOk_spec {w : World} {x : Wd} {vl vs vb : Value} (h : RdW w x vl vs vb) (hs : x.sane) :
  Calls Tryz.prog 136 #[.agg (wdC x vl vs vb)] w fun e w' => e = .returned (.bool (worldB x)) ∧ Below w.heap.size w w' := by
 obtain ⟨hs1, hs2, hs3, hs4⟩ := hs
 have h0 := h
 obtain ⟨al, cl, rfl, -⟩ := id h.1
 obtain ⟨aq, cq, rfl, hq9⟩ := id h.2.1
 obtain ⟨ab, cb, rfl, hb9⟩ := id h.2.2
 unfold wdC
 obtain ⟨W0, hW, hA, hB0, hS0⟩ := rows1 w #[.slice al x.rows.length cl, .int .i64 x.tick, .int .i64 x.seed, .slice aq x.scores.length cq, .slice ab x.bods.length cb] 30
 have cA := rowCells hA
 have hlq : (x.scores.length : Int) ≤ 9223372036854775807 := by omega
 have hlb : (x.bods.length : Int) ≤ 9223372036854775807 := by omega
 go_enter Tryz.func136, Tryz.ntmps136
 go_wp2_with (fail)
 try rw [hW]
 clear hW
 refine (levelOk_spec (h0.keep hB0).1 hs1).mono ?_
 rintro e w1 ⟨rfl, hb1⟩
 have hA1 := keepHeap hb1 hA
 have hb01 := hB0.trans (hb1.mono hB0.size)
 have h1 := h0.keep hb01
 have cA1 := rowCells hA1
 clear cA hA
 cases ql : levelB x.rows with
 | false =>
  have HF := Lib.hid (wd_l ql)
  clear ql
  go_wp2_with (fail)
  go_ret
  exact ⟨by rw [HF.out]; rfl, hb01⟩
 | true =>
 have hg := levelB_facts ql
 have QL := Lib.hid ql
 clear ql
 go_wp2_with (fail)
 refine (in_spec _ _ _ _).mono ?_
 rintro e w2 ⟨rfl, rfl⟩
 cases q2 : inR x.tick 0 100000 with
 | false =>
  have HF := Lib.hid (wd_t q2)
  clear q2
  go_wp2_with (fail)
  go_ret
  exact ⟨by rw [HF.out]; rfl, hb01⟩
 | true =>
 have Q2 := Lib.hid q2
 clear q2
 go_wp2_with (fail)
 refine (in_spec _ _ _ _).mono ?_
 rintro e w2 ⟨rfl, rfl⟩
 cases q3 : inR x.seed 0 65535 with
 | false =>
  have HF := Lib.hid (wd_s q3)
  clear q3
  go_wp2_with (fail)
  go_ret
  exact ⟨by rw [HF.out]; rfl, hb01⟩
 | true =>
 have Q3 := Lib.hid q3
 clear q3
 go_wp2_with (fail)
 refine (in_spec _ _ _ _).mono ?_
 rintro e w2 ⟨rfl, rfl⟩
 cases q4 : inR (x.scores.length : Int) 1 4 with
 | false =>
  have HF := Lib.hid (wd_n q4)
  clear q4
  go_wp2_with (fail)
  go_ret
  exact ⟨by rw [HF.out]; rfl, hb01⟩
 | true =>
 have hn4 := (inR_iff _ _ _).1 q4
 have Q4 := Lib.hid q4
 clear q4
 go_wp2_with (fail)
 refine (in_spec _ _ _ _).mono ?_
 rintro e w2 ⟨rfl, rfl⟩
 cases q5 : inR (x.bods.length : Int) (x.scores.length : Int) 24 with
 | false =>
  have HF := Lib.hid (wd_m q5)
  clear q5
  go_wp2_with (fail)
  go_ret
  exact ⟨by rw [HF.out]; rfl, hb01⟩
 | true =>
 have hm24 := (inR_iff _ _ _).1 q5
 have Q5 := Lib.hid q5
 clear q5
 go_wp2_with (fail)
 obtain ⟨n, hn⟩ : ∃ n, n = x.scores.length := ⟨_, rfl⟩
 have HSB : Hid (∀ k (hk : k < x.scores.length), inR x.scores[k] 0 1000000 = false → worldB x = false) := Lib.hid (fun k hk hb => wd_w (allW_bad hk hb))
 have HBAD : Hid (∀ k (hk : k < x.bods.length), bodAt x.rows n k x.bods[k] = false → worldB x = false) := Lib.hid (fun k hk hb => wd_b (by rw [← hn]; exact bodsB_bad hk hb))
 have HOK : Hid ((∀ k (hk : k < x.scores.length), inR x.scores[k] 0 1000000 = true) → (∀ k (hk : k < x.bods.length), bodAt x.rows n k x.bods[k] = true) → worldB x = true) := Lib.hid (fun ha hb => wd_ok QL.out Q2.out Q3.out Q4.out Q5.out (allW_ok ha) (by rw [← hn]; exact bodsB_ok hb))
 have hnn : n ≤ x.scores.length ∧ x.scores.length ≤ n := by omega
 rw [← hn] at hn4 hm24 hA1 hlq ⊢
 have cA1 := rowCells hA1
 have hn5 : n ≤ 4 := by omega
 have hm5 : x.bods.length ≤ 24 := by omega
 clear Q2 Q3 Q4 Q5 QL hn
 go_loopw [4] (fun i wr => ∃ k : Nat, k ≤ n ∧ i = .int .i64 (k : Int) ∧ Below w1.heap.size w1 wr ∧ Hid (∀ j (hj : j < x.scores.length), j < k → inR x.scores[j] 0 1000000 = true)) (fun i _ => n - (intOf i).toNat)
 case atStart => exact ⟨0, Nat.zero_le _, rfl, Below.refl _ _, Lib.hid (fun j hj hl => by omega)⟩
 case round =>
  obtain ⟨k, hk, rfl, hbel, HA⟩ := hrel
  have hb0r := hb01.trans (hbel.mono hb01.size)
  have hAr := keepHeap hbel hA1
  have cAr := rowCells hAr
  by_cases hkl : k < n
  ·obtain ⟨bb, off, rfl, hc⟩ := hq9.resolve_left (by intro e; rw [e] at hnn; simp at hnn; omega)
   have hks : k < x.scores.length := by omega
   have c0 := hc k hks
   have c1 : wr.cell? ⟨bb, off + k, none⟩ = some (.int .i64 x.scores[k]) := (hb0r.cell (World.block_lt_of_cell? w _ c0)).trans c0
   have HB1 := Lib.hid (HSB.out k hks)
   obtain ⟨b, hb⟩ : ∃ b, b = x.scores[k] := ⟨_, rfl⟩
   rw [← hb] at c1 HB1
   have HBK := Lib.hid hb
   have hkk : (k : Int) < (n : Int) := by omega
   clear hc c0 hb cA1 h1
   go_wp2_with (fail)
   refine (in_spec _ _ _ _).mono ?_
   rintro e w2 ⟨rfl, rfl⟩
   cases hq : inR b 0 1000000 with
   | false =>
    have HF := Lib.hid (HB1.out hq)
    clear hq
    go_wp2_with (fail)
    go_ret
    exact ⟨by rw [HF.out]; rfl, hb0r⟩
   | true =>
    have HQ := Lib.hid hq
    clear hq
    go_wp2_with (fail)
    go_roundw
    case rel =>
     refine ⟨k + 1, by omega, by go_num, hbel, Lib.hid (fun j hj hl => ?_)⟩
     by_cases e : j = k
     ·subst e; rw [← HBK.out]; exact HQ.out
     ·exact HA.out j hj (by omega)
    case measure => simp [intOf]; omega
  ·have HOK2 := Lib.hid (HOK.out (fun j hj => HA.out j hj (by omega)))
   clear HOK HSB HA hq9 cA1 h1
   obtain ⟨wo, hwo⟩ : ∃ wo : World, wo = wr := ⟨_, rfl⟩
   subst hwo
   go_wp2_with (fail)
   go_loopw [5] (fun i wq => ∃ k : Nat, k ≤ x.bods.length ∧ i = .int .i64 (k : Int) ∧ Below w1.heap.size w1 wq ∧ Hid (∀ j (hj : j < x.bods.length), j < k → bodAt x.rows n j x.bods[j] = true)) (fun i _ => x.bods.length - (intOf i).toNat)
   case atStart => exact ⟨0, Nat.zero_le _, rfl, hbel, Lib.hid (fun j hj hl => by omega)⟩
   case round =>
    obtain ⟨k, hk, rfl, hbel, HA⟩ := hrel
    have hb0r := hb01.trans (hbel.mono hb01.size)
    have hAr := keepHeap hbel hA1
    have cAr := rowCells hAr
    by_cases hkl : k < x.bods.length
    ·obtain ⟨bb, off, rfl, hc⟩ := hb9.resolve_left (by intro e; rw [e] at hkl; simp at hkl)
     have c0 := hc k hkl
     have c1 := rangeKeep c0 hb0r (rangeLt c0)
     have hf := hs4 x.bods[k] (List.getElem_mem _)
     have HB1 := Lib.hid (HBAD.out k hkl)
     obtain ⟨b, hb⟩ : ∃ b, b = x.bods[k] := ⟨_, rfl⟩
     rw [← hb] at c1 hf HB1
     have HBK := Lib.hid hb
     have hx : I64 b.x := I64.of hf.2.2.1
     have hy : I64 b.y := I64.of hf.2.2.2.1
     have hkk : (k : Int) < (x.bods.length : Int) := by omega
     have hszr := hb0r.size
     clear hc c0 hb hf
     obtain ⟨d0, d1, d2, d3, d4, d5, d6, d7, d8⟩ := cells9 c1
     obtain ⟨W5, hW5, hP5, hb5⟩ : ∃ W, wr.alloc (.cells #[.int .i64 b.kind, .int .i64 b.owner, .int .i64 b.x, .int .i64 b.y, .int .i64 b.vx, .int .i64 b.vy, .int .i64 b.aim, .int .i64 b.life, .int .i64 b.timer] 100) = W ∧ W.heap[wr.heap.size]? = some (.cells #[.int .i64 b.kind, .int .i64 b.owner, .int .i64 b.x, .int .i64 b.y, .int .i64 b.vx, .int .i64 b.vy, .int .i64 b.aim, .int .i64 b.life, .int .i64 b.timer] 100 (0, 0)) ∧ Below wr.heap.size wr W := ⟨_, rfl, heap_alloc_new _ _, below1 _ _⟩
     have hA5 := keepHeap hb5 hAr
     have cP5 := rowCells hP5
     have cA5 := rowCells hA5
     have hb05 := hb0r.trans (hb5.mono hszr)
     have hbel5 := hbel.trans (hb5.mono hbel.size)
     have hF := body_spec (h0.keep hb05).1 hg b hx hy (n : Int) (by omega) (by omega)
     clear c1
     go_wp2_with (fail)
     try rw [hW5]
     clear hW5
     refine hF.mono ?_
     rintro e w6 ⟨rfl, hb6⟩
     have hbel6 := hbel5.trans (hb6.mono hbel5.size)
     have cP6 := rowCells (keepHeap hb6 hP5)
     have hbf := hb01.trans (hbel6.mono hb01.size)
     clear cP5 cA5 cAr
     cases hq : fitB x.rows (n : Int) b with
     | false =>
      have HF := Lib.hid (HB1.out (bodAt_fit hq))
      clear hq
      go_wp2_with (fail)
      go_ret
      exact ⟨by rw [HF.out]; rfl, hbf⟩
     | true =>
     have HFIT := Lib.hid hq
     clear hq
     by_cases hk0 : b.kind = 0
     ·have z1 : (b.kind == 0) = true := by simpa using hk0
      have HK0 := Lib.hid hk0
      clear hk0
      by_cases hkn : k < n
      ·have hkn' : (k : Int) < (n : Int) := by omega
       by_cases ho : b.owner = (k : Int)
       ·have z2 : (b.owner != (k : Int)) = false := by simpa using ho
        have HQ := Lib.hid (bodAt_ok (k := k) HFIT.out ⟨fun _ => hkn, fun _ => HK0.out⟩ (fun _ => ho))
        clear ho
        go_wp2_with (fail)
        go_roundw
        case rel =>
         refine ⟨k + 1, by omega, by go_num, hbel6, Lib.hid (fun j hj hl => ?_)⟩
         by_cases e : j = k
         ·subst e; rw [← HBK.out]; exact HQ.out
         ·exact HA.out j hj (by omega)
        case measure => simp [intOf]; omega
       ·have z2 : (b.owner != (k : Int)) = true := by simpa using ho
        have HF := Lib.hid (HB1.out (bodAt_owner hkn ho))
        clear ho
        go_wp2_with (fail)
        go_ret
        exact ⟨by rw [HF.out]; rfl, hbf⟩
      ·have hkn' : ¬ (k : Int) < (n : Int) := by omega
       have HF := Lib.hid (HB1.out (bodAt_kind (fun e => hkn (e.1 HK0.out))))
       go_wp2_with (fail)
       go_ret
       exact ⟨by rw [HF.out]; rfl, hbf⟩
     ·have z1 : (b.kind == 0) = false := by simpa using hk0
      by_cases hkn : k < n
      ·have hkn' : (k : Int) < (n : Int) := by omega
       have HF := Lib.hid (HB1.out (bodAt_kind (fun e => hk0 (e.2 hkn))))
       clear hk0
       go_wp2_with (fail)
       go_ret
       exact ⟨by rw [HF.out]; rfl, hbf⟩
      ·have hkn' : ¬ (k : Int) < (n : Int) := by omega
       have HQ := Lib.hid (bodAt_ok (k := k) HFIT.out ⟨fun e => absurd e hk0, fun e => absurd e hkn⟩ (fun e => absurd e hkn))
       clear hk0
       go_wp2_with (fail)
       go_roundw
       case rel =>
        refine ⟨k + 1, by omega, by go_num, hbel6, Lib.hid (fun j hj hl => ?_)⟩
        by_cases e : j = k
        ·subst e; rw [← HBK.out]; exact HQ.out
        ·exact HA.out j hj (by omega)
       case measure => simp [intOf]; omega
    ·have HF := Lib.hid (HOK2.out (fun j hj => HA.out j hj (by omega)))
     go_wp2_with (fail)
     go_ret
     exact ⟨by rw [HF.out]; rfl, hb0r⟩
end Go.Proofs.YtnlonkkbjkfkmaaGreatDoor
