/-
  Texts of this proof: TkW1.
-/
import Derived.Test.YtnlonkkbjkfkmaaGreatDoorM28
import Derived.Test.YtnlonkkbjkfkmaaGreatDoorM01
import Derived.Test.YtnlonkkbjkfkmaaGreatDoorM22
import Derived.Deep.Cut
import Derived.RegionTactic
import Derived.BigRegion
import Derived.Deep.CutBlock
namespace Go.Proofs.YtnlonkkbjkfkmaaGreatDoor
open Go.RowKit
set_option linter.all false
set_option maxRecDepth 100000 in
set_option maxHeartbeats 4000000 in
theorem waitOut_impl {w : World} {v : Value} {L : Rowz} (h : RdS w v L) (hg : Good L) (b : Bd) (k : Nat) (hk : k ≤ 3) (ho : b.owner = (k : Int)) (ht : 1 ≤ b.timer ∧ b.timer ≤ 20) :
  Calls Tryz.prog 203 #[.agg #[v], .agg #[.int .i64 b.kind, .int .i64 b.owner, .int .i64 b.x, .int .i64 b.y, .int .i64 b.vx, .int .i64 b.vy, .int .i64 b.aim, .int .i64 b.life, .int .i64 b.timer]] w fun e w' => e = .returned (bdV (waitB L b)) ∧ Below w.heap.size w w' := by
 obtain ⟨kd, ow, x, y, vx, vy, am, lf, tm⟩ := b
 dsimp only at ho ht ⊢
 subst ho
 obtain ⟨ht0, ht1⟩ := ht
 obtain ⟨a, cap, rfl, -⟩ := id h
 have HWT := Lib.hid (show waitB L ⟨kd, (k : Int), x, y, vx, vy, am, lf, tm⟩ = if tm - 1 = 0 then freshB L k else ⟨kd, (k : Int), x, y, vx, vy, am, lf, tm - 1⟩ by unfold waitB; simp only [Int.toNat_natCast])
 obtain ⟨nb, hnb⟩ : ∃ nb, nb = freshB L k := ⟨_, rfl⟩
 have hNP : ∀ {W : World}, Below w.heap.size w W → Calls Tryz.prog 71 #[.agg #[.slice a L.length cap], .int .i64 (k : Int)] W fun e w' => e = .returned (bdV nb) ∧ Below W.heap.size W w' := fun hb => by rw [hnb]; exact newPlayer_impl (h.keep hb) hg k hk
 rw [← hnb] at HWT
 unfold bdV at hNP
 clear hnb
 obtain ⟨W0, hW, hA, hB, hC, hB0, hS0⟩ := rows3 w #[.slice a L.length cap] #[.int .i64 kd, .int .i64 (k : Int), .int .i64 x, .int .i64 y, .int .i64 vx, .int .i64 vy, .int .i64 am, .int .i64 lf, .int .i64 tm] z9 26 100 100
 unfold z9 at hW hC
 have cA := rowCells hA
 have cB := rowCells hB
 have fB := fun j => frozenHeap hB j
 by_cases ht : tm - 1 = 0
 ·have z1 : ((tm - 1 : Int) == 0) = true := by simpa using ht
  have HT := Lib.hid ht
  clear ht
  go_enter Tryz.func203, Tryz.ntmps203
  go_wp2_with (fail)
  have hbS := hB0.setCell (p := ⟨w.heap.size + 1, 8, none⟩) (by simp) (.int .i64 (tm - 1))
  have hC1 := farHeap (p := ⟨w.heap.size + 1, 8, none⟩) hC (by simp) (.int .i64 (tm - 1))
  refine (hNP hbS).mono ?_
  rintro e w1 ⟨rfl, hb1⟩
  have hC2 := keepHeap hb1 hC1
  have cC := rowCells hC2
  have fC := fun j => frozenHeap hC2 j
  clear hW cA cB fB hNP
  go_wp2_with (fail)
  have hP := putB_heap hC2 rfl nb nb.x nb.y nb.vx nb.vy
  have hbP := putB_below (hbS.trans (hb1.mono (by simp; omega))) (c := w.heap.size + 1 + 1) (by omega) nb nb.x nb.y nb.vx nb.vy
  unfold putB at hP hbP
  refine bodyPost_ret (results_cell_row rfl _ _ (w.heap.size + 1 + 1) 100 #[.int .i64 nb.kind, .int .i64 nb.owner, .int .i64 nb.x, .int .i64 nb.y, .int .i64 nb.vx, .int .i64 nb.vy, .int .i64 nb.aim, .int .i64 nb.life, .int .i64 nb.timer] (0, 0) ?d ?hp ?hg ?hu ?hd ?hi) rfl ?_
  case hp => rfl
  case hg => exact hP
  case hu => exact Tryz.underlying100
  case hd => rfl
  case hi => kernel_rfl
  exact ⟨by rw [HWT.out, if_pos HT.out]; rfl, hbP⟩
 ·have z1 : ((tm - 1 : Int) == 0) = false := by simpa using ht
  have HT := Lib.hid ht
  have cC := rowCells hC
  have fC := fun j => frozenHeap hC j
  clear ht
  go_enter Tryz.func203, Tryz.ntmps203
  go_wp2_with (fail)
  have hbS := hB0.setCell (p := ⟨w.heap.size + 1, 8, none⟩) (by simp) (.int .i64 (tm - 1))
  have hC1 := farHeap (p := ⟨w.heap.size + 1, 8, none⟩) hC (by simp) (.int .i64 (tm - 1))
  have hP := putB_heap hC1 rfl ⟨kd, (k : Int), x, y, vx, vy, am, lf, tm - 1⟩ x y vx vy
  have hbP := putB_below hbS (c := w.heap.size + 1 + 1) (by omega) ⟨kd, (k : Int), x, y, vx, vy, am, lf, tm - 1⟩ x y vx vy
  unfold putB at hP hbP
  refine bodyPost_ret (results_cell_row rfl _ _ (w.heap.size + 1 + 1) 100 #[.int .i64 kd, .int .i64 (k : Int), .int .i64 x, .int .i64 y, .int .i64 vx, .int .i64 vy, .int .i64 am, .int .i64 lf, .int .i64 (tm - 1)] (0, 0) ?d ?hp ?hg ?hu ?hd ?hi) rfl ?_
  case hp => rfl
  case hg => exact hP
  case hu => exact Tryz.underlying100
  case hd => rfl
  case hi => kernel_rfl
  exact ⟨by rw [HWT.out, if_neg HT.out]; rfl, hbP⟩
def metI (o : Option Nat) : Int := match o with
 | none => -1
 | some v => v
set_option maxRecDepth 100000 in
set_option maxHeartbeats 4000000 in
theorem firstMet_impl {w : World} {T p : Nat} {x : Wd} {vl vs vb : Value} (h : BxW w T p x vl vs vb) (hn : x.scores.length ≤ x.bods.length) (hl : x.bods.length ≤ 24) (b : Bd) (but : Int) :
  Calls Tryz.prog 266 #[.pointer (some ⟨p, 0, none⟩), .agg #[.int .i64 b.kind, .int .i64 b.owner, .int .i64 b.x, .int .i64 b.y, .int .i64 b.vx, .int .i64 b.vy, .int .i64 b.aim, .int .i64 b.life, .int .i64 b.timer], .int .i64 but] w fun e w' => e = .returned (.int .i64 (metI (metF b but (x.bods.take x.scores.length) 0))) ∧ Below w.heap.size w w' := by
 obtain ⟨hP, -, -, hS, hBd⟩ := id h
 have hplt := h.lt
 obtain ⟨aq, cq, rfl, -⟩ := id hS.own
 obtain ⟨ab, cb, rfl, -⟩ := id hBd.own
 obtain ⟨n, hnn⟩ : ∃ n, n = x.scores.length := ⟨_, rfl⟩
 obtain ⟨m, hmm⟩ : ∃ m, m = x.bods.length := ⟨_, rfl⟩
 rw [← hnn] at hn hS ⊢
 rw [← hmm] at hn hl hBd
 unfold wdC at hP
 rw [← hnn, ← hmm] at hP
 obtain ⟨W0, hW, hA, hB0, hS0⟩ := rows1 w #[.int .i64 b.kind, .int .i64 b.owner, .int .i64 b.x, .int .i64 b.y, .int .i64 b.vx, .int .i64 b.vy, .int .i64 b.aim, .int .i64 b.life, .int .i64 b.timer] 100
 have hP0 := keepHeap hB0 hP
 have cP := rowCells hP0
 have HMM := Lib.hid hmm
 have hlP : (x.bods.take n).length = n := by rw [List.length_take]; omega
 have HLP := Lib.hid hlP
 clear hnn hmm hlP
 have hn24 : (n : Int) ≤ 24 := by omega
 have hm24 : (m : Int) ≤ 24 := by omega
 go_enter Tryz.func266, Tryz.ntmps266
 go_wp2_with (fail)
 go_loopw [14] (fun i wr => ∃ k : Nat, k ≤ n ∧ i = .int .i64 (k : Int) ∧ metF b but ((x.bods.take n).drop k) k = metF b but (x.bods.take n) 0 ∧ Below W0.heap.size W0 wr) (fun i _ => n - (intOf i).toNat)
 case atStart => exact ⟨0, Nat.zero_le _, rfl, rfl, Below.refl _ _⟩
 case round =>
  obtain ⟨k, hk, rfl, hm, hbel⟩ := hrel
  have hAr := keepHeap hbel hA
  have hPr := keepHeap hbel hP0
  have cA := rowCells hAr
  have cP := rowCells hPr
  by_cases hkn : k < n
  ·have hkm : k < x.bods.length := by rw [← HMM.out]; omega
   have hpos : 0 < x.bods.length := by omega
   obtain ⟨g, cap, e0, hTg, hgw, -⟩ := hBd.shape hpos
   rw [← HMM.out] at e0
   obtain ⟨rfl, -, rfl⟩ := Value.slice.inj e0
   clear e0
   have hc0 := (hBd.body hkm).1
   have hb0r := hB0.trans (hbel.mono hB0.size)
   have hc1 := rangeKeep hc0 hb0r (by omega)
   have hdr : ((x.bods.take n).drop k) = x.bods[k] :: (x.bods.take n).drop (k + 1) := by
    rw [List.drop_eq_getElem_cons (by rw [HLP.out]; exact hkn), List.getElem_take]
   rw [hdr, metF] at hm
   generalize x.bods[k] = q at *
   obtain ⟨d0, d1, d2, d3, d4, d5, d6, d7, d8⟩ := cells9 hc1
   have hkn1 : (k : Int) < (n : Int) := by omega
   have hkm1 : (k : Int) < (m : Int) := by omega
   have HM := Lib.hid hm
   clear hm hdr hc0 hc1
   have hmi : ∀ W : World, Calls Tryz.prog 277 #[bdV q, bdV b] W fun e w' => e = .returned (.bool (meetB q b)) ∧ Below W.heap.size W w' := fun W => meet_impl q b W
   unfold bdV at hmi
   have cA' := rowCells (keepHeap (below1 wr (.cells #[.int .i64 q.kind, .int .i64 q.owner, .int .i64 q.x, .int .i64 q.y, .int .i64 q.vx, .int .i64 q.vy, .int .i64 q.aim, .int .i64 q.life, .int .i64 q.timer] 100)) hAr)
   by_cases h1 : (k : Int) = but
   ·have z1 : ((k : Int) != but) = false := by simpa using h1
    have z2 : ((k : Int) == but) = true := by simpa using h1
    have HN : Hid (metF b but ((x.bods.take n).drop (k + 1)) (k + 1) = metF b but (x.bods.take n) 0) := Lib.hid (by rw [← HM.out, if_neg (fun hh => hh.1 h1)])
    clear h1 HM
    go_wp2_with (fail)
    go_roundw
    case rel => exact ⟨k + 1, by omega, by go_num, HN.out, hbel.trans ((below1 wr _).mono hbel.size)⟩
    case measure => simp [intOf]; omega
   ·have z1 : ((k : Int) != but) = true := by simpa using h1
    have z2 : ((k : Int) == but) = false := by simpa using h1
    by_cases h2 : 0 < q.life
    ·have z3 : decide (0 < q.life) = true := by simpa using h2
     cases hb : meetB q b with
     | false =>
      have HN : Hid (metF b but ((x.bods.take n).drop (k + 1)) (k + 1) = metF b but (x.bods.take n) 0) := Lib.hid (by rw [← HM.out, if_neg (fun hh => by rw [hb] at hh; cases hh.2.2)])
      simp only [hb] at hmi
      clear h1 h2 HM hb
      go_wp2_with (go_at_call 277; refine (hmi _).mono ?_; rintro e w1 ⟨rfl, hb1⟩)
      go_roundw
      case rel => exact ⟨k + 1, by omega, by go_num, HN.out, hbel.trans (((below1 wr _).trans (hb1.mono (by simp))).mono hbel.size)⟩
      case measure => simp [intOf]; omega
     | true =>
      have HN : Hid (some k = metF b but (x.bods.take n) 0) := Lib.hid (by rw [← HM.out, if_pos ⟨h1, h2, hb⟩])
      simp only [hb] at hmi
      clear h1 h2 HM hb
      go_wp2_with (go_at_call 277; refine (hmi _).mono ?_; rintro e w1 ⟨rfl, hb1⟩)
      go_ret
      exact ⟨by rw [← HN.out]; rfl, hB0.trans ((hbel.trans (((below1 wr _).trans (hb1.mono (by simp))).mono hbel.size)).mono hB0.size)⟩
    ·have z3 : decide (0 < q.life) = false := by simpa using h2
     have HN : Hid (metF b but ((x.bods.take n).drop (k + 1)) (k + 1) = metF b but (x.bods.take n) 0) := Lib.hid (by rw [← HM.out, if_neg (fun hh => h2 hh.2.1)])
     clear h1 h2 HM
     go_wp2_with (fail)
     go_roundw
     case rel => exact ⟨k + 1, by omega, by go_num, HN.out, hbel.trans ((below1 wr _).mono hbel.size)⟩
     case measure => simp [intOf]; omega
  ·obtain rfl : k = n := by omega
   rw [List.drop_of_length_le (by rw [HLP.out]; exact Nat.le_refl _), metF] at hm
   have HM := Lib.hid hm
   clear hm
   go_wp2_with (fail)
   go_ret
   exact ⟨by rw [← HM.out]; rfl, hB0.trans (hbel.mono hB0.size)⟩
theorem BxW.drew {w : World} {T p : Nat} {x : Wd} {vl vs vb : Value} (h : BxW w T p x vl vs vb) (n : Nat) : BxW (w.drewN n) T p x vl vs vb :=
 h.keep (belowDrew w n) (Nat.le_of_lt h.low)
theorem FrW.drew {T p : Nat} {vs vb : Value} {w w' : World} (h : FrW T p vs vb w w') (hT : T ≤ w.heap.size) (n : Nat) : FrW T p vs vb w (w'.drewN n) :=
 ⟨h.1.trans ((belowDrew w' n).mono (by have := h.1.size; omega)), fun j hj h1 h2 h3 => h.2 j hj h1 h2 h3⟩
def RetAw (w : World) (T p : Nat) (x : Wd) (vl vs vb : Value) (k : Nat) (e : Ending) (w' : World) : Prop :=
 e = .returned (.tuple #[]) ∧ BxW w' T p ⟨x.rows, x.tick, x.seed, awd x.scores k, x.bods⟩ vl vs vb ∧ FrW T p vs vb w w'
set_option maxRecDepth 100000 in
set_option maxHeartbeats 4000000 in
theorem award_impl {w : World} {T p : Nat} {x : Wd} {vl vs vb : Value} (h : BxW w T p x vl vs vb) (k : Nat) (hk : k < x.scores.length) (hs : 0 ≤ x.scores[k] ∧ x.scores[k] ≤ 1000000) (h4 : x.scores.length ≤ 4) :
  Calls Tryz.prog 267 #[.pointer (some ⟨p, 0, none⟩), .int .i64 (k : Int)] w (RetAw w T p x vl vs vb k) := by
 obtain ⟨hP, hTp, -, hS, -⟩ := id h
 obtain ⟨g, cap, rfl, hTg, hgw, -⟩ := hS.shape (by omega)
 have hkn : (k : Int) < (x.scores.length : Int) := by omega
 have hn4 : (x.scores.length : Int) ≤ 4 := by omega
 have cP := rowCells hP
 have cS : w.cell? ⟨g, k, none⟩ = some (.int .i64 x.scores[k]) := by
  obtain ⟨a, c, e, h2⟩ := hS.own
  rcases h2 with h2 | ⟨b, hB, ha, hr⟩
  ·rw [h2] at hk; simp at hk
  ·simp only [Value.slice.injEq] at e
   rw [ha, Option.some.injEq, Addr.mk.injEq] at e
   obtain ⟨⟨rfl, -⟩, -⟩ := e
   exact hr.1 k hk
 have fS : w.frozen? ⟨g, k, none⟩ = false := World.ownsRow.frozenAt hS k
 have HA : Hid (∀ m : Int, min (x.scores[k] + 1) 1000000 = m → awd x.scores k = x.scores.set k m) := Lib.hid (fun m e => by unfold awd; rw [List.getD_eq_getElem?_getD, List.getElem?_eq_getElem hk]; simp only [Option.getD_some]; rw [e])
 have HB := fun m => Lib.hid (h.score rfl k m)
 have HF := fun m => Lib.hid (frS h vb k (.int .i64 m))
 obtain ⟨s, hss⟩ : ∃ s, s = x.scores[k] := ⟨_, rfl⟩
 rw [← hss] at cS HA
 rw [← hss] at hs
 obtain ⟨hs0, hs1⟩ := hs
 unfold wdC at cP
 have hTw := Nat.le_of_lt h.low
 clear hss hS hP h
 generalize hnn : x.scores.length = n at *
 clear hnn
 by_cases hm : s < 1000000
 ·have e6 : min (s + 1) 1000000 = s + 1 := Int.min_eq_left (by omega)
  have HE := Lib.hid (HA.out _ e6)
  clear HA
  go_enter Tryz.func267, Tryz.ntmps267
  go_wp2_with (fail)
  go_region
  all_goals
   go_wp2_with (fail)
   refine bodyPost_ret (v := .tuple #[]) (by simp [results, Tryz.results267]) rfl ⟨rfl, ?_, ?_⟩
   ·rw [HE.out]; exact (HB (s + 1)).out.drew 1
   ·exact (HF (s + 1)).out.drew hTw 1
 ·have e6 : min (s + 1) 1000000 = 1000000 := Int.min_eq_right (by omega)
  have HE := Lib.hid (HA.out _ e6)
  clear HA
  go_enter Tryz.func267, Tryz.ntmps267
  go_wp2_with (fail)
  go_region
  all_goals
   go_wp2_with (fail)
   refine bodyPost_ret (v := .tuple #[]) (by simp [results, Tryz.results267]) rfl ⟨rfl, ?_, ?_⟩
   ·rw [HE.out]; exact (HB 1000000).out.drew 1
   ·exact (HF 1000000).out.drew hTw 1
def hitX (b : Bd) (v : Nat) (x : Wd) : Wd := ⟨x.rows, x.tick, x.seed, if (x.bods.getD v b00).life - 1 = 0 then awd x.scores b.owner.toNat else x.scores, x.bods.set v (hurtB (x.bods.getD v b00))⟩
def takeX (v : Nat) (x : Wd) : Wd := ⟨x.rows, x.tick, x.seed, awd x.scores v, x.bods⟩
def RetAct (w : World) (T p : Nat) (x : Wd) (vl vs vb : Value) (o : Option Wd) (e : Ending) (w' : World) : Prop :=
 e = .returned (.bool o.isSome) ∧ BxW w' T p (o.getD x) vl vs vb ∧ FrW T p vs vb w w'
theorem getD_at {X : List Bd} {k : Nat} (hk : k < X.length) : X.getD k b00 = X[k] := by
 rw [List.getD_eq_getElem?_getD, List.getElem?_eq_getElem hk]; rfl
theorem take_at {X : List Bd} {n v : Nat} (hv : v < (X.take n).length) : v < X.length ∧ v < n ∧ (X.take n)[v] = X[v]'(by simp at hv; omega) := by
 refine ⟨by simp at hv; omega, by simp at hv; omega, ?_⟩
 rw [List.getElem_take]
theorem BxW.fld {w : World} {T p g n cap : Nat} {x : Wd} {vl vs : Value} (h : BxW w T p x vl vs (.slice (some ⟨g, 0, none⟩) n cap)) (hn : n = x.bods.length) {k i : Nat} (hk : k < x.bods.length) (hi : i < 9) (m : Int) :
  BxW (w.setCell ⟨g, k * 9 + i, none⟩ (.int .i64 m)) T p ⟨x.rows, x.tick, x.seed, x.scores, x.bods.set k ((x.bods.getD k b00).set i m)⟩ vl vs (.slice (some ⟨g, 0, none⟩) n cap) ∧ FrW T p vs (.slice (some ⟨g, 0, none⟩) n cap) w (w.setCell ⟨g, k * 9 + i, none⟩ (.int .i64 m)) := by
 have hTg := (World.ownsRow.lt h.2.2.2.2 g rfl).1
 have hb := (Below.refl T w).setCell (p := ⟨g, k * 9 + i, none⟩) hTg (.int .i64 m)
 have hf : ∀ j, j ≠ g → (w.setCell ⟨g, k * 9 + i, none⟩ (.int .i64 m)).heap[j]? = w.heap[j]? := fun j hj => Below.heap_setCell _ _ _ j (by show j ≠ g; exact hj)
 exact ⟨h.bods (by rw [List.length_set]) hb (h.2.2.2.2.field hn hk hi m) hf, frB hb hf⟩
theorem hurt_0 {q : Bd} (h : q.life - 1 = 0) : (((q.set 7 (q.life - 1)).set 4 0).set 5 0).set 8 20 = hurtB q := by
 obtain ⟨k, o, x, y, vx, vy, am, lf, tm⟩ := q
 unfold hurtB
 rw [if_pos h]
 show (⟨k, o, x, y, 0, 0, am, lf - 1, 20⟩ : Bd) = ⟨k, o, x, y, 0, 0, am, 0, 20⟩
 rw [show lf - 1 = 0 from h]
theorem hurt_1 {q : Bd} (h : ¬ q.life - 1 = 0) : q.set 7 (q.life - 1) = hurtB q := by
 obtain ⟨k, o, x, y, vx, vy, am, lf, tm⟩ := q
 unfold hurtB
 rw [if_neg h]
 rfl
theorem bxOf {w : World} {T p : Nat} {x y : Wd} {vl vs vb : Value} (h : BxW w T p x vl vs vb) (e : x = y) : BxW w T p y vl vs vb := e ▸ h
set_option maxRecDepth 100000 in
set_option maxHeartbeats 8000000 in
theorem hitFirst_impl {w : World} {T p : Nat} {x : Wd} {vl vs vb : Value} (h : BxW w T p x vl vs vb) (hn : x.scores.length ≤ x.bods.length) (hl : x.bods.length ≤ 24) (h4 : x.scores.length ≤ 4) (b : Bd) (o : Nat) (ho : b.owner = (o : Int)) (hon : o < x.scores.length) (hs : 0 ≤ x.scores[o] ∧ x.scores[o] ≤ 1000000) (hlf : ∀ k (hk : k < x.bods.length), 0 < x.bods[k].life → x.bods[k].life ≤ 3) :
  Calls Tryz.prog 247 #[.pointer (some ⟨p, 0, none⟩), .agg #[.int .i64 b.kind, .int .i64 b.owner, .int .i64 b.x, .int .i64 b.y, .int .i64 b.vx, .int .i64 b.vy, .int .i64 b.aim, .int .i64 b.life, .int .i64 b.timer]] w (RetAct w T p x vl vs vb ((metF b b.owner (x.bods.take x.scores.length) 0).map fun v => hitX b v x)) := by
 have hT := Nat.le_of_lt h.low
 obtain ⟨W0, hW, hA, hB0, hS0⟩ := rows1 w #[.int .i64 b.kind, .int .i64 b.owner, .int .i64 b.x, .int .i64 b.y, .int .i64 b.vx, .int .i64 b.vy, .int .i64 b.aim, .int .i64 b.life, .int .i64 b.timer] 240
 have cA := rowCells hA
 have hfm := firstMet_impl (h.keep hB0 hT) hn hl b b.owner
 cases hm : metF b b.owner (x.bods.take x.scores.length) 0 with
 | none =>
  rw [hm] at hfm
  have hfm : Calls Tryz.prog 266 #[.pointer (some ⟨p, 0, none⟩), .agg #[.int .i64 b.kind, .int .i64 b.owner, .int .i64 b.x, .int .i64 b.y, .int .i64 b.vx, .int .i64 b.vy, .int .i64 b.aim, .int .i64 b.life, .int .i64 b.timer], .int .i64 b.owner] W0 fun e w' => e = .returned (.int .i64 (-1)) ∧ Below W0.heap.size W0 w' := hfm
  clear hm ho
  go_enter Tryz.func247, Tryz.ntmps247
  go_wp2_with (go_at_call 266; refine hfm.mono ?_; rintro e w1 ⟨rfl, hb1⟩)
  go_ret
  exact ⟨rfl, h.keep (hB0.trans (hb1.mono hB0.size)) hT, FrW.below (hB0.trans (hb1.mono hB0.size)) hT⟩
 | some v =>
  obtain ⟨-, hv, hlv, -⟩ := metF_in _ 0 v hm
  simp only [Nat.sub_zero] at hv hlv
  obtain ⟨hvx, hvn, hve⟩ := take_at hv
  rw [hve] at hlv
  have hl3 := hlf v hvx hlv
  rw [hm] at hfm
  have hfm : Calls Tryz.prog 266 #[.pointer (some ⟨p, 0, none⟩), .agg #[.int .i64 b.kind, .int .i64 b.owner, .int .i64 b.x, .int .i64 b.y, .int .i64 b.vx, .int .i64 b.vy, .int .i64 b.aim, .int .i64 b.life, .int .i64 b.timer], .int .i64 b.owner] W0 fun e w' => e = .returned (.int .i64 (v : Int)) ∧ Below W0.heap.size W0 w' := hfm
  have HX : Hid (hitX b v x = ⟨x.rows, x.tick, x.seed, if x.bods[v].life - 1 = 0 then awd x.scores o else x.scores, x.bods.set v (hurtB x.bods[v])⟩) := Lib.hid (by unfold hitX; rw [getD_at hvx, ho, Int.toNat_natCast])
  have z1 : ((v : Int) == -1) = false := by simp
  obtain ⟨g, cap, e0, hTg, hgw, -⟩ := h.2.2.2.2.shape (by omega)
  subst e0
  have hvm : (v : Int) < (x.bods.length : Int) := by omega
  have hlm : (x.bods.length : Int) ≤ 24 := by omega
  have HO := Lib.hid ho
  clear hm hve ho
  go_enter Tryz.func247, Tryz.ntmps247
  go_upto_region 4 with (go_at_call 266; refine hfm.mono ?_; rintro e w1 ⟨rfl, hb1⟩)
  have hb01 := hB0.trans (hb1.mono hB0.size)
  have h1 := h.keep hb01 hT
  have hF1 : FrW T p vs (.slice (some ⟨g, 0, none⟩) x.bods.length cap) w w1 := FrW.below hb01 hT
  have hA1 := keepHeap hb1 hA
  have hgA : w.heap.size ≠ g := by omega
  obtain ⟨h5, hF5⟩ := h1.fld rfl hvx (i := 7) (by omega) (x.bods[v].life - 1)
  have hA5 := farHeap (p := ⟨g, v * 9 + 7, none⟩) hA1 hgA (.int .i64 (x.bods[v].life - 1))
  rw [getD_at hvx] at h5
  have cP1 := rowCells h1.1
  obtain ⟨hr1, ht1⟩ := h1.2.2.2.2.body hvx
  obtain ⟨q, hq⟩ : ∃ q, q = x.bods[v] := ⟨_, rfl⟩
  rw [← hq] at h5 hF5 hA5 hr1 hlv HX hl3
  obtain ⟨d0, d1, d2, d3, d4, d5, d6, d7, d8⟩ := cells9 hr1
  obtain ⟨f0, f1, f2, f3, f4, f5, f6, f7, f8⟩ := free9 ht1
  unfold wdC at cP1
  clear hq hr1 ht1 cA hA hfm hW
  go_upto_region 6 with (fail)
  obtain ⟨W5, hW5⟩ : ∃ W5, W5 = w1.setCell ⟨g, v * 9 + 7, none⟩ (.int .i64 (q.life - 1)) := ⟨_, rfl⟩
  rw [← hW5] at h5 hF5 hA5 ⊢
  have cP5 := rowCells h5.1
  have hvx5 : v < (x.bods.set v (q.set 7 (q.life - 1))).length := by rw [List.length_set]; exact hvx
  have hr5 := (h5.2.2.2.2.body hvx5).1
  rw [List.getElem_set_self] at hr5
  have d75 : W5.cell? ⟨g, v * 9 + 7, none⟩ = some (.int .i64 (q.life - 1)) := hr5 7 _ rfl
  have cA5 := rowCells hA5
  unfold wdC at cP5
  clear d0 d1 d2 d3 d4 d5 d6 d7 d8 f0 f1 f2 f3 f4 f5 f6 f7 f8 cP1 hr5 hW5
  have hF15 := hF1.trans hF5 rfl (OwnTo.refl _ _)
  by_cases hz : q.life - 1 = 0
  ·have z2 : ((q.life - 1 : Int) == 0) = true := by simpa using hz
   have hAW : Calls Tryz.prog 267 #[.pointer (some ⟨p, 0, none⟩), .int .i64 b.owner] W5 (RetAw W5 T p ⟨x.rows, x.tick, x.seed, x.scores, x.bods.set v (q.set 7 (q.life - 1))⟩ vl vs (.slice (some ⟨g, 0, none⟩) x.bods.length cap) o) := by rw [HO.out]; exact award_impl h5 o hon hs h4
   have HZ := Lib.hid hz
   clear hz
   go_upto_region 8 with (go_at_call 267; refine hAW.mono ?_; rintro e w7 ⟨rfl, h7, hF7⟩)
   have hF17 := hF15.trans hF7 rfl (OwnTo.refl _ _)
   obtain ⟨h8, hF8⟩ := h7.fld (by simp) (k := v) (by simpa using hvx) (i := 4) (by omega) 0
   obtain ⟨h9, hF9⟩ := h8.fld (by simp) (k := v) (by simpa using hvx) (i := 5) (by omega) 0
   obtain ⟨h10, hF10⟩ := h9.fld (by simp) (k := v) (by simpa using hvx) (i := 8) (by omega) 20
   have hF := ((hF17.trans hF8 rfl (OwnTo.refl _ _)).trans hF9 rfl (OwnTo.refl _ _)).trans hF10 rfl (OwnTo.refl _ _)
   obtain ⟨hr7, ht7⟩ := h7.2.2.2.2.body hvx5
   rw [List.getElem_set_self] at hr7
   have e4 := hr7 4 _ rfl
   have e5 := hr7 5 _ rfl
   have e8 := hr7 8 _ rfl
   have g4 := (ht7 4 (by omega)).2
   have g5 := (ht7 5 (by omega)).2
   have g8 := (ht7 8 (by omega)).2
   clear hr7 ht7 d75 cA5 cP5
   go_wp2_with (fail)
   go_ret
   refine ⟨rfl, bxOf h10 ?_, hF⟩
   show _ = hitX b v x
   rw [HX.out, if_pos HZ.out, ← hurt_0 HZ.out]
   simp only [List.set_set, set_getD hvx]
  ·have z2 : ((q.life - 1 : Int) == 0) = false := by simpa using hz
   have HZ := Lib.hid hz
   clear hz
   go_wp2_with (fail)
   go_ret
   refine ⟨rfl, bxOf h5 ?_, hF15⟩
   show _ = hitX b v x
   rw [HX.out, if_neg HZ.out, ← hurt_1 HZ.out]
set_option maxRecDepth 100000 in
set_option maxHeartbeats 8000000 in
theorem takenByFirst_impl {w : World} {T p : Nat} {x : Wd} {vl vs vb : Value} (h : BxW w T p x vl vs vb) (hn : x.scores.length ≤ x.bods.length) (hl : x.bods.length ≤ 24) (h4 : x.scores.length ≤ 4) (b : Bd) (hs : ∀ k (hk : k < x.scores.length), 0 ≤ x.scores[k] ∧ x.scores[k] ≤ 1000000) :
  Calls Tryz.prog 248 #[.pointer (some ⟨p, 0, none⟩), .agg #[.int .i64 b.kind, .int .i64 b.owner, .int .i64 b.x, .int .i64 b.y, .int .i64 b.vx, .int .i64 b.vy, .int .i64 b.aim, .int .i64 b.life, .int .i64 b.timer]] w (RetAct w T p x vl vs vb ((metF b (-1) (x.bods.take x.scores.length) 0).map fun v => takeX v x)) := by
 have hT := Nat.le_of_lt h.low
 obtain ⟨W0, hW, hA, hB0, hS0⟩ := rows1 w #[.int .i64 b.kind, .int .i64 b.owner, .int .i64 b.x, .int .i64 b.y, .int .i64 b.vx, .int .i64 b.vy, .int .i64 b.aim, .int .i64 b.life, .int .i64 b.timer] 242
 have cA := rowCells hA
 have hfm := firstMet_impl (h.keep hB0 hT) hn hl b (-1)
 cases hm : metF b (-1) (x.bods.take x.scores.length) 0 with
 | none =>
  rw [hm] at hfm
  have hfm : Calls Tryz.prog 266 #[.pointer (some ⟨p, 0, none⟩), .agg #[.int .i64 b.kind, .int .i64 b.owner, .int .i64 b.x, .int .i64 b.y, .int .i64 b.vx, .int .i64 b.vy, .int .i64 b.aim, .int .i64 b.life, .int .i64 b.timer], .int .i64 (-1)] W0 fun e w' => e = .returned (.int .i64 (-1)) ∧ Below W0.heap.size W0 w' := hfm
  clear hm
  go_enter Tryz.func248, Tryz.ntmps248
  go_wp2_with (go_at_call 266; refine hfm.mono ?_; rintro e w1 ⟨rfl, hb1⟩)
  go_ret
  exact ⟨rfl, h.keep (hB0.trans (hb1.mono hB0.size)) hT, FrW.below (hB0.trans (hb1.mono hB0.size)) hT⟩
 | some v =>
  obtain ⟨-, hv, -, -⟩ := metF_in _ 0 v hm
  simp only [Nat.sub_zero] at hv
  have hvn : v < x.scores.length := by simp at hv; omega
  have hsv := hs v hvn
  rw [hm] at hfm
  have hfm : Calls Tryz.prog 266 #[.pointer (some ⟨p, 0, none⟩), .agg #[.int .i64 b.kind, .int .i64 b.owner, .int .i64 b.x, .int .i64 b.y, .int .i64 b.vx, .int .i64 b.vy, .int .i64 b.aim, .int .i64 b.life, .int .i64 b.timer], .int .i64 (-1)] W0 fun e w' => e = .returned (.int .i64 (v : Int)) ∧ Below W0.heap.size W0 w' := hfm
  have z1 : ((v : Int) == -1) = false := by simp
  have hAW := fun {W : World} (hb : Below w.heap.size w W) => award_impl (h.keep hb hT) v hvn hsv h4
  clear hm hv hsv hs
  go_enter Tryz.func248, Tryz.ntmps248
  go_upto_region 4 with (go_at_call 266; refine hfm.mono ?_; rintro e w1 ⟨rfl, hb1⟩)
  have hb01 := hB0.trans (hb1.mono hB0.size)
  have hF1 : FrW T p vs vb w w1 := FrW.below hb01 hT
  go_wp2_with (go_at_call 267; refine (hAW hb01).mono ?_; rintro e w7 ⟨rfl, h7, hF7⟩)
  go_ret
  exact ⟨rfl, h7, hF1.trans hF7 rfl (OwnTo.refl _ _)⟩
def zBdV : Value := .agg z9
theorem ta_hit1 (v : Value) (w : World) : (Instr.typeAssert (.iface 240 v) 218 240 true).run Tryz.prog w = .ok (.tuple #[v, .bool true]) w := by kernel_rfl
theorem ta_hit2 (v : Value) (w : World) : (Instr.typeAssert (.iface 242 v) 218 242 true).run Tryz.prog w = .ok (.tuple #[v, .bool true]) w := by kernel_rfl
theorem ta_hit0 (v : Value) (w : World) : (Instr.typeAssert (.iface 239 v) 218 239 true).run Tryz.prog w = .ok (.tuple #[v, .bool true]) w := by kernel_rfl
theorem ta_miss21 (v : Value) (w : World) : (Instr.typeAssert (.iface 242 v) 218 240 true).run Tryz.prog w = .ok (.tuple #[zBdV, .bool false]) w := by kernel_rfl
theorem ta_miss10 (v : Value) (w : World) : (Instr.typeAssert (.iface 240 v) 218 239 true).run Tryz.prog w = .ok (.tuple #[zBdV, .bool false]) w := by kernel_rfl
theorem ta_miss20 (v : Value) (w : World) : (Instr.typeAssert (.iface 242 v) 218 239 true).run Tryz.prog w = .ok (.tuple #[zBdV, .bool false]) w := by kernel_rfl
def actX (b : Bd) (x : Wd) : Option Wd :=
 if b.kind = 1 then (metF b b.owner (x.bods.take x.scores.length) 0).map fun v => hitX b v x
 else (metF b (-1) (x.bods.take x.scores.length) 0).map fun v => takeX v x
set_option maxRecDepth 100000 in
set_option maxHeartbeats 8000000 in
theorem actOnFirst_impl {w : World} {T p : Nat} {x : Wd} {vl vs vb : Value} (h : BxW w T p x vl vs vb) (hn : x.scores.length ≤ x.bods.length) (hl : x.bods.length ≤ 24) (h4 : x.scores.length ≤ 4) (b : Bd) (hk : b.kind = 1 ∨ b.kind = 2) (o : Nat) (ho : b.owner = (o : Int)) (hon : o < x.scores.length) (hs : ∀ k (hk : k < x.scores.length), 0 ≤ x.scores[k] ∧ x.scores[k] ≤ 1000000) (hlf : ∀ k (hk : k < x.bods.length), 0 < x.bods[k].life → x.bods[k].life ≤ 3) :
  Calls Tryz.prog 207 #[.pointer (some ⟨p, 0, none⟩), .agg #[.int .i64 b.kind, .int .i64 b.owner, .int .i64 b.x, .int .i64 b.y, .int .i64 b.vx, .int .i64 b.vy, .int .i64 b.aim, .int .i64 b.life, .int .i64 b.timer]] w (RetAct w T p x vl vs vb (actX b x)) := by
 have hT := Nat.le_of_lt h.low
 obtain ⟨W0, hW, hA, hB0, hS0⟩ := rows1 w #[.int .i64 b.kind, .int .i64 b.owner, .int .i64 b.x, .int .i64 b.y, .int .i64 b.vx, .int .i64 b.vy, .int .i64 b.aim, .int .i64 b.life, .int .i64 b.timer] 100
 have cA := rowCells hA
 rcases hk with hk | hk
 ·have hfo := figureOf_1 b hk W0
  have hac := fun {W : World} (hb : Below w.heap.size w W) => hitFirst_impl (h.keep hb hT) hn hl h4 b o ho hon (hs o hon) hlf
  have HE : Hid (actX b x = (metF b b.owner (x.bods.take x.scores.length) 0).map fun v => hitX b v x) := Lib.hid (by unfold actX; rw [if_pos hk])
  generalize (metF b b.owner (x.bods.take x.scores.length) 0).map (fun v => hitX b v x) = R at *
  have ta1 := ta_hit1
  have ta2 := ta_hit2
  have ta3 := ta_miss21
  clear hk ho hs hlf
  go_enter Tryz.func207, Tryz.ntmps207
  go_upto_region 5 with (go_at_call 211; refine hfo.mono ?_; rintro e w1 ⟨rfl, hb1⟩)
  have hb01 := (hB0.trans (hb1.mono hB0.size)).trans ((below1 w1 (.cells #[.int .i64 b.kind, .int .i64 b.owner, .int .i64 b.x, .int .i64 b.y, .int .i64 b.vx, .int .i64 b.vy, .int .i64 b.aim, .int .i64 b.life, .int .i64 b.timer] 240)).mono (by have := hb1.size; omega))
  have hF1 : FrW T p vs vb w (w1.alloc (.cells #[.int .i64 b.kind, .int .i64 b.owner, .int .i64 b.x, .int .i64 b.y, .int .i64 b.vx, .int .i64 b.vy, .int .i64 b.aim, .int .i64 b.life, .int .i64 b.timer] 240)) := FrW.below hb01 hT
  go_wp2_with (go_at_call 247; refine (hac hb01).mono ?_; rintro e w7 ⟨rfl, h7, hF7⟩)
  go_ret
  exact ⟨by rw [HE.out]; rfl, by rw [HE.out]; exact h7, hF1.trans hF7 rfl (OwnTo.refl _ _)⟩
 ·have hfo := figureOf_2 b hk W0
  have hac := fun {W : World} (hb : Below w.heap.size w W) => takenByFirst_impl (h.keep hb hT) hn hl h4 b hs
  have HE : Hid (actX b x = (metF b (-1) (x.bods.take x.scores.length) 0).map fun v => takeX v x) := Lib.hid (by unfold actX; rw [if_neg (by omega)])
  generalize (metF b (-1) (x.bods.take x.scores.length) 0).map (fun v => takeX v x) = R at *
  have ta1 := ta_hit1
  have ta2 := ta_hit2
  have ta3 := ta_miss21
  clear hk ho hs hlf
  go_enter Tryz.func207, Tryz.ntmps207
  go_upto_region 8 with (go_at_call 211; refine hfo.mono ?_; rintro e w1 ⟨rfl, hb1⟩)
  have hb01 := (hB0.trans (hb1.mono hB0.size)).trans ((below1 w1 (.cells #[.int .i64 b.kind, .int .i64 b.owner, .int .i64 b.x, .int .i64 b.y, .int .i64 b.vx, .int .i64 b.vy, .int .i64 b.aim, .int .i64 b.life, .int .i64 b.timer] 242)).mono (by have := hb1.size; omega))
  have hF1 : FrW T p vs vb w (w1.alloc (.cells #[.int .i64 b.kind, .int .i64 b.owner, .int .i64 b.x, .int .i64 b.y, .int .i64 b.vx, .int .i64 b.vy, .int .i64 b.aim, .int .i64 b.life, .int .i64 b.timer] 242)) := FrW.below hb01 hT
  go_wp2_with (go_at_call 248; refine (hac hb01).mono ?_; rintro e w7 ⟨rfl, h7, hF7⟩)
  go_ret
  exact ⟨by rw [HE.out]; rfl, by rw [HE.out]; exact h7, hF1.trans hF7 rfl (OwnTo.refl _ _)⟩
end Go.Proofs.YtnlonkkbjkfkmaaGreatDoor
