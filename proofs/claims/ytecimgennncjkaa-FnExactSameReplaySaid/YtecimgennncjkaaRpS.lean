/-
  SameReplay: rows of rows compared; the contracts of the model and of the program. No condition but that the lists can be.
-/
import Derived.Test.YtecimgennncjkaaRpG
import Derived.Test.YtecimgennncjkaaSmG
import Derived.Test.YtecimgennncjkaaTrL
import Derived.BigQuiet
import Derived.Deep.RegionHeld3
namespace Go.Proofs.Ytecimgennncjkaa
open Go.RowKit
set_option linter.all false
theorem sameB_sg (xs ys : List Int) : sameB xs ys = sg xs ys := rfl
set_option maxHeartbeats 2000000 in
theorem equalF_any {w : World} {v v' : Value} {X Y : Rowi} (h : RdR w v X) (h' : RdR w v' Y) (hs : SaneR X) (hs' : SaneR Y) :
    Calls Try.prog 50 #[v, v', (.func (.func 51) #[] #[])] w fun e w' => e = .returned (.bool (sg X Y)) ∧ Below w.heap.size w w' := by
  obtain ⟨a, cap, rfl, h⟩ := h
  obtain ⟨a', cap', rfl, h'⟩ := h'
  have hlc : (X.length : Int) ≤ 9223372036854775807 := by have := hs.1; omega
  have hlc' : (Y.length : Int) ≤ 9223372036854775807 := by have := hs'.1; omega
  by_cases hl : X.length = Y.length
  · have hl' : (X.length : Int) = (Y.length : Int) := by omega
    have HL := Lib.hid hl
    have z1 : ((X.length : Int) != (Y.length : Int)) = false := by simp [hl']
    clear hl hl'
    go_enter Try.func50, Try.ntmps50
    go_wp2_with (fail)
    go_loopw [17] (fun i wr => ∃ k : Nat, k ≤ X.length ∧ i = .int .i64 (k : Int) ∧ Below w.heap.size w wr ∧ Hid (∀ j (h1 : j < X.length) (h2 : j < Y.length), j < k → X[j] = Y[j])) (fun i _ => X.length - (intOf i).toNat)
    case atStart => exact ⟨0, Nat.zero_le _, rfl, Below.refl _ _, Lib.hid (fun _ _ _ h => by omega)⟩
    case round =>
      obtain ⟨k, hk, rfl, hbel, HA⟩ := hrel
      by_cases hkl : k < X.length
      · have hkl2 : k < Y.length := by rw [← HL.out]; exact hkl
        obtain ⟨b, off, rfl, hc⟩ := h.resolve_left (by intro e; rw [e] at hkl; simp at hkl)
        obtain ⟨b', off', rfl, hc'⟩ := h'.resolve_left (by intro e; rw [e] at hkl2; simp at hkl2)
        obtain ⟨u, c0, r0⟩ := hc k hkl
        obtain ⟨u', c0', r0'⟩ := hc' k hkl2
        have c1 := (hbel.cell (World.block_lt_of_cell? w _ c0)).trans c0
        have c2 := (hbel.cell (World.block_lt_of_cell? w _ c0')).trans c0'
        have R1 := r0.keep hbel
        have R2 := r0'.keep hbel
        have hx3 := hs.2 X[k] (List.getElem_mem _)
        have hy3 := hs'.2 Y[k] (List.getElem_mem _)
        have HB := Lib.hid (fun he => sg_bad (xs := X) (ys := Y) hkl hkl2 he)
        have hE := equalI_any R1 R2 hx3 hy3
        have hl1 : (k : Int) < (X.length : Int) := by omega
        have hl2 : (k : Int) < (Y.length : Int) := by omega
        have HQ : Hid (sameB X[k] Y[k] = true → X[k] = Y[k]) := Lib.hid (fun h => by unfold sameB at h; exact of_decide_eq_true h)
        have HN : Hid (sameB X[k] Y[k] = false → ¬ X[k] = Y[k]) := Lib.hid (fun h => by unfold sameB at h; exact of_decide_eq_false h)
        obtain ⟨ax, cx, rfl, -⟩ := id R1
        obtain ⟨ay, cy, rfl, -⟩ := id R2
        clear hc hc' c0 c0' r0 r0' R1 R2 hx3 hy3
        generalize X[k].length = m1 at *
        generalize Y[k].length = m2 at *
        cases hq : sameB X[k] Y[k] with
        | true =>
          rw [hq] at hE
          have HE := Lib.hid (HQ.out hq)
          clear hq HB HQ HN
          go_wp2_with (fail)
          refine hE.mono ?_
          rintro e w1 ⟨rfl, hb1⟩
          go_wp2_with (fail)
          go_roundw
          case rel =>
            refine ⟨k + 1, by omega, by go_num, hbel.trans (hb1.mono hbel.size), Lib.hid (fun j h1 h2 hjk => ?_)⟩
            by_cases e : j = k
            · subst e; exact HE.out
            · exact HA.out j h1 h2 (by omega)
          case measure => simp [intOf]; omega
        | false =>
          rw [hq] at hE
          have HF := Lib.hid (HB.out (HN.out hq))
          clear hq HB HQ HN
          go_wp2_with (fail)
          refine hE.mono ?_
          rintro e w1 ⟨rfl, hb1⟩
          go_wp2_with (fail)
          go_ret
          exact ⟨by rw [HF.out]; rfl, hbel.trans (hb1.mono hbel.size)⟩
      · have HF := Lib.hid (sg_ok HL.out (fun j h1 h2 => HA.out j h1 h2 (by omega)))
        go_wp2_with (fail)
        go_ret
        exact ⟨by rw [HF.out]; rfl, hbel⟩
  · have HF := Lib.hid (sg_len hl)
    have z1 : ((X.length : Int) != (Y.length : Int)) = true := by simp; omega
    clear hl
    go_enter Try.func50, Try.ntmps50
    go_wp2_with (fail)
    go_ret
    exact ⟨by rw [HF.out]; rfl, Below.refl _ _⟩
set_option maxHeartbeats 2000000 in
theorem l07Rows_any {w : World} {v v' : Value} {X Y : Rowi} (h : RdR w v X) (h' : RdR w v' Y) (hs : SaneR X) (hs' : SaneR Y) :
    Calls Try.prog 46 #[v, v'] w fun e w' => e = .returned (.bool (sg X Y)) ∧ Below w.heap.size w w' := by
  obtain ⟨a, cap, rfl, h⟩ := h
  obtain ⟨a', cap', rfl, h'⟩ := h'
  have hlc : (X.length : Int) ≤ 9223372036854775807 := by have := hs.1; omega
  have hlc' : (Y.length : Int) ≤ 9223372036854775807 := by have := hs'.1; omega
  by_cases hl : X.length = Y.length
  · have hl' : (X.length : Int) = (Y.length : Int) := by omega
    have HL := Lib.hid hl
    have z1 : ((X.length : Int) != (Y.length : Int)) = false := by simp [hl']
    clear hl hl'
    go_enter Try.func46, Try.ntmps46
    go_wp2_with (fail)
    go_loopw [5] (fun i wr => ∃ k : Nat, k ≤ X.length ∧ i = .int .i64 (k : Int) ∧ Below w.heap.size w wr ∧ Hid (∀ j (h1 : j < X.length) (h2 : j < Y.length), j < k → X[j] = Y[j])) (fun i _ => X.length - (intOf i).toNat)
    case atStart => exact ⟨0, Nat.zero_le _, rfl, Below.refl _ _, Lib.hid (fun _ _ _ h => by omega)⟩
    case round =>
      obtain ⟨k, hk, rfl, hbel, HA⟩ := hrel
      by_cases hkl : k < X.length
      · have hkl2 : k < Y.length := by rw [← HL.out]; exact hkl
        obtain ⟨b, off, rfl, hc⟩ := h.resolve_left (by intro e; rw [e] at hkl; simp at hkl)
        obtain ⟨b', off', rfl, hc'⟩ := h'.resolve_left (by intro e; rw [e] at hkl2; simp at hkl2)
        obtain ⟨u, c0, r0⟩ := hc k hkl
        obtain ⟨u', c0', r0'⟩ := hc' k hkl2
        have c1 := (hbel.cell (World.block_lt_of_cell? w _ c0)).trans c0
        have c2 := (hbel.cell (World.block_lt_of_cell? w _ c0')).trans c0'
        have R1 := r0.keep hbel
        have R2 := r0'.keep hbel
        have hx3 := hs.2 X[k] (List.getElem_mem _)
        have hy3 := hs'.2 Y[k] (List.getElem_mem _)
        have HB := Lib.hid (fun he => sg_bad (xs := X) (ys := Y) hkl hkl2 he)
        have hE := fun {W : World} (hb : Below wr.heap.size wr W) => l02Ints_any (R1.keep hb) (R2.keep hb) hx3 hy3
        have hl1 : (k : Int) < (X.length : Int) := by omega
        have hl2 : (k : Int) < (Y.length : Int) := by omega
        have HQ : Hid (sameB X[k] Y[k] = true → X[k] = Y[k]) := Lib.hid (fun h => by unfold sameB at h; exact of_decide_eq_true h)
        have HN : Hid (sameB X[k] Y[k] = false → ¬ X[k] = Y[k]) := Lib.hid (fun h => by unfold sameB at h; exact of_decide_eq_false h)
        obtain ⟨ax, cx, rfl, -⟩ := id R1
        obtain ⟨ay, cy, rfl, -⟩ := id R2
        clear hc hc' c0 c0' r0 r0' R1 R2 hx3 hy3
        generalize X[k].length = m1 at *
        generalize Y[k].length = m2 at *
        cases hq : sameB X[k] Y[k] with
        | true =>
          rw [hq] at hE
          have HE := Lib.hid (HQ.out hq)
          clear hq HB HQ HN
          go_wp2_with (fail)
          go_region_held3 (fun w' => w'.cell? ⟨b, off + k, none⟩ = some (.slice ax m1 cx) ∧ w'.cell? ⟨b', off' + k, none⟩ = some (.slice ay m2 cy)) (first | go_keep | exact ⟨c1, c2⟩ | exact ⟨c3, c4⟩)
            (first | (go_at_call 72; refine (hE (belowDrew _ _)).mono ?_; rintro e w1 ⟨rfl, hb1⟩; have hb1 := (belowDrew wr 1).trans (hb1.mono (by simp)); have c3 := (hb1.cell (World.block_lt_of_cell? wr _ c1)).trans c1; have c4 := (hb1.cell (World.block_lt_of_cell? wr _ c2)).trans c2))
          go_wp2_with (fail)
          go_roundw
          case rel =>
            refine ⟨k + 1, by omega, by go_num, hbel.trans (hb1.mono hbel.size), Lib.hid (fun j h1 h2 hjk => ?_)⟩
            by_cases e : j = k
            · subst e; exact HE.out
            · exact HA.out j h1 h2 (by omega)
          case measure => simp [intOf]; omega
        | false =>
          rw [hq] at hE
          have HF := Lib.hid (HB.out (HN.out hq))
          clear hq HB HQ HN
          go_wp2_with (fail)
          go_region_held3 (fun w' => w'.cell? ⟨b, off + k, none⟩ = some (.slice ax m1 cx) ∧ w'.cell? ⟨b', off' + k, none⟩ = some (.slice ay m2 cy)) (first | go_keep | exact ⟨c1, c2⟩ | exact ⟨c3, c4⟩)
            (first | (go_at_call 72; refine (hE (belowDrew _ _)).mono ?_; rintro e w1 ⟨rfl, hb1⟩; have hb1 := (belowDrew wr 1).trans (hb1.mono (by simp)); have c3 := (hb1.cell (World.block_lt_of_cell? wr _ c1)).trans c1; have c4 := (hb1.cell (World.block_lt_of_cell? wr _ c2)).trans c2))
          go_wp2_with (fail)
          go_ret
          exact ⟨by rw [HF.out]; rfl, hbel.trans (hb1.mono hbel.size)⟩
      · have HF := Lib.hid (sg_ok HL.out (fun j h1 h2 => HA.out j h1 h2 (by omega)))
        go_wp2_with (fail)
        go_ret
        exact ⟨by rw [HF.out]; rfl, hbel⟩
  · have HF := Lib.hid (sg_len hl)
    have z1 : ((X.length : Int) != (Y.length : Int)) = true := by simp; omega
    clear hl
    go_enter Try.func46, Try.ntmps46
    go_wp2_with (fail)
    go_ret
    exact ⟨by rw [HF.out]; rfl, Below.refl _ _⟩
/-- Whether two replays are equal. -/
def sameRp (x y : Rp) : Bool := decide (x.players = y.players) && (decide (x.seed = y.seed) && (decide (x.every = y.every) && (sg x.lv y.lv && (sg x.rows y.rows && sg x.keys y.keys))))
section
variable {x y : Rp}
theorem sr_p (h : ¬ x.players = y.players) : sameRp x y = false := by unfold sameRp; simp [h]
theorem sr_s (h : ¬ x.seed = y.seed) : sameRp x y = false := by unfold sameRp; simp [h]
theorem sr_e (h : ¬ x.every = y.every) : sameRp x y = false := by unfold sameRp; simp [h]
theorem sr_l (h : sg x.lv y.lv = false) : sameRp x y = false := by unfold sameRp; rw [h]; simp
theorem sr_r (h : sg x.rows y.rows = false) : sameRp x y = false := by unfold sameRp; rw [h]; simp
theorem sr_k (h : sg x.keys y.keys = false) : sameRp x y = false := by unfold sameRp; rw [h]; simp
theorem sr_ok (h1 : x.players = y.players) (h2 : x.seed = y.seed) (h3 : x.every = y.every) (h4 : sg x.lv y.lv = true) (h5 : sg x.rows y.rows = true) : sameRp x y = sg x.keys y.keys := by unfold sameRp; rw [decide_eq_true h1, decide_eq_true h2, decide_eq_true h3, h4, h5]; rfl
end
set_option maxRecDepth 100000 in
set_option maxHeartbeats 8000000 in
theorem sameReplay_impl {w : World} {x y : Rp} {vl vs vb vl' vs' vb' : Value} (h : RdRp w x vl vs vb) (h' : RdRp w y vl' vs' vb') (hs : x.sane) (hs' : y.sane) :
    Calls Try.prog 18 #[.agg (rpC x vl vs vb), .agg (rpC y vl' vs' vb')] w fun e w' => e = .returned (.bool (sameRp x y)) ∧ Below w.heap.size w w' := by
  obtain ⟨hs1, hs2, hs3⟩ := hs
  obtain ⟨ht1, ht2, ht3⟩ := hs'
  have h0 := h
  have h0' := h'
  obtain ⟨al, cl, rfl, -⟩ := id h.1
  obtain ⟨aq, cq, rfl, -⟩ := id h.2.1
  obtain ⟨ab, cb, rfl, hk9⟩ := id h.2.2
  obtain ⟨al', cl', rfl, -⟩ := id h'.1
  obtain ⟨aq', cq', rfl, -⟩ := id h'.2.1
  obtain ⟨ab', cb', rfl, hk9'⟩ := id h'.2.2
  unfold rpC
  obtain ⟨W0, hW, hA, hB, hB0, hS0⟩ := rows2 w #[.slice al x.lv.length cl, .int .i64 x.players, .int .i64 x.seed, .int .i64 x.every, .slice aq x.rows.length cq, .slice ab x.keys.length cb] #[.slice al' y.lv.length cl', .int .i64 y.players, .int .i64 y.seed, .int .i64 y.every, .slice aq' y.rows.length cq', .slice ab' y.keys.length cb'] 40 40
  have cA := rowCells hA
  have cB := rowCells hB
  have hlb : (x.keys.length : Int) ≤ 9223372036854775807 := by have := hs3.1; omega
  have hlb' : (y.keys.length : Int) ≤ 9223372036854775807 := by have := ht3.1; omega
  by_cases e0 : x.players = y.players
  case neg =>
    have z0 : (x.players != y.players) = true := by simpa using e0
    have HF := Lib.hid (sr_p e0)
    clear e0
    go_enter Try.func18, Try.ntmps18
    go_wp2_with (fail)
    go_ret
    exact ⟨by rw [HF.out]; rfl, hB0⟩
  have z0 : (x.players != y.players) = false := by simpa using e0
  have E0 := Lib.hid e0
  clear e0
  by_cases e1 : x.seed = y.seed
  case neg =>
    have z1 : (x.seed != y.seed) = true := by simpa using e1
    have HF := Lib.hid (sr_s e1)
    clear e1
    go_enter Try.func18, Try.ntmps18
    go_wp2_with (fail)
    go_ret
    exact ⟨by rw [HF.out]; rfl, hB0⟩
  have z1 : (x.seed != y.seed) = false := by simpa using e1
  have E1 := Lib.hid e1
  clear e1
  by_cases e2 : x.every = y.every
  case neg =>
    have z2 : (x.every != y.every) = true := by simpa using e2
    have HF := Lib.hid (sr_e e2)
    clear e2
    go_enter Try.func18, Try.ntmps18
    go_wp2_with (fail)
    go_ret
    exact ⟨by rw [HF.out]; rfl, hB0⟩
  have z2 : (x.every != y.every) = false := by simpa using e2
  have E2 := Lib.hid e2
  clear e2
  have r1 := h0.keep hB0
  have r1' := h0'.keep hB0
  go_enter Try.func18, Try.ntmps18
  go_wp2_with (fail)
  try rw [hW]
  clear hW
  refine (equalS_any r1.1 r1'.1 hs1.1 ht1.1).mono ?_
  rintro e w1 ⟨rfl, hb1⟩
  have hA1 := keepHeap hb1 hA
  have hB1 := keepHeap hb1 hB
  have hb01 := hB0.trans (hb1.mono hB0.size)
  have cA1 := rowCells hA1
  have cB1 := rowCells hB1
  clear cA cB hA hB
  cases q3 : sg x.lv y.lv with
  | false =>
    have HF := Lib.hid (sr_l q3)
    clear q3
    go_wp2_with (fail)
    go_ret
    exact ⟨by rw [HF.out]; rfl, hb01⟩
  | true =>
  have Q3 := Lib.hid q3
  clear q3
  have r2 := h0.keep hb01
  have r2' := h0'.keep hb01
  go_wp2_with (fail)
  refine (equalF_any r2.2.1 r2'.2.1 hs2 ht2).mono ?_
  rintro e w2 ⟨rfl, hb2⟩
  have hb02 := hb01.trans (hb2.mono hb01.size)
  have hA2 := keepHeap hb2 hA1
  have hB2 := keepHeap hb2 hB1
  have cA2 := rowCells hA2
  have cB2 := rowCells hB2
  clear cA1 cB1
  cases q4 : sg x.rows y.rows with
  | false =>
    have HF := Lib.hid (sr_r q4)
    clear q4
    go_wp2_with (fail)
    go_ret
    exact ⟨by rw [HF.out]; rfl, hb02⟩
  | true =>
  have HF := Lib.hid (sr_ok E0.out E1.out E2.out Q3.out q4)
  clear q4
  have r3 := h0.keep hb02
  have r3' := h0'.keep hb02
  go_wp2_with (fail)
  refine (equalS_any r3.2.2 r3'.2.2 hs3.1 ht3.1).mono ?_
  rintro e w3 ⟨rfl, hb3⟩
  go_wp2_with (fail)
  go_ret
  exact ⟨by rw [HF.out]; rfl, hb02.trans (hb3.mono hb02.size)⟩
set_option maxRecDepth 100000 in
set_option maxHeartbeats 8000000 in
theorem sameReplay_spec {w : World} {x y : Rp} {vl vs vb vl' vs' vb' : Value} (h : RdRp w x vl vs vb) (h' : RdRp w y vl' vs' vb') (hs : x.sane) (hs' : y.sane) :
    Calls Try.prog 16 #[.agg (rpC x vl vs vb), .agg (rpC y vl' vs' vb')] w fun e w' => e = .returned (.bool (sameRp x y)) ∧ Below w.heap.size w w' := by
  obtain ⟨hs1, hs2, hs3⟩ := hs
  obtain ⟨ht1, ht2, ht3⟩ := hs'
  have h0 := h
  have h0' := h'
  obtain ⟨al, cl, rfl, -⟩ := id h.1
  obtain ⟨aq, cq, rfl, -⟩ := id h.2.1
  obtain ⟨ab, cb, rfl, hk9⟩ := id h.2.2
  obtain ⟨al', cl', rfl, -⟩ := id h'.1
  obtain ⟨aq', cq', rfl, -⟩ := id h'.2.1
  obtain ⟨ab', cb', rfl, hk9'⟩ := id h'.2.2
  unfold rpC
  obtain ⟨W0, hW, hA, hB, hB0, hS0⟩ := rows2 w #[.slice al x.lv.length cl, .int .i64 x.players, .int .i64 x.seed, .int .i64 x.every, .slice aq x.rows.length cq, .slice ab x.keys.length cb] #[.slice al' y.lv.length cl', .int .i64 y.players, .int .i64 y.seed, .int .i64 y.every, .slice aq' y.rows.length cq', .slice ab' y.keys.length cb'] 40 40
  have cA := rowCells hA
  have cB := rowCells hB
  have hlb : (x.keys.length : Int) ≤ 9223372036854775807 := by have := hs3.1; omega
  have hlb' : (y.keys.length : Int) ≤ 9223372036854775807 := by have := ht3.1; omega
  by_cases e0 : x.players = y.players
  case neg =>
    have z0 : (x.players != y.players) = true := by simpa using e0
    have HF := Lib.hid (sr_p e0)
    clear e0
    go_enter Try.func16, Try.ntmps16
    go_wp2_with (fail)
    go_ret
    exact ⟨by rw [HF.out]; rfl, hB0⟩
  have z0 : (x.players != y.players) = false := by simpa using e0
  have E0 := Lib.hid e0
  clear e0
  by_cases e1 : x.seed = y.seed
  case neg =>
    have z1 : (x.seed != y.seed) = true := by simpa using e1
    have HF := Lib.hid (sr_s e1)
    clear e1
    go_enter Try.func16, Try.ntmps16
    go_wp2_with (fail)
    go_ret
    exact ⟨by rw [HF.out]; rfl, hB0⟩
  have z1 : (x.seed != y.seed) = false := by simpa using e1
  have E1 := Lib.hid e1
  clear e1
  by_cases e2 : x.every = y.every
  case neg =>
    have z2 : (x.every != y.every) = true := by simpa using e2
    have HF := Lib.hid (sr_e e2)
    clear e2
    go_enter Try.func16, Try.ntmps16
    go_wp2_with (fail)
    go_ret
    exact ⟨by rw [HF.out]; rfl, hB0⟩
  have z2 : (x.every != y.every) = false := by simpa using e2
  have E2 := Lib.hid e2
  clear e2
  have r1 := h0.keep hB0
  have r1' := h0'.keep hB0
  go_enter Try.func16, Try.ntmps16
  go_wp2_with (fail)
  try rw [hW]
  clear hW
  refine (sameLevel_spec r1.1 r1'.1 hs1.1 ht1.1).mono ?_
  rintro e w1 ⟨rfl, hb1⟩
  have hA1 := keepHeap hb1 hA
  have hB1 := keepHeap hb1 hB
  have hb01 := hB0.trans (hb1.mono hB0.size)
  have cA1 := rowCells hA1
  have cB1 := rowCells hB1
  clear cA cB hA hB
  cases q3 : sg x.lv y.lv with
  | false =>
    have HF := Lib.hid (sr_l q3)
    clear q3
    go_wp2_with (fail)
    go_ret
    exact ⟨by rw [HF.out]; rfl, hb01⟩
  | true =>
  have Q3 := Lib.hid q3
  clear q3
  have r2 := h0.keep hb01
  have r2' := h0'.keep hb01
  go_wp2_with (fail)
  refine (l07Rows_any r2.2.1 r2'.2.1 hs2 ht2).mono ?_
  rintro e w2 ⟨rfl, hb2⟩
  have hb02 := hb01.trans (hb2.mono hb01.size)
  have hA2 := keepHeap hb2 hA1
  have hB2 := keepHeap hb2 hB1
  have cA2 := rowCells hA2
  have cB2 := rowCells hB2
  clear cA1 cB1
  cases q4 : sg x.rows y.rows with
  | false =>
    have HF := Lib.hid (sr_r q4)
    clear q4
    go_wp2_with (fail)
    go_ret
    exact ⟨by rw [HF.out]; rfl, hb02⟩
  | true =>
  have HOK := Lib.hid (sr_ok E0.out E1.out E2.out Q3.out q4)
  clear q4
  by_cases hl : x.keys.length = y.keys.length
  case neg =>
    have zl : ((x.keys.length : Int) != (y.keys.length : Int)) = true := by simp; omega
    have HF := Lib.hid (sr_k (sg_len hl))
    clear hl
    go_wp2_with (fail)
    go_ret
    exact ⟨by rw [HF.out]; rfl, hb02⟩
  have zl : ((x.keys.length : Int) != (y.keys.length : Int)) = false := by simp; omega
  have HL := Lib.hid hl
  clear hl
  go_wp2_with (fail)
  go_loopw [5] (fun i wr => ∃ k : Nat, k ≤ x.keys.length ∧ i = .int .i64 (k : Int) ∧ Below w2.heap.size w2 wr ∧ Hid (∀ j (h1 : j < x.keys.length) (h2 : j < y.keys.length), j < k → x.keys[j] = y.keys[j])) (fun i _ => x.keys.length - (intOf i).toNat)
  case atStart => exact ⟨0, Nat.zero_le _, rfl, Below.refl _ _, Lib.hid (fun _ _ _ h => by omega)⟩
  case round =>
    obtain ⟨k, hk, rfl, hbr, HAt⟩ := hrel
    have hbel := hb02.trans (hbr.mono hb02.size)
    have cAr := rowCells (keepHeap hbr hA2)
    have cBr := rowCells (keepHeap hbr hB2)
    clear cA2 cB2
    by_cases hkl : k < x.keys.length
    · have hkl2 : k < y.keys.length := by rw [← HL.out]; exact hkl
      obtain ⟨b, off, rfl, hc⟩ := hk9.resolve_left (by intro e; rw [e] at hkl; simp at hkl)
      obtain ⟨b', off', rfl, hc'⟩ := hk9'.resolve_left (by intro e; rw [e] at hkl2; simp at hkl2)
      have c0 := hc k hkl
      have c0' := hc' k hkl2
      have c1 := (hbel.cell (World.block_lt_of_cell? w _ c0)).trans c0
      have c2 := (hbel.cell (World.block_lt_of_cell? w _ c0')).trans c0'
      have HB := Lib.hid (fun he => sr_k (x := x) (y := y) (sg_bad hkl hkl2 he))
      have hl1 : (k : Int) < (x.keys.length : Int) := by omega
      have hl2 : (k : Int) < (y.keys.length : Int) := by omega
      obtain ⟨s, es⟩ : ∃ s, x.keys[k] = s := ⟨_, rfl⟩
      obtain ⟨t, et⟩ : ∃ t, y.keys[k] = t := ⟨_, rfl⟩
      rw [es] at c1
      rw [et] at c2
      have d1 : wr.cell? ⟨w.heap.size, 5, none⟩ = some (.slice (some ⟨b, off, none⟩) x.keys.length cb) := cAr 5
      have d2 : wr.cell? ⟨w.heap.size + 1, 5, none⟩ = some (.slice (some ⟨b', off', none⟩) y.keys.length cb') := cBr 5
      by_cases he : s = t
      · have HE : Hid (x.keys[k] = y.keys[k]) := Lib.hid (by rw [es, et]; exact he)
        subst he
        clear hc hc' c0 c0' es et HB
        go_wp2_with (fail)
        go_quiet (fail)
        go_wp2_with (fail)
        go_roundw
        case rel =>
          refine ⟨k + 1, by omega, by go_num, hbr.trans ⟨rfl, rfl, rfl, Nat.le_refl _, fun _ _ => rfl⟩, Lib.hid (fun j h1 h2 hjk => ?_)⟩
          by_cases e : j = k
          · subst e; exact HE.out
          · exact HAt.out j h1 h2 (by omega)
        case measure => simp [intOf]; omega
      · have HF := Lib.hid (HB.out (by rw [es, et]; exact he))
        have z2 : ((⟨s.toArray⟩ : ByteArray).toList == (⟨t.toArray⟩ : ByteArray).toList) = false := by simpa [ByteArray.toList_eq] using he
        have z3 : (s == t) = false := by simpa using he
        have z4 : (s != t) = true := by simpa using he
        clear hc hc' c0 c0' es et HB
        go_wp2_with (fail)
        go_quiet (fail)
        go_wp2_with (fail)
        go_ret
        exact ⟨by rw [HF.out]; rfl, hbel.trans (Below.mono ⟨rfl, rfl, rfl, Nat.le_refl _, fun _ _ => rfl⟩ hbel.size)⟩
    · have HF := Lib.hid (sg_ok HL.out (fun j h1 h2 => HAt.out j h1 h2 (by omega)))
      go_wp2_with (fail)
      go_ret
      exact ⟨by rw [HOK.out, HF.out]; rfl, hbel⟩
end Go.Proofs.Ytecimgennncjkaa
