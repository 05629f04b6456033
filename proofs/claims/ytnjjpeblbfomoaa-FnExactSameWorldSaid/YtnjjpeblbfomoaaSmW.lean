/-
  SameWorld: rows of strings and of bodies compared; the contracts of the model and of the program. No condition but that the lists can be.
-/
import Derived.Test.YtnjjpeblbfomoaaWdE
import Derived.Test.YtnjjpeblbfomoaaTrL
namespace Go.Proofs.Ytnjjpeblbfomoaa
open Go.RowKit
set_option linter.all false
def sg {α : Type} [DecidableEq α] (xs ys : List α) : Bool := decide (xs = ys)
theorem sg_len {α : Type} [DecidableEq α] {xs ys : List α} (h : ¬ xs.length = ys.length) : sg xs ys = false := by unfold sg; rw [decide_eq_false_iff_not]; intro e; exact h (by rw [e])
theorem sg_bad {α : Type} [DecidableEq α] {xs ys : List α} {k : Nat} (h1 : k < xs.length) (h2 : k < ys.length) (h : ¬ xs[k] = ys[k]) : sg xs ys = false := by unfold sg; rw [decide_eq_false_iff_not]; intro e; subst e; exact h rfl
theorem sg_ok {α : Type} [DecidableEq α] {xs ys : List α} (hl : xs.length = ys.length) (h : ∀ k (h1 : k < xs.length) (h2 : k < ys.length), xs[k] = ys[k]) : sg xs ys = true := by unfold sg; rw [decide_eq_true_eq]; exact List.ext_getElem hl h
theorem bdN_inj {x y : Bd} (h : bdN x = bdN y) : x = y := by
  cases x; cases y
  simp [bdN] at h
  simp [h]
/-- Whether two rows of bodies are equal. -/
def sgB (X Y : List Bd) : Bool := sg (X.map bdN) (Y.map bdN)
theorem sgB_len {X Y : List Bd} (h : ¬ X.length = Y.length) : sgB X Y = false := sg_len (by simpa using h)
theorem sgB_bad {X Y : List Bd} {k : Nat} (h1 : k < X.length) (h2 : k < Y.length) (h : ¬ X[k] = Y[k]) : sgB X Y = false := sg_bad (k := k) (by simpa using h1) (by simpa using h2) (by simp only [List.getElem_map]; exact fun e => h (bdN_inj e))
theorem sgB_ok {X Y : List Bd} (hl : X.length = Y.length) (h : ∀ k (h1 : k < X.length) (h2 : k < Y.length), X[k] = Y[k]) : sgB X Y = true :=
  sg_ok (by simpa using hl) (fun k h1 h2 => by simp only [List.getElem_map]; rw [h k (by simpa using h1) (by simpa using h2)])
theorem fieldsBody : Try.prog.underlying 110 = some (.struct (Try.prog.fieldsOf 110)) := by kernel_rfl
theorem heldBody : Try.prog.stoodInHeld 110 = false := by kernel_rfl
def eq9 (x y : Bd) : Bool := (x.kind == y.kind) && ((x.owner == y.owner) && ((x.x == y.x) && ((x.y == y.y) && ((x.vx == y.vx) && ((x.vy == y.vy) && ((x.aim == y.aim) && ((x.life == y.life) && (x.timer == y.timer))))))))
theorem eq9_yes (x : Bd) : eq9 x x = true := by simp [eq9]
theorem eq9_no {x y : Bd} (h : ¬ x = y) : eq9 x y = false := by
  cases e : eq9 x y with
  | false => rfl
  | true =>
    exfalso; apply h
    simp only [eq9, Bool.and_eq_true, beq_iff_eq] at e
    cases x; cases y
    simp at e ⊢
    exact e
set_option maxRecDepth 100000 in
theorem run_eqBody (W : World) (x y : Bd) : (Op.equalIn 10000 110 (.agg #[.int .i64 x.kind, .int .i64 x.owner, .int .i64 x.x, .int .i64 x.y, .int .i64 x.vx, .int .i64 x.vy, .int .i64 x.aim, .int .i64 x.life, .int .i64 x.timer]) (.agg #[.int .i64 y.kind, .int .i64 y.owner, .int .i64 y.x, .int .i64 y.y, .int .i64 y.vx, .int .i64 y.vy, .int .i64 y.aim, .int .i64 y.life, .int .i64 y.timer])).run Try.prog W = .ok (eq9 x y) W := by
  rw [run_equalIn_agg W 9999 110 _ _ fieldsBody heldBody]
  unfold Program.fieldsOf
  rw [Try.underlying110]
  have h0 : ∀ a b : Int, ∀ W : World, (Op.equalIn 9999 3 (.int .i64 a) (.int .i64 b)).run Try.prog W = .ok (a == b) W := fun a b W => run_equalIn_int W 9998 3 .i64 _ a b Try.underlying3
  have hp : ∀ (cs : Array Value) (off : Nat) (v : Value) (W : World), cs[off]? = some v → (part 3 cs off).run Try.prog W = .ok v W := fun cs off v W h => by
    have hagg : (isAgg 3).run Try.prog W = .ok false W := by kernel_rfl
    unfold part
    rw [Sem.run_bind, hagg]
    simp [h]
  simp [Op.eqFields, Sem.run_bind, h0, hp]
  by_cases he : x = y
  · subst he
    simp [eq9_yes]
  · rw [eq9_no he]
    split
    · rename_i e0
      split
      · rename_i e1
        split
        · rename_i e2
          split
          · rename_i e3
            split
            · rename_i e4
              split
              · rename_i e5
                split
                · rename_i e6
                  split
                  · rename_i e7
                    split
                    · rename_i e8
                      exact absurd (by cases x; cases y; simp at e0 e1 e2 e3 e4 e5 e6 e7 e8 ⊢; exact ⟨e0, e1, e2, e3, e4, e5, e6, e7, e8⟩) he
                    · rfl
                  · rfl
                · rfl
              · rfl
            · rfl
          · rfl
        · rfl
      · rfl
    · rfl
set_option maxHeartbeats 1000000 in
theorem equalS_any {w : World} {v v' : Value} {xs ys : List (List UInt8)} (h : RdS w v xs) (h' : RdS w v' ys) (hs : xs.length ≤ 9223372036854775807) (hs' : ys.length ≤ 9223372036854775807) :
    Calls Try.prog 80 #[v, v'] w fun e w' => e = .returned (.bool (sg xs ys)) ∧ Below w.heap.size w w' := by
  obtain ⟨a, cap, rfl, h⟩ := h
  obtain ⟨a', cap', rfl, h'⟩ := h'
  have hlc : (xs.length : Int) ≤ 9223372036854775807 := by omega
  have hlc' : (ys.length : Int) ≤ 9223372036854775807 := by omega
  by_cases hl : xs.length = ys.length
  · have hl' : (xs.length : Int) = (ys.length : Int) := by omega
    have HL := Lib.hid hl
    have z1 : ((xs.length : Int) != (ys.length : Int)) = false := by simp [hl']
    clear hl hl'
    go_enter Try.func80, Try.ntmps80
    go_wp2_with (fail)
    go_loopw [13] (fun i wr => ∃ k n : Nat, k ≤ xs.length ∧ i = .int .i64 (k : Int) ∧ wr = w.drewN n ∧ ∀ j (h1 : j < xs.length) (h2 : j < ys.length), j < k → xs[j] = ys[j]) (fun i _ => xs.length - (intOf i).toNat)
    case atStart => exact ⟨0, 0, Nat.zero_le _, rfl, rfl, fun _ _ _ h => by omega⟩
    case round =>
      obtain ⟨k, n, hk, rfl, rfl, hat⟩ := hrel
      have HA := Lib.hid hat
      clear hat
      by_cases hkl : k < xs.length
      · have hkl2 : k < ys.length := by rw [← HL.out]; exact hkl
        obtain ⟨b, off, rfl, hc⟩ := h.resolve_left (by intro e; rw [e] at hkl; simp at hkl)
        obtain ⟨b', off', rfl, hc'⟩ := h'.resolve_left (by intro e; rw [e] at hkl2; simp at hkl2)
        obtain ⟨x, hx⟩ : ∃ x, x = xs[k] := ⟨_, rfl⟩
        obtain ⟨y, hy⟩ : ∃ y, y = ys[k] := ⟨_, rfl⟩
        have c1 := hc k hkl
        have c2 := hc' k hkl2
        rw [← hx] at c1
        rw [← hy] at c2
        have hl1 : (k : Int) < (xs.length : Int) := by omega
        have hl2 : (k : Int) < (ys.length : Int) := by omega
        by_cases he : x = y
        · have HE : Hid (xs[k] = ys[k]) := Lib.hid (by rw [← hx, ← hy]; exact he)
          subst he
          clear h h' hc hc' hx hy
          go_wp2
          go_quiet (fail)
          go_wp2
          go_roundw
          case rel =>
            refine ⟨k + 1, _, by omega, by go_num, rfl, fun j h1 h2 hjk => ?_⟩
            by_cases e : j = k
            · subst e; exact HE.out
            · exact HA.out j h1 h2 (by omega)
          case measure => simp [intOf]; omega
        · have HF := Lib.hid (sg_bad hkl hkl2 (by rw [← hx, ← hy]; exact he))
          have z2 : ((⟨x.toArray⟩ : ByteArray).toList == (⟨y.toArray⟩ : ByteArray).toList) = false := by simpa [ByteArray.toList_eq] using he
          have z3 : (x == y) = false := by simpa using he
          have z4 : (x != y) = true := by simpa using he
          clear h h' hc hc' hx hy
          go_wp2
          go_quiet (fail)
          go_wp2
          go_ret
          exact ⟨by rw [HF.out]; rfl, ⟨rfl, rfl, rfl, Nat.le_refl _, fun _ _ => rfl⟩⟩
      · have HF := Lib.hid (sg_ok HL.out (fun j h1 h2 => HA.out j h1 h2 (by omega)))
        go_wp2
        go_ret
        exact ⟨by rw [HF.out]; rfl, belowDrew _ _⟩
  · have hl' : ¬ (xs.length : Int) = (ys.length : Int) := by omega
    have HF := Lib.hid (sg_len hl)
    have z1 : ((xs.length : Int) != (ys.length : Int)) = true := by simp; omega
    go_enter Try.func80, Try.ntmps80
    go_wp2_with (fail)
    go_ret
    exact ⟨by rw [HF.out]; rfl, Below.refl _ _⟩
set_option maxRecDepth 100000 in
set_option maxHeartbeats 2000000 in
theorem equalBd_any {w : World} {v v' : Value} {xs ys : List Bd} (h : RdBd w v xs) (h' : RdBd w v' ys) (hs : xs.length ≤ 9223372036854775807) (hs' : ys.length ≤ 9223372036854775807) :
    Calls Try.prog 81 #[v, v'] w fun e w' => e = .returned (.bool (sgB xs ys)) ∧ Below w.heap.size w w' := by
  obtain ⟨a, cap, rfl, h⟩ := h
  obtain ⟨a', cap', rfl, h'⟩ := h'
  have hlc : (xs.length : Int) ≤ 9223372036854775807 := by omega
  have hlc' : (ys.length : Int) ≤ 9223372036854775807 := by omega
  by_cases hl : xs.length = ys.length
  · have hl' : (xs.length : Int) = (ys.length : Int) := by omega
    have HL := Lib.hid hl
    have z1 : ((xs.length : Int) != (ys.length : Int)) = false := by simp [hl']
    clear hl hl'
    go_enter Try.func81, Try.ntmps81
    go_wp2_with (fail)
    go_loopw [13] (fun i wr => ∃ k n : Nat, k ≤ xs.length ∧ i = .int .i64 (k : Int) ∧ wr = w.drewN n ∧ ∀ j (h1 : j < xs.length) (h2 : j < ys.length), j < k → xs[j] = ys[j]) (fun i _ => xs.length - (intOf i).toNat)
    case atStart => exact ⟨0, 0, Nat.zero_le _, rfl, rfl, fun _ _ _ h => by omega⟩
    case round =>
      obtain ⟨k, n, hk, rfl, rfl, hat⟩ := hrel
      have HA := Lib.hid hat
      clear hat
      by_cases hkl : k < xs.length
      · have hkl2 : k < ys.length := by rw [← HL.out]; exact hkl
        obtain ⟨b, off, rfl, hc⟩ := h.resolve_left (by intro e; rw [e] at hkl; simp at hkl)
        obtain ⟨b', off', rfl, hc'⟩ := h'.resolve_left (by intro e; rw [e] at hkl2; simp at hkl2)
        obtain ⟨x, hx⟩ : ∃ x, x = xs[k] := ⟨_, rfl⟩
        obtain ⟨y, hy⟩ : ∃ y, y = ys[k] := ⟨_, rfl⟩
        have r1 := hc k hkl
        have r2 := hc' k hkl2
        rw [← hx] at r1
        rw [← hy] at r2
        obtain ⟨p0, p1, p2, p3, p4, p5, p6, p7, p8⟩ := cells9 r1
        obtain ⟨q0, q1, q2, q3, q4, q5, q6, q7, q8⟩ := cells9 r2
        have hl1 : (k : Int) < (xs.length : Int) := by omega
        have hl2 : (k : Int) < (ys.length : Int) := by omega
        by_cases he : x = y
        · have HE : Hid (xs[k] = ys[k]) := Lib.hid (by rw [← hx, ← hy]; exact he)
          subst he
          have hq := fun W => run_eqBody W x x
          rw [eq9_yes] at hq
          clear h h' hc hc' hx hy r1 r2
          go_wp2
          go_quiet (fail)
          go_wp2
          go_roundw
          case rel =>
            refine ⟨k + 1, _, by omega, by go_num, rfl, fun j h1 h2 hjk => ?_⟩
            by_cases e : j = k
            · subst e; exact HE.out
            · exact HA.out j h1 h2 (by omega)
          case measure => simp [intOf]; omega
        · have HF := Lib.hid (sgB_bad hkl hkl2 (by rw [← hx, ← hy]; exact he))
          have hq := fun W => run_eqBody W x y
          rw [eq9_no he] at hq
          clear h h' hc hc' hx hy r1 r2 he
          go_wp2
          go_quiet (fail)
          go_wp2
          go_ret
          exact ⟨by rw [HF.out]; rfl, ⟨rfl, rfl, rfl, Nat.le_refl _, fun _ _ => rfl⟩⟩
      · have HF := Lib.hid (sgB_ok HL.out (fun j h1 h2 => HA.out j h1 h2 (by omega)))
        go_wp2
        go_ret
        exact ⟨by rw [HF.out]; rfl, belowDrew _ _⟩
  · have hl' : ¬ (xs.length : Int) = (ys.length : Int) := by omega
    have HF := Lib.hid (sgB_len hl)
    have z1 : ((xs.length : Int) != (ys.length : Int)) = true := by simp; omega
    go_enter Try.func81, Try.ntmps81
    go_wp2_with (fail)
    go_ret
    exact ⟨by rw [HF.out]; rfl, Below.refl _ _⟩
/-- Whether two worlds are the same. -/
def sameWd (x y : Wd) : Bool := decide (x.tick = y.tick) && (decide (x.seed = y.seed) && (sg x.rows y.rows && (sameB x.scores y.scores && sgB x.bods y.bods)))
section
variable {x y : Wd}
theorem sw_t (h : ¬ x.tick = y.tick) : sameWd x y = false := by unfold sameWd; simp [h]
theorem sw_s (h : ¬ x.seed = y.seed) : sameWd x y = false := by unfold sameWd; simp [h]
theorem sw_r (h : sg x.rows y.rows = false) : sameWd x y = false := by unfold sameWd; rw [h]; simp
theorem sw_q (h : sameB x.scores y.scores = false) : sameWd x y = false := by unfold sameWd; rw [h]; simp
theorem sw_b (h : sgB x.bods y.bods = false) : sameWd x y = false := by unfold sameWd; rw [h]; simp
theorem sw_ok (h1 : x.tick = y.tick) (h2 : x.seed = y.seed) (h3 : sg x.rows y.rows = true) (h4 : sameB x.scores y.scores = true) : sameWd x y = sgB x.bods y.bods := by unfold sameWd; rw [h3, h4]; simp [h1, h2]
end
set_option maxRecDepth 100000 in
set_option maxHeartbeats 2000000 in
theorem sameWorld_impl {w : World} {x y : Wd} {vl vs vb vl' vs' vb' : Value} (h : RdW w x vl vs vb) (h' : RdW w y vl' vs' vb') (hs : x.sane) (hs' : y.sane) :
    Calls Try.prog 44 #[.agg (wdC x vl vs vb), .agg (wdC y vl' vs' vb')] w fun e w' => e = .returned (.bool (sameWd x y)) ∧ Below w.heap.size w w' := by
  obtain ⟨hs1, hs2, hs3, -⟩ := hs
  obtain ⟨ht1, ht2, ht3, -⟩ := hs'
  have h0 := h
  have h0' := h'
  obtain ⟨al, cl, rfl, -⟩ := id h.1
  obtain ⟨aq, cq, rfl, -⟩ := id h.2.1
  obtain ⟨ab, cb, rfl, hb9⟩ := id h.2.2
  obtain ⟨al', cl', rfl, -⟩ := id h'.1
  obtain ⟨aq', cq', rfl, -⟩ := id h'.2.1
  obtain ⟨ab', cb', rfl, hb9'⟩ := id h'.2.2
  unfold wdC
  obtain ⟨W0, hW, hA, hB, hB0, hS0⟩ := rows2 w #[.slice al x.rows.length cl, .int .i64 x.tick, .int .i64 x.seed, .slice aq x.scores.length cq, .slice ab x.bods.length cb] #[.slice al' y.rows.length cl', .int .i64 y.tick, .int .i64 y.seed, .slice aq' y.scores.length cq', .slice ab' y.bods.length cb'] 74 74
  have cA := rowCells hA
  have cB := rowCells hB
  have hlb : (x.bods.length : Int) ≤ 9223372036854775807 := by omega
  have hlb' : (y.bods.length : Int) ≤ 9223372036854775807 := by omega
  by_cases e1 : x.tick = y.tick
  · have z1 : (x.tick != y.tick) = false := by simpa using e1
    by_cases e2 : x.seed = y.seed
    · have z2 : (x.seed != y.seed) = false := by simpa using e2
      have E1 := Lib.hid e1
      have E2 := Lib.hid e2
      clear e1 e2
      have r1 := h0.keep hB0
      have r1' := h0'.keep hB0
      go_enter Try.func44, Try.ntmps44
      go_wp2_with (fail)
      try rw [hW]
      clear hW
      refine (equalS_any r1.1 r1'.1 hs1.1 ht1.1).mono ?_
      rintro e w1 ⟨rfl, hb1⟩
      have hA1 := keepHeap hb1 hA
      have hB1 := keepHeap hb1 hB
      have hb01 := hB0.trans (hb1.mono hB0.size)
      have cA1 := rowCells hA1
      have cB1 := rowCells hB1
      clear cA cB
      cases q3 : sg x.rows y.rows with
      | false =>
        have HF := Lib.hid (sw_r q3)
        clear q3
        go_wp2_with (fail)
        go_ret
        exact ⟨by rw [HF.out]; rfl, hb01⟩
      | true =>
        have Q3 := Lib.hid q3
        clear q3
        have r2 := h0.keep hb01
        have r2' := h0'.keep hb01
        go_wp2_with (fail)
        refine (equalI_any r2.2.1 r2'.2.1 hs2 ht2).mono ?_
        rintro e w2 ⟨rfl, hb2⟩
        have hb02 := hb01.trans (hb2.mono hb01.size)
        have cA2 := rowCells (keepHeap hb2 hA1)
        have cB2 := rowCells (keepHeap hb2 hB1)
        clear cA1 cB1
        cases q4 : sameB x.scores y.scores with
        | false =>
          have HF := Lib.hid (sw_q q4)
          clear q4
          go_wp2_with (fail)
          go_ret
          exact ⟨by rw [HF.out]; rfl, hb02⟩
        | true =>
          have HF := Lib.hid (sw_ok E1.out E2.out Q3.out q4)
          clear q4
          have r3 := h0.keep hb02
          have r3' := h0'.keep hb02
          go_wp2_with (fail)
          refine (equalBd_any r3.2.2 r3'.2.2 hs3 ht3).mono ?_
          rintro e w3 ⟨rfl, hb3⟩
          go_wp2_with (fail)
          go_ret
          exact ⟨by rw [HF.out]; rfl, hb02.trans (hb3.mono hb02.size)⟩
    · have z2 : (x.seed != y.seed) = true := by simpa using e2
      have HF := Lib.hid (sw_s e2)
      clear e1 e2
      go_enter Try.func44, Try.ntmps44
      go_wp2_with (fail)
      go_ret
      exact ⟨by rw [HF.out]; rfl, hB0⟩
  · have z1 : (x.tick != y.tick) = true := by simpa using e1
    have HF := Lib.hid (sw_t e1)
    clear e1
    go_enter Try.func44, Try.ntmps44
    go_wp2_with (fail)
    go_ret
    exact ⟨by rw [HF.out]; rfl, hB0⟩
set_option maxHeartbeats 1000000 in
theorem sameLevel_spec {w : World} {v v' : Value} {xs ys : List (List UInt8)} (h : RdS w v xs) (h' : RdS w v' ys) (hs : xs.length ≤ 9223372036854775807) (hs' : ys.length ≤ 9223372036854775807) :
    Calls Try.prog 77 #[.agg #[v], .agg #[v']] w fun e w' => e = .returned (.bool (sg xs ys)) ∧ Below w.heap.size w w' := by
  have h0 := h
  have h0' := h'
  obtain ⟨a, cap, rfl, h⟩ := h
  obtain ⟨a', cap', rfl, h'⟩ := h'
  have hlc : (xs.length : Int) ≤ 9223372036854775807 := by omega
  have hlc' : (ys.length : Int) ≤ 9223372036854775807 := by omega
  obtain ⟨W0, hW, hA, hB, hB0, hS0⟩ := rows2 w #[.slice a xs.length cap] #[.slice a' ys.length cap'] 71 71
  have cA := rowCells hA
  have cB := rowCells hB
  by_cases hl : xs.length = ys.length
  · have hl' : (xs.length : Int) = (ys.length : Int) := by omega
    have HL := Lib.hid hl
    have z1 : ((xs.length : Int) != (ys.length : Int)) = false := by simp [hl']
    clear hl hl'
    go_enter Try.func77, Try.ntmps77
    go_wp2_with (fail)
    try rw [hW]
    clear hW
    go_loopw [5] (fun i wr => ∃ k n : Nat, k ≤ xs.length ∧ i = .int .i64 (k : Int) ∧ wr = W0.drewN n ∧ ∀ j (h1 : j < xs.length) (h2 : j < ys.length), j < k → xs[j] = ys[j]) (fun i _ => xs.length - (intOf i).toNat)
    case atStart => exact ⟨0, 0, Nat.zero_le _, rfl, rfl, fun _ _ _ h => by omega⟩
    case round =>
      obtain ⟨k, n, hk, rfl, rfl, hat⟩ := hrel
      have HA := Lib.hid hat
      clear hat
      by_cases hkl : k < xs.length
      · have hkl2 : k < ys.length := by rw [← HL.out]; exact hkl
        obtain ⟨b, off, rfl, hc⟩ := h.resolve_left (by intro e; rw [e] at hkl; simp at hkl)
        obtain ⟨b', off', rfl, hc'⟩ := h'.resolve_left (by intro e; rw [e] at hkl2; simp at hkl2)
        obtain ⟨x, hx⟩ : ∃ x, x = xs[k] := ⟨_, rfl⟩
        obtain ⟨y, hy⟩ : ∃ y, y = ys[k] := ⟨_, rfl⟩
        have d1 := hc k hkl
        have d2 := hc' k hkl2
        have c1 := (hB0.cell (World.block_lt_of_cell? w _ d1)).trans d1
        have c2 := (hB0.cell (World.block_lt_of_cell? w _ d2)).trans d2
        rw [← hx] at c1
        rw [← hy] at c2
        have hl1 : (k : Int) < (xs.length : Int) := by omega
        have hl2 : (k : Int) < (ys.length : Int) := by omega
        by_cases he : x = y
        · have HE : Hid (xs[k] = ys[k]) := Lib.hid (by rw [← hx, ← hy]; exact he)
          subst he
          clear h h' hc hc' hx hy d1 d2 h0 h0'
          go_wp2_with (fail)
          go_quiet (fail)
          go_wp2_with (fail)
          go_roundw
          case rel =>
            refine ⟨k + 1, _, by omega, by go_num, rfl, fun j h1 h2 hjk => ?_⟩
            by_cases e : j = k
            · subst e; exact HE.out
            · exact HA.out j h1 h2 (by omega)
          case measure => simp [intOf]; omega
        · have HF := Lib.hid (sg_bad hkl hkl2 (by rw [← hx, ← hy]; exact he))
          have z2 : ((⟨x.toArray⟩ : ByteArray).toList == (⟨y.toArray⟩ : ByteArray).toList) = false := by simpa [ByteArray.toList_eq] using he
          have z3 : (x == y) = false := by simpa using he
          have z4 : (x != y) = true := by simpa using he
          clear h h' hc hc' hx hy d1 d2 h0 h0'
          go_wp2_with (fail)
          go_quiet (fail)
          go_wp2_with (fail)
          go_ret
          exact ⟨by rw [HF.out]; rfl, hB0.trans ⟨rfl, rfl, rfl, Nat.le_refl _, fun _ _ => rfl⟩⟩
      · have HF := Lib.hid (sg_ok HL.out (fun j h1 h2 => HA.out j h1 h2 (by omega)))
        go_wp2_with (fail)
        go_ret
        exact ⟨by rw [HF.out]; rfl, hB0.trans ⟨rfl, rfl, rfl, Nat.le_refl _, fun _ _ => rfl⟩⟩
  · have hl' : ¬ (xs.length : Int) = (ys.length : Int) := by omega
    have HF := Lib.hid (sg_len hl)
    have z1 : ((xs.length : Int) != (ys.length : Int)) = true := by simp; omega
    go_enter Try.func77, Try.ntmps77
    go_wp2_with (fail)
    go_ret
    exact ⟨by rw [HF.out]; rfl, hB0⟩
theorem sw_ok2 {x y : Wd} (h1 : x.tick = y.tick) (h2 : x.seed = y.seed) (h3 : sg x.rows y.rows = true) (h4 : sameB x.scores y.scores = true) (h5 : sgB x.bods y.bods = true) : sameWd x y = true := by rw [sw_ok h1 h2 h3 h4, h5]
set_option maxRecDepth 100000 in
set_option maxHeartbeats 4000000 in
theorem sameWorld_spec {w : World} {x y : Wd} {vl vs vb vl' vs' vb' : Value} (h : RdW w x vl vs vb) (h' : RdW w y vl' vs' vb') (hs : x.sane) (hs' : y.sane) :
    Calls Try.prog 42 #[.agg (wdC x vl vs vb), .agg (wdC y vl' vs' vb')] w fun e w' => e = .returned (.bool (sameWd x y)) ∧ Below w.heap.size w w' := by
  obtain ⟨hs1, hs2, hs3, -⟩ := hs
  obtain ⟨ht1, ht2, ht3, -⟩ := hs'
  have h0 := h
  have h0' := h'
  obtain ⟨al, cl, rfl, -⟩ := id h.1
  obtain ⟨aq, cq, rfl, -⟩ := id h.2.1
  obtain ⟨ab, cb, rfl, hb9⟩ := id h.2.2
  obtain ⟨al', cl', rfl, -⟩ := id h'.1
  obtain ⟨aq', cq', rfl, -⟩ := id h'.2.1
  obtain ⟨ab', cb', rfl, hb9'⟩ := id h'.2.2
  unfold wdC
  obtain ⟨W0, hW, hA, hB, hB0, hS0⟩ := rows2 w #[.slice al x.rows.length cl, .int .i64 x.tick, .int .i64 x.seed, .slice aq x.scores.length cq, .slice ab x.bods.length cb] #[.slice al' y.rows.length cl', .int .i64 y.tick, .int .i64 y.seed, .slice aq' y.scores.length cq', .slice ab' y.bods.length cb'] 74 74
  have cA := rowCells hA
  have cB := rowCells hB
  have hlb : (x.bods.length : Int) ≤ 9223372036854775807 := by omega
  have hlb' : (y.bods.length : Int) ≤ 9223372036854775807 := by omega
  by_cases e1 : x.tick = y.tick
  · have z1 : (x.tick != y.tick) = false := by simpa using e1
    by_cases e2 : x.seed = y.seed
    · have z2 : (x.seed != y.seed) = false := by simpa using e2
      have E1 := Lib.hid e1
      have E2 := Lib.hid e2
      clear e1 e2
      have r1 := h0.keep hB0
      have r1' := h0'.keep hB0
      go_enter Try.func42, Try.ntmps42
      go_wp2_with (fail)
      try rw [hW]
      clear hW
      refine (l02Ints_any r1.2.1 r1'.2.1 hs2 ht2).mono ?_
      rintro e w1 ⟨rfl, hb1⟩
      have hA1 := keepHeap hb1 hA
      have hB1 := keepHeap hb1 hB
      have hb01 := hB0.trans (hb1.mono hB0.size)
      have cA1 := rowCells hA1
      have cB1 := rowCells hB1
      clear cA cB
      cases q4 : sameB x.scores y.scores with
      | false =>
        have HF := Lib.hid (sw_q q4)
        clear q4
        go_wp2_with (fail)
        go_ret
        exact ⟨by rw [HF.out]; rfl, hb01⟩
      | true =>
        have Q4 := Lib.hid q4
        clear q4
        by_cases hl : x.bods.length = y.bods.length
        · have z3 : ((x.bods.length : Int) != (y.bods.length : Int)) = false := by simp [hl]
          have HL := Lib.hid hl
          clear hl
          have r2 := h0.keep hb01
          have r2' := h0'.keep hb01
          go_wp2_with (fail)
          refine (sameLevel_spec r2.1 r2'.1 hs1.1 ht1.1).mono ?_
          rintro e w2 ⟨rfl, hb2⟩
          have hA2 := keepHeap hb2 hA1
          have hB2 := keepHeap hb2 hB1
          have hb02 := hb01.trans (hb2.mono hb01.size)
          have cA2 := rowCells hA2
          have cB2 := rowCells hB2
          clear cA1 cB1 r2 r2' r1 r1' hA hB hA1 hB1
          cases q3 : sg x.rows y.rows with
          | false =>
            have HF := Lib.hid (sw_r q3)
            clear q3
            go_wp2_with (fail)
            go_ret
            exact ⟨by rw [HF.out]; rfl, hb02⟩
          | true =>
            have Q3 := Lib.hid q3
            clear q3
            have HBAD : Hid (sgB x.bods y.bods = false → sameWd x y = false) := Lib.hid (fun h => sw_b h)
            have HOK : Hid (sgB x.bods y.bods = true → sameWd x y = true) := Lib.hid (fun h => sw_ok2 E1.out E2.out Q3.out Q4.out h)
            clear E1 E2 Q3 Q4
            go_wp2_with (fail)
            go_loopw [5] (fun i wr => ∃ k n : Nat, k ≤ x.bods.length ∧ i = .int .i64 (k : Int) ∧ wr = w2.drewN n ∧ ∀ j (h1 : j < x.bods.length) (h2 : j < y.bods.length), j < k → x.bods[j] = y.bods[j]) (fun i _ => x.bods.length - (intOf i).toNat)
            case atStart => exact ⟨0, 0, Nat.zero_le _, rfl, rfl, fun _ _ _ h => by omega⟩
            case round =>
              obtain ⟨k, n, hk, rfl, rfl, hat⟩ := hrel
              have HA := Lib.hid hat
              clear hat
              by_cases hkl : k < x.bods.length
              · have hkl2 : k < y.bods.length := by rw [← HL.out]; exact hkl
                obtain ⟨b, off, rfl, hc⟩ := hb9.resolve_left (by intro e; rw [e] at hkl; simp at hkl)
                obtain ⟨b', off', rfl, hc'⟩ := hb9'.resolve_left (by intro e; rw [e] at hkl2; simp at hkl2)
                obtain ⟨u, hx⟩ : ∃ u, u = x.bods[k] := ⟨_, rfl⟩
                obtain ⟨v, hy⟩ : ∃ v, v = y.bods[k] := ⟨_, rfl⟩
                have d1 := hc k hkl
                have d2 := hc' k hkl2
                have r1 := rangeKeep d1 hb02 (rangeLt d1)
                have r2 := rangeKeep d2 hb02 (rangeLt d2)
                rw [← hx] at r1
                rw [← hy] at r2
                obtain ⟨p0, p1, p2, p3, p4, p5, p6, p7, p8⟩ := cells9 r1
                obtain ⟨q0, q1, q2, q3, q4, q5, q6, q7, q8⟩ := cells9 r2
                have hl1 : (k : Int) < (x.bods.length : Int) := by omega
                have hl2 : (k : Int) < (y.bods.length : Int) := by omega
                by_cases he : u = v
                · have HE : Hid (x.bods[k] = y.bods[k]) := Lib.hid (by rw [← hx, ← hy]; exact he)
                  subst he
                  have hq := fun W => run_eqBody W u u
                  rw [eq9_yes] at hq
                  clear h h' hc hc' hx hy r1 r2 d1 d2 hb9 hb9' h0 h0'
                  go_wp2_with (fail)
                  go_quiet (fail)
                  go_wp2_with (fail)
                  go_roundw
                  case rel =>
                    refine ⟨k + 1, _, by omega, by go_num, rfl, fun j h1 h2 hjk => ?_⟩
                    by_cases e : j = k
                    · subst e; exact HE.out
                    · exact HA.out j h1 h2 (by omega)
                  case measure => simp [intOf]; omega
                · have HF := Lib.hid (HBAD.out (sgB_bad hkl hkl2 (by rw [← hx, ← hy]; exact he)))
                  have hq := fun W => run_eqBody W u v
                  rw [eq9_no he] at hq
                  clear h h' hc hc' hx hy r1 r2 d1 d2 hb9 hb9' h0 h0' he
                  go_wp2_with (fail)
                  go_quiet (fail)
                  go_wp2_with (fail)
                  go_ret
                  exact ⟨by rw [HF.out]; rfl, hb02.trans ⟨rfl, rfl, rfl, Nat.le_refl _, fun _ _ => rfl⟩⟩
              · have HF := Lib.hid (HOK.out (sgB_ok HL.out (fun j h1 h2 => HA.out j h1 h2 (by omega))))
                go_wp2_with (fail)
                go_ret
                exact ⟨by rw [HF.out]; rfl, hb02.trans ⟨rfl, rfl, rfl, Nat.le_refl _, fun _ _ => rfl⟩⟩
        · have z3 : ((x.bods.length : Int) != (y.bods.length : Int)) = true := by simp; omega
          have HF := Lib.hid (sw_b (sgB_len hl))
          clear hl
          go_wp2_with (fail)
          go_ret
          exact ⟨by rw [HF.out]; rfl, hb01⟩
    · have z2 : (x.seed != y.seed) = true := by simpa using e2
      have HF := Lib.hid (sw_s e2)
      clear e1 e2
      go_enter Try.func42, Try.ntmps42
      go_wp2_with (fail)
      go_ret
      exact ⟨by rw [HF.out]; rfl, hB0⟩
  · have z1 : (x.tick != y.tick) = true := by simpa using e1
    have HF := Lib.hid (sw_t e1)
    clear e1
    go_enter Try.func42, Try.ntmps42
    go_wp2_with (fail)
    go_ret
    exact ⟨by rw [HF.out]; rfl, hB0⟩
end Go.Proofs.Ytnjjpeblbfomoaa
