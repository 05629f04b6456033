/-
  WorldBytes and WorldSum: the contracts of the model and of the program. No condition but that the lists and numbers can be.
-/
import Derived.Test.YtnjjpeblbfomoaaDoorWdO
import Derived.Test.YtnjjpeblbfomoaaDoorPackI
import Derived.Test.YtnjjpeblbfomoaaDoorSeal
import Derived.Test.YtnjjpeblbfomoaaDoorAppI
namespace Go.Proofs.YtnjjpeblbfomoaaDoor
open Go.RowKit
set_option linter.all false
theorem blkLt {w : World} {k : Nat} {o : Obj} (h : w.heap[k]? = some o) : k < w.heap.size := (Array.getElem?_eq_some_iff.1 h).1
theorem OwnR.lit {w : World} {B n : Nat} {xs : List Int} (C : Array Value) (hB : B ≤ w.heap.size) (hn : xs.length = n) (hm : n ≤ 1048576) (hC : C = (xs.map (Value.int .i64)).toArray) : OwnR (w.alloc (.cells C 3)) B (.slice (some ⟨w.heap.size, 0, none⟩) n n) xs := by
  subst hn hC
  have := World.ownsRow_lit (base := B) (e := 3) (size := 1) w (xs.map (Value.int .i64)).toArray xs.length hB (by unfold maxLen; omega) (by simp)
  simpa [OwnR] using this
/-- The numbers up to body k. -/
def wdK (x : Wd) (k : Nat) : List Int := [x.tick, x.seed, (x.scores.length : Int)] ++ x.scores ++ ((x.bods.take k).map bdN).flatten
theorem wdK_zero (x : Wd) : wdK x 0 = [x.tick, x.seed, (x.scores.length : Int)] ++ x.scores := by unfold wdK; simp
theorem wdK_next (x : Wd) {k : Nat} (hk : k < x.bods.length) : wdK x (k + 1) = wdK x k ++ bdN x.bods[k] := by
  unfold wdK; rw [List.take_succ_eq_append_getElem hk, List.map_append, List.flatten_append]; simp
theorem wdK_all (x : Wd) : wdK x x.bods.length = wdN x := by unfold wdK wdN; rw [List.take_length]; simp
theorem flat9 : ∀ l : List Bd, (l.map bdN).flatten.length = 9 * l.length
  | [] => rfl
  | b :: r => by rw [List.map_cons, List.flatten_cons, List.length_append, flat9 r, List.length_cons]; show 9 + _ = _; omega
theorem wdK_len (x : Wd) (k : Nat) : (wdK x k).length ≤ 3 + x.scores.length + 9 * x.bods.length := by
  unfold wdK
  rw [List.length_append, List.length_append, flat9, List.length_take]
  simp; omega
def wbL (x : Wd) : List UInt8 := if worldB x then packI (wdN x) else []
theorem wbL_no {x : Wd} (h : worldB x = false) : wbL x = [] := by unfold wbL; rw [h]; rfl
theorem wbL_yes {x : Wd} (h : worldB x = true) : wbL x = packI (wdN x) := by unfold wbL; rw [h]; rfl
theorem bdN_len (b : Bd) : (bdN b).length = 9 := rfl
theorem numbersOf_impl (b : Bd) (w : World) : Calls Tryd.prog 64 #[.agg #[.int .i64 b.kind, .int .i64 b.owner, .int .i64 b.x, .int .i64 b.y, .int .i64 b.vx, .int .i64 b.vy, .int .i64 b.aim, .int .i64 b.life, .int .i64 b.timer]] w fun e w' => ∃ u, e = .returned u ∧ RdI w' u (bdN b) ∧ Below w.heap.size w w' := by
  obtain ⟨W0, hW, hA, hB0, hS0⟩ := rows1 w #[.int .i64 b.kind, .int .i64 b.owner, .int .i64 b.x, .int .i64 b.y, .int .i64 b.vx, .int .i64 b.vy, .int .i64 b.aim, .int .i64 b.life, .int .i64 b.timer] 89
  have cA := rowCells hA
  go_enter Tryd.func64, Tryd.ntmps64
  go_wp2_with (fail)
  try rw [hW]
  clear hW
  go_ret
  exact ⟨_, rfl, (OwnR.lit (n := 9) (w := W0) (B := W0.heap.size) (xs := bdN b) #[.int .i64 b.kind, .int .i64 b.owner, .int .i64 b.x, .int .i64 b.y, .int .i64 b.vx, .int .i64 b.vy, .int .i64 b.aim, .int .i64 b.life, .int .i64 b.timer] (Nat.le_refl _) rfl (by decide) rfl).own.rd, hB0.trans ((below1 W0 _).mono hB0.size)⟩
set_option maxRecDepth 100000 in
set_option maxHeartbeats 4000000 in
theorem worldBytes_impl {w : World} {x : Wd} {vl vs vb : Value} (h : RdW w x vl vs vb) (hs : x.sane) :
    Calls Tryd.prog 20 #[.agg (wdC x vl vs vb)] w fun e w' => e = .returned (.string ⟨(wbL x).toArray⟩) ∧ Below w.heap.size w w' := by
  have h0 := h
  have hok := fun {W : World} (h1 : RdW W x vl vs vb) => worldOk_impl h1 hs
  obtain ⟨al, cl, rfl, -⟩ := id h.1
  obtain ⟨aq, cq, rfl, -⟩ := id h.2.1
  obtain ⟨ab, cb, rfl, hb9⟩ := id h.2.2
  unfold wdC at hok ⊢
  obtain ⟨W0, hW, hA, hB0, hS0⟩ := rows1 w #[.slice al x.rows.length cl, .int .i64 x.tick, .int .i64 x.seed, .slice aq x.scores.length cq, .slice ab x.bods.length cb] 41
  have cA := rowCells hA
  go_enter Tryd.func20, Tryd.ntmps20
  go_wp2_with (fail)
  try rw [hW]
  clear hW
  refine (hok (h0.keep hB0)).mono ?_
  rintro e w1 ⟨rfl, hb1⟩
  have hA1 := keepHeap hb1 hA
  have hb01 := hB0.trans (hb1.mono hB0.size)
  have cA1 := rowCells hA1
  have hs01 := hb01.size
  clear cA hA
  cases ql : worldB x with
  | false =>
    have HF := Lib.hid (wbL_no ql)
    clear ql
    go_wp2_with (fail)
    go_ret
    exact ⟨by rw [HF.out]; rfl, hb01⟩
  | true =>
  have HF := Lib.hid (wbL_yes ql)
  obtain ⟨-, -, -, q4, q5, -, -⟩ := wd_facts ql
  have hn4 := (inR_iff _ _ _).1 q4
  have hm24 := (inR_iff _ _ _).1 q5
  have hq4 : x.scores.length ≤ 4 := by omega
  have hb24 : x.bods.length ≤ 24 := by omega
  have hlk := wdK_len x
  have hr1 := h0.2.1.keep hb01
  have hown0 := OwnR.lit (n := 3) (w := w1) (B := w1.heap.size) (xs := [x.tick, x.seed, (x.scores.length : Int)]) #[.int .i64 x.tick, .int .i64 x.seed, .int .i64 (x.scores.length : Int)] (Nat.le_refl _) rfl (by decide) rfl
  have hrq := hr1.keep (below1 w1 (.cells #[.int .i64 x.tick, .int .i64 x.seed, .int .i64 (x.scores.length : Int)] 3))
  have hAq := keepHeap (below1 w1 (.cells #[.int .i64 x.tick, .int .i64 x.seed, .int .i64 (x.scores.length : Int)] 3)) hA1
  have cAq := rowCells hAq
  have hz := below1 w1 (.cells #[.int .i64 x.tick, .int .i64 x.seed, .int .i64 (x.scores.length : Int)] 3)
  clear ql q4 q5 hr1
  go_wp2_with (at_builtin; refine app_ints rfl _ _ rfl w1.heap.size _ [x.tick, x.seed, (x.scores.length : Int)] rfl hown0 _ x.scores rfl hrq (by simp; omega) hz.size ?_; intro v2 w2 hown2 hb2; have hA2 := (hb2.block w.heap.size (blkLt hA1)).trans hAq; have cA2 := rowCells hA2)
  rw [← wdK_zero] at hown2
  have hbw : Below w1.heap.size w1 w2 := hz.trans hb2
  clear hown0 hrq hAq cAq hz hb2 cA1
  go_loopw [3, 24] (fun v i wr => ∃ k : Nat, k ≤ x.bods.length ∧ i = .int .i64 (k : Int) ∧ OwnR wr w1.heap.size v (wdK x k) ∧ Below w1.heap.size w1 wr) (fun _ i _ => x.bods.length - (intOf i).toNat)
  case atStart => exact ⟨0, Nat.zero_le _, rfl, hown2, hbw⟩
  case round =>
    obtain ⟨k, hk, rfl, hown, hbel⟩ := hrel
    have hb0r := hb01.trans (hbel.mono hs01)
    by_cases hkl : k < x.bods.length
    · obtain ⟨bb, off, rfl, hc⟩ := hb9.resolve_left (by intro e; rw [e] at hkl; simp at hkl)
      have c0 := hc k hkl
      have c1 := rangeKeep c0 hb0r (rangeLt c0)
      have HN := Lib.hid (wdK_next x hkl)
      obtain ⟨b, hb⟩ : ∃ b, b = x.bods[k] := ⟨_, rfl⟩
      rw [← hb] at c1 HN
      have hkk : (k : Int) < (x.bods.length : Int) := by omega
      have hlk' := hlk k
      have hszr := hbel.size
      clear hc c0 hb hlk
      obtain ⟨d0, d1, d2, d3, d4, d5, d6, d7, d8⟩ := cells9 c1
      obtain ⟨W5, hW5, hP5, hb5⟩ : ∃ W, wr.alloc (.cells #[.int .i64 b.kind, .int .i64 b.owner, .int .i64 b.x, .int .i64 b.y, .int .i64 b.vx, .int .i64 b.vy, .int .i64 b.aim, .int .i64 b.life, .int .i64 b.timer] 89) = W ∧ W.heap[wr.heap.size]? = some (.cells #[.int .i64 b.kind, .int .i64 b.owner, .int .i64 b.x, .int .i64 b.y, .int .i64 b.vx, .int .i64 b.vy, .int .i64 b.aim, .int .i64 b.life, .int .i64 b.timer] 89 (0, 0)) ∧ Below wr.heap.size wr W := ⟨_, rfl, heap_alloc_new _ _, below1 _ _⟩
      have cP5 := rowCells hP5
      have hown5 := hown.keep hb5 (Nat.le_refl _)
      have hbel5 := hbel.trans (hb5.mono hszr)
      clear c1 hown
      go_wp2_with (fail)
      try rw [hW5]
      clear hW5
      refine (numbersOf_impl b _).mono ?_
      rintro e w6 ⟨u6, rfl, hr6, hb6⟩
      have hown6 := hown5.keep hb6 (Nat.le_refl _)
      have hbel6 := hbel5.trans (hb6.mono hbel5.size)
      have hl9 := bdN_len b
      clear cP5 hown5
      go_wp2_with (at_builtin; refine app_ints rfl _ _ rfl w1.heap.size _ (wdK x k) rfl hown6 _ (bdN b) rfl hr6 (by omega) hbel6.size ?_; intro v7 w7 hown7 hb7)
      rw [← HN.out] at hown7
      go_roundw
      case rel => exact ⟨k + 1, by omega, by go_num, hown7, hbel6.trans hb7⟩
      case measure => simp [intOf]; omega
    · obtain rfl : k = x.bods.length := by omega
      rw [wdK_all] at hown
      have hll := hlk x.bods.length
      rw [wdK_all] at hll
      clear hlk
      obtain ⟨a3, c3, rfl, -⟩ := id hown.own.rd
      have hpk := packInts_impl hown.own.rd (by omega)
      generalize wdN x = L at *
      go_wp2_with (fail)
      refine hpk.mono ?_
      rintro e w6 ⟨rfl, hb6⟩
      go_wp2_with (fail)
      go_ret
      exact ⟨by rw [HF.out]; rfl, hb0r.trans (hb6.mono hb0r.size)⟩
set_option maxRecDepth 100000 in
set_option maxHeartbeats 4000000 in
theorem worldBytes_spec {w : World} {x : Wd} {vl vs vb : Value} (h : RdW w x vl vs vb) (hs : x.sane) :
    Calls Tryd.prog 19 #[.agg (wdC x vl vs vb)] w fun e w' => e = .returned (.string ⟨(wbL x).toArray⟩) ∧ Below w.heap.size w w' := by
  have h0 := h
  have hok := fun {W : World} (h1 : RdW W x vl vs vb) => worldOk_spec h1 hs
  obtain ⟨al, cl, rfl, -⟩ := id h.1
  obtain ⟨aq, cq, rfl, -⟩ := id h.2.1
  obtain ⟨ab, cb, rfl, hb9⟩ := id h.2.2
  unfold wdC at hok ⊢
  obtain ⟨W0, hW, hA, hB0, hS0⟩ := rows1 w #[.slice al x.rows.length cl, .int .i64 x.tick, .int .i64 x.seed, .slice aq x.scores.length cq, .slice ab x.bods.length cb] 41
  have cA := rowCells hA
  go_enter Tryd.func19, Tryd.ntmps19
  go_wp2_with (fail)
  try rw [hW]
  clear hW
  refine (hok (h0.keep hB0)).mono ?_
  rintro e w1 ⟨rfl, hb1⟩
  have hA1 := keepHeap hb1 hA
  have hb01 := hB0.trans (hb1.mono hB0.size)
  have cA1 := rowCells hA1
  have hs01 := hb01.size
  clear cA hA
  cases ql : worldB x with
  | false =>
    have HF := Lib.hid (wbL_no ql)
    clear ql
    go_wp2_with (fail)
    go_ret
    exact ⟨by rw [HF.out]; rfl, hb01⟩
  | true =>
  have HF := Lib.hid (wbL_yes ql)
  obtain ⟨-, -, -, q4, q5, -, -⟩ := wd_facts ql
  have hn4 := (inR_iff _ _ _).1 q4
  have hm24 := (inR_iff _ _ _).1 q5
  have hq4 : x.scores.length ≤ 4 := by omega
  have hb24 : x.bods.length ≤ 24 := by omega
  have hlk := wdK_len x
  have hr1 := h0.2.1.keep hb01
  have hown0 := OwnR.lit (n := 3) (w := w1) (B := w1.heap.size) (xs := [x.tick, x.seed, (x.scores.length : Int)]) #[.int .i64 x.tick, .int .i64 x.seed, .int .i64 (x.scores.length : Int)] (Nat.le_refl _) rfl (by decide) rfl
  have hrq := hr1.keep (below1 w1 (.cells #[.int .i64 x.tick, .int .i64 x.seed, .int .i64 (x.scores.length : Int)] 3))
  have hAq := keepHeap (below1 w1 (.cells #[.int .i64 x.tick, .int .i64 x.seed, .int .i64 (x.scores.length : Int)] 3)) hA1
  have cAq := rowCells hAq
  have hz := below1 w1 (.cells #[.int .i64 x.tick, .int .i64 x.seed, .int .i64 (x.scores.length : Int)] 3)
  clear ql q4 q5 hr1
  go_wp2_with (at_builtin; refine app_ints rfl _ _ rfl w1.heap.size _ [x.tick, x.seed, (x.scores.length : Int)] rfl hown0 _ x.scores rfl hrq (by simp; omega) hz.size ?_; intro v2 w2 hown2 hb2; have hA2 := (hb2.block w.heap.size (blkLt hA1)).trans hAq; have cA2 := rowCells hA2)
  rw [← wdK_zero] at hown2
  have hbw : Below w1.heap.size w1 w2 := hz.trans hb2
  clear hown0 hrq hAq cAq hz hb2 cA1
  go_loopw [3, 4] (fun v i wr => ∃ k : Nat, k ≤ x.bods.length ∧ i = .int .i64 (k : Int) ∧ OwnR wr w1.heap.size v (wdK x k) ∧ Below w1.heap.size w1 wr) (fun _ i _ => x.bods.length - (intOf i).toNat)
  case atStart => exact ⟨0, Nat.zero_le _, rfl, hown2, hbw⟩
  case round =>
    obtain ⟨k, hk, rfl, hown, hbel⟩ := hrel
    have hb0r := hb01.trans (hbel.mono hs01)
    by_cases hkl : k < x.bods.length
    · obtain ⟨bb, off, rfl, hc⟩ := hb9.resolve_left (by intro e; rw [e] at hkl; simp at hkl)
      have c0 := hc k hkl
      have c1 := rangeKeep c0 hb0r (rangeLt c0)
      have HN := Lib.hid (wdK_next x hkl)
      obtain ⟨b, hb⟩ : ∃ b, b = x.bods[k] := ⟨_, rfl⟩
      rw [← hb] at c1 HN
      have hkk : (k : Int) < (x.bods.length : Int) := by omega
      have cAr := rowCells (keepHeap hbel hA1)
      have hlk' := hlk k
      have hszr := hbel.size
      clear hc c0 hb hlk
      obtain ⟨d0, d1, d2, d3, d4, d5, d6, d7, d8⟩ := cells9 c1
      obtain ⟨W5, hW5, hP5, hb5⟩ : ∃ W, wr.alloc (.cells #[.int .i64 b.kind, .int .i64 b.owner, .int .i64 b.x, .int .i64 b.y, .int .i64 b.vx, .int .i64 b.vy, .int .i64 b.aim, .int .i64 b.life, .int .i64 b.timer] 89) = W ∧ W.heap[wr.heap.size]? = some (.cells #[.int .i64 b.kind, .int .i64 b.owner, .int .i64 b.x, .int .i64 b.y, .int .i64 b.vx, .int .i64 b.vy, .int .i64 b.aim, .int .i64 b.life, .int .i64 b.timer] 89 (0, 0)) ∧ Below wr.heap.size wr W := ⟨_, rfl, heap_alloc_new _ _, below1 _ _⟩
      have cP5 := rowCells hP5
      have hown5 := hown.keep hb5 (Nat.le_refl _)
      have hbel5 := hbel.trans (hb5.mono hszr)
      clear c1 hown
      have hl9 := bdN_len b
      have hZ := below1 W5 (.cells #[.int .i64 b.kind, .int .i64 b.owner, .int .i64 b.x, .int .i64 b.y, .int .i64 b.vx, .int .i64 b.vy, .int .i64 b.aim, .int .i64 b.life, .int .i64 b.timer] 3)
      have hownZ := hown5.keep hZ (Nat.le_refl _)
      have hrZ : RdI (W5.alloc (.cells #[.int .i64 b.kind, .int .i64 b.owner, .int .i64 b.x, .int .i64 b.y, .int .i64 b.vx, .int .i64 b.vy, .int .i64 b.aim, .int .i64 b.life, .int .i64 b.timer] 3)) (.slice (some ⟨W5.heap.size, 0, none⟩) 9 9) (bdN b) := (OwnR.lit (n := 9) (w := W5) (B := W5.heap.size) (xs := bdN b) #[.int .i64 b.kind, .int .i64 b.owner, .int .i64 b.x, .int .i64 b.y, .int .i64 b.vx, .int .i64 b.vy, .int .i64 b.aim, .int .i64 b.life, .int .i64 b.timer] (Nat.le_refl _) rfl (by decide) rfl).own.rd
      have hbelZ := hbel5.trans (hZ.mono hbel5.size)
      clear hown5
      go_wp2_with (at_builtin; refine app_ints rfl _ _ rfl w1.heap.size _ (wdK x k) rfl hownZ _ (bdN b) rfl hrZ (by omega) hbelZ.size ?_; intro v7 w7 hown7 hb7)
      clear hW5
      rw [← HN.out] at hown7
      go_roundw
      case rel => exact ⟨k + 1, by omega, by go_num, hown7, hbelZ.trans hb7⟩
      case measure => simp [intOf]; omega
    · obtain rfl : k = x.bods.length := by omega
      rw [wdK_all] at hown
      have hll := hlk x.bods.length
      rw [wdK_all] at hll
      clear hlk
      obtain ⟨a3, c3, rfl, -⟩ := id hown.own.rd
      have hpk := packInts_spec hown.own.rd (by omega)
      have cAr := rowCells (keepHeap hbel hA1)
      generalize wdN x = L at *
      go_wp2_with (fail)
      refine hpk.mono ?_
      rintro e w6 ⟨rfl, hb6⟩
      go_wp2_with (fail)
      go_ret
      exact ⟨by rw [HF.out]; rfl, hb0r.trans (hb6.mono hb0r.size)⟩
theorem wbL_len {x : Wd} : (wbL x).length ≤ 6 * (3 + 4 + 9 * 24) + 6 := by
  cases h : worldB x with
  | false => rw [wbL_no h]; simp
  | true =>
    rw [wbL_yes h]
    obtain ⟨-, -, -, q4, q5, -, -⟩ := wd_facts h
    have hn4 := (inR_iff _ _ _).1 q4
    have hm24 := (inR_iff _ _ _).1 q5
    have hl := wdK_len x x.bods.length
    rw [wdK_all] at hl
    cases hp : packR (wdN x) with
    | none => rw [packI_none hp]; simp
    | some l =>
      have := packR_len _ _ hp
      have := encI_len ((wdN x).length : Int)
      rw [packI_some hp, List.length_append]; omega
theorem worldSum_impl {w : World} {x : Wd} {vl vs vb : Value} (h : RdW w x vl vs vb) (hs : x.sane) :
    Calls Tryd.prog 22 #[.agg (wdC x vl vs vb)] w fun e w' => e = .returned (.int .i64 (chk (wbL x))) ∧ Below w.heap.size w w' := by
  have hl := wbL_len (x := x)
  have hok := fun {W : World} (h1 : RdW W x vl vs vb) => worldBytes_impl h1 hs
  have h0 := h
  obtain ⟨al, cl, rfl, -⟩ := id h.1
  obtain ⟨aq, cq, rfl, -⟩ := id h.2.1
  obtain ⟨ab, cb, rfl, -⟩ := id h.2.2
  generalize wbL x = L at *
  unfold wdC at hok ⊢
  obtain ⟨W0, hW, hA, hB0, hS0⟩ := rows1 w #[.slice al x.rows.length cl, .int .i64 x.tick, .int .i64 x.seed, .slice aq x.scores.length cq, .slice ab x.bods.length cb] 41
  have cA := rowCells hA
  go_enter Tryd.func22, Tryd.ntmps22
  go_wp2_with (fail)
  try rw [hW]
  clear hW
  refine (hok (h0.keep hB0)).mono ?_
  rintro e w1 ⟨rfl, hb1⟩
  go_wp2_with (fail)
  refine (checksum_impl _ _ (by show L.toArray.size ≤ _; simp; omega)).mono ?_
  rintro e w2 ⟨rfl, rfl⟩
  go_wp2_with (fail)
  go_ret
  exact ⟨rfl, hB0.trans (hb1.mono hB0.size)⟩
theorem worldSum_spec {w : World} {x : Wd} {vl vs vb : Value} (h : RdW w x vl vs vb) (hs : x.sane) :
    Calls Tryd.prog 21 #[.agg (wdC x vl vs vb)] w fun e w' => e = .returned (.int .i64 (chk (wbL x))) ∧ Below w.heap.size w w' := by
  have hl := wbL_len (x := x)
  have hok := fun {W : World} (h1 : RdW W x vl vs vb) => worldBytes_spec h1 hs
  have h0 := h
  obtain ⟨al, cl, rfl, -⟩ := id h.1
  obtain ⟨aq, cq, rfl, -⟩ := id h.2.1
  obtain ⟨ab, cb, rfl, -⟩ := id h.2.2
  generalize wbL x = L at *
  unfold wdC at hok ⊢
  obtain ⟨W0, hW, hA, hB0, hS0⟩ := rows1 w #[.slice al x.rows.length cl, .int .i64 x.tick, .int .i64 x.seed, .slice aq x.scores.length cq, .slice ab x.bods.length cb] 41
  have cA := rowCells hA
  go_enter Tryd.func21, Tryd.ntmps21
  go_wp2_with (fail)
  try rw [hW]
  clear hW
  refine (hok (h0.keep hB0)).mono ?_
  rintro e w1 ⟨rfl, hb1⟩
  go_wp2_with (fail)
  refine (checksum_spec _ _ (by show L.toArray.size ≤ _; simp; omega)).mono ?_
  rintro e w2 ⟨rfl, rfl⟩
  go_wp2_with (fail)
  go_ret
  exact ⟨rfl, hB0.trans (hb1.mono hB0.size)⟩
end Go.Proofs.YtnjjpeblbfomoaaDoor
