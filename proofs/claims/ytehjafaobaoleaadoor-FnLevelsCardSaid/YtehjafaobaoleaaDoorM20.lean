/-
  Texts of this proof: SolidA, Slide.
-/
import Derived.Test.YtehjafaobaoleaaDoorM19
import Derived.Test.YtehjafaobaoleaaDoorM10
namespace Go.Proofs.YtehjafaobaoleaaDoor
open Go.RowKit
set_option linter.all false
theorem solidB_level {L : Rowz} {x y s : Int} (h : levelB L = false) : solidB L x y s = true := by unfold solidB; rw [h]; rfl
theorem solidB_size {L : Rowz} {x y s : Int} (h : inR s 1 16 = false) : solidB L x y s = true := by unfold solidB; rw [h]; simp
theorem solidB_in {L : Rowz} {x y s : Int} (h : levelB L = true) (h2 : inR s 1 16 = true) : solidB L x y s = blockB L x y s := by unfold solidB; rw [h, h2]; rfl
def I64 (x : Int) : Prop := -9223372036854775808 ≤ x ∧ x ≤ 9223372036854775807
theorem I64.of {x : Int} (h : (Lit.int .i64 x).wf = true) : I64 x := by
 simp only [Lit.wf, Bool.and_eq_true, decide_eq_true_eq] at h
 exact ⟨h.1, h.2⟩
set_option maxHeartbeats 2000000 in
theorem solidAt_impl {w : World} {v : Value} {L : Rowz} (h : RdS w v L) (hs : Sane L) (x y s : Int) (hx : I64 x) (hy : I64 y) :
  Calls Tryd.prog 11 #[.agg #[v], .int .i64 x, .int .i64 y, .int .i64 s] w fun e w' => e = .returned (.bool (solidB L x y s)) ∧ Below w.heap.size w w' := by
 obtain ⟨a, cap, rfl, -⟩ := id h
 obtain ⟨W1, hW, hA1, hb1⟩ : ∃ W1, w.alloc (.cells #[.slice a L.length cap] 26) = W1 ∧ W1.heap[w.heap.size]? = some (.cells #[.slice a L.length cap] 26 (0, 0)) ∧ Below w.heap.size w W1 := ⟨_, rfl, heap_alloc_new w _, below1 _ _⟩
 have cA1 := rowCells hA1
 have r1 := h.keep hb1
 have hs1 := hb1.size
 go_enter Tryd.func11, Tryd.ntmps11
 go_wp2_with (fail)
 clear hW
 refine (levelOk_impl r1 hs).mono ?_
 rintro e w2 ⟨rfl, hb2⟩
 have hb12 := hb1.trans (hb2.mono hs1)
 have cA2 := rowCells (keepHeap hb2 hA1)
 have r2 := h.keep hb12
 have hs2 := hb12.size
 clear cA1
 cases hl : levelB L with
 | false =>
  have HF := Lib.hid (solidB_level (x := x) (y := y) (s := s) hl)
  clear hl
  go_wp2_with (fail)
  go_ret
  exact ⟨by rw [HF.out]; rfl, hb12⟩
 | true =>
  have hg : Good L := levelB_facts hl
  cases hq : inR s 1 16 with
  | false =>
   have HF := Lib.hid (solidB_size (L := L) (x := x) (y := y) hq)
   have Q := Lib.hid hq
   clear hl hq
   go_wp2_with (go_at_call 25; refine (within_impl _ _ _ _).mono ?_; rintro e w3 ⟨rfl, rfl⟩; rw [Q.out])
   go_ret
   exact ⟨by rw [HF.out]; rfl, hb12⟩
  | true =>
   have HF := Lib.hid (solidB_in (x := x) (y := y) hl hq)
   have hq2 := (inR_iff _ _ _).1 hq
   obtain ⟨S, rfl⟩ := Int.eq_ofNat_of_zero_le (a := s) (by omega)
   have Q := Lib.hid hq
   have hS1 : 1 ≤ S := by omega
   have hS2 : S ≤ 16 := by omega
   clear hl hq hq2
   go_wp2_with (go_at_call 25; refine (within_impl _ _ _ _).mono ?_; rintro e w3 ⟨rfl, rfl⟩; rw [Q.out])
   refine (blocked_impl r2 hg x y S hS1 hS2 hx.2 hy.2 hx.1 hy.1).mono ?_
   rintro e w3 ⟨rfl, hb3⟩
   go_wp2_with (fail)
   go_ret
   exact ⟨by rw [HF.out]; rfl, hb12.trans (hb3.mono hs2)⟩
end Go.Proofs.YtehjafaobaoleaaDoor
namespace Go.Proofs.YtehjafaobaoleaaDoor
open Go.RowKit
set_option linter.all false
def bmv (b : Bd) (x y vx vy : Int) : Array Value := #[.int .i64 b.kind, .int .i64 b.owner, .int .i64 x, .int .i64 y, .int .i64 vx, .int .i64 vy, .int .i64 b.aim, .int .i64 b.life, .int .i64 b.timer]
theorem setH {w : World} {c k : Nat} {v : Value} {l : List Value} {T : TypeId} (h : w.heap[c]? = some (.cells ⟨l⟩ T (0, 0))) : (w.setCell ⟨c, k, none⟩ v).heap[c]? = some (.cells ⟨l.set k v⟩ T (0, 0)) := by
 rw [setHeap h]; simp
def putB (w : World) (c : Nat) (b : Bd) (x y vx vy : Int) : World := ((((((((w.setCell ⟨c, 0, none⟩ (.int .i64 b.kind)).setCell ⟨c, 1, none⟩ (.int .i64 b.owner)).setCell ⟨c, 2, none⟩ (.int .i64 x)).setCell ⟨c, 3, none⟩ (.int .i64 y)).setCell ⟨c, 4, none⟩ (.int .i64 vx)).setCell ⟨c, 5, none⟩ (.int .i64 vy)).setCell ⟨c, 6, none⟩ (.int .i64 b.aim)).setCell ⟨c, 7, none⟩ (.int .i64 b.life)).setCell ⟨c, 8, none⟩ (.int .i64 b.timer)
set_option maxHeartbeats 1000000 in
theorem putB_heap {w : World} {c : Nat} {cs : Array Value} (h : w.heap[c]? = some (.cells cs 57 (0, 0))) (hn : cs.size = 9) (b : Bd) (x y vx vy : Int) : (putB w c b x y vx vy).heap[c]? = some (.cells (bmv b x y vx vy) 57 (0, 0)) := by
 obtain ⟨l⟩ := cs
 match l, hn with
 | [a0, a1, a2, a3, a4, a5, a6, a7, a8], _ =>
  have h0 := setH (k := 0) (v := .int .i64 b.kind) h
  have h1 := setH (k := 1) (v := .int .i64 b.owner) h0
  have h2 := setH (k := 2) (v := .int .i64 x) h1
  have h3 := setH (k := 3) (v := .int .i64 y) h2
  have h4 := setH (k := 4) (v := .int .i64 vx) h3
  have h5 := setH (k := 5) (v := .int .i64 vy) h4
  have h6 := setH (k := 6) (v := .int .i64 b.aim) h5
  have h7 := setH (k := 7) (v := .int .i64 b.life) h6
  have h8 := setH (k := 8) (v := .int .i64 b.timer) h7
  unfold putB bmv
  rw [h8]
  simp only [List.set]
theorem putB_below {B : Nat} {w0 w : World} {c : Nat} (h : Below B w0 w) (hc : B ≤ c) (b : Bd) (x y vx vy : Int) : Below B w0 (putB w c b x y vx vy) := by
 unfold putB
 exact ((((((((h.setCell (p := ⟨c, 0, none⟩) hc _).setCell (p := ⟨c, 1, none⟩) hc _).setCell (p := ⟨c, 2, none⟩) hc _).setCell (p := ⟨c, 3, none⟩) hc _).setCell (p := ⟨c, 4, none⟩) hc _).setCell (p := ⟨c, 5, none⟩) hc _).setCell (p := ⟨c, 6, none⟩) hc _).setCell (p := ⟨c, 7, none⟩) hc _).setCell (p := ⟨c, 8, none⟩) hc _
end Go.Proofs.YtehjafaobaoleaaDoor
