/-
  The laws' marks on a replay of the call's own, and their test. Lists of at most 2^20.
-/
import Derived.Test.YtecimgennncjkaaDoorRpG
import Derived.Test.YtecimgennncjkaaDoorOrf
namespace Go.Proofs.YtecimgennncjkaaDoor
open Go.RowKit
set_option linter.all false
theorem WrS.aside {w w' : World} {B T : Nat} {v : Value} {xs : List (List UInt8)} (h : WrS w B v xs) (hT : LowS T v xs) (he : ∀ b, B ≤ b → b < T → b < w.heap.size → w'.heap[b]? = w.heap[b]?) : WrS w' B v xs := by
  obtain ⟨a, cap, rfl, h⟩ := h
  refine ⟨a, cap, rfl, ?_⟩
  by_cases hx : xs = []
  · exact .inl hx
  · obtain ⟨b, hB, rfl, hr⟩ := h.resolve_left hx
    have hbT : b < T := by
      obtain ⟨b', n', c', e, hlt⟩ := hT.resolve_left hx
      simp only [Value.slice.injEq, Option.some.injEq, Addr.mk.injEq] at e
      omega
    have hb := he b hB hbT (hr.lt hx)
    refine .inr ⟨b, hB, rfl, fun j hj => ?_, fun j hj => ?_⟩
    · rw [World.cell?_of_block (w := w) hb]; exact hr.1 j hj
    · rw [frozen_of_block hb]; exact hr.2 j hj
theorem WrS.apartR {w w' : World} {lo hi l1 h1 : Nat} {v : Value} {xs : List (List UInt8)} (h : WrS w l1 v xs) (hT : LowS h1 v xs) (hf : FarB lo hi w w') (hd : hi ≤ l1 ∨ h1 ≤ lo) : WrS w' l1 v xs :=
  h.aside hT (fun b hb hb2 hl => by
    rcases hd with hd | hd
    · exact hf.2 b (by omega) hl
    · exact hf.1.block b (by omega))
theorem LowS.lenR {T : Nat} {v : Value} {xs ys : List (List UInt8)} (h : LowS T v xs) (hl : xs.length = ys.length) : LowS T v ys := by
  rcases h with h | h
  · left; subst h; exact List.eq_nil_of_length_eq_zero hl.symm
  · exact .inr h
/-- A replay of the call's own between two bounds: its three lists lie in blocks apart. -/
def OwnRpIn (w : World) (lo hi : Nat) (x : Rp) (vl vs vb : Value) : Prop := ∃ a1 b1 a2 b2 a3 b3, (lo ≤ a1 ∧ a1 ≤ b1 ∧ b1 ≤ hi) ∧ (lo ≤ a2 ∧ a2 ≤ b2 ∧ b2 ≤ hi) ∧ (lo ≤ a3 ∧ a3 ≤ b3 ∧ b3 ≤ hi) ∧ (b1 ≤ a2 ∨ b2 ≤ a1) ∧ (b1 ≤ a3 ∨ b3 ≤ a1) ∧ (b2 ≤ a3 ∨ b3 ≤ a2) ∧ WrS w a1 vl x.lv ∧ LowS b1 vl x.lv ∧ OwnRR w a2 b2 vs x.rows ∧ WrS w a3 vb x.keys ∧ LowS b3 vb x.keys
theorem OwnRpIn.rd {w : World} {lo hi : Nat} {x : Rp} {vl vs vb : Value} (h : OwnRpIn w lo hi x vl vs vb) : RdRp w x vl vs vb := by
  obtain ⟨a1, b1, a2, b2, a3, b3, -, -, -, -, -, -, h1, -, h2, h3, -⟩ := h
  exact ⟨h1.rd, h2.rd, h3.rd⟩
theorem OwnRpIn.wide {w : World} {lo hi lo' hi' : Nat} {x : Rp} {vl vs vb : Value} (h : OwnRpIn w lo hi x vl vs vb) (h1 : lo' ≤ lo) (h2 : hi ≤ hi') : OwnRpIn w lo' hi' x vl vs vb := by
  obtain ⟨a1, b1, a2, b2, a3, b3, c1, c2, c3, d1, d2, d3, e1, e2, e3, e4, e5⟩ := h
  exact ⟨a1, b1, a2, b2, a3, b3, ⟨by omega, by omega, by omega⟩, ⟨by omega, by omega, by omega⟩, ⟨by omega, by omega, by omega⟩, d1, d2, d3, e1, e2, e3, e4, e5⟩
theorem OwnRpIn.keep {w w' : World} {lo hi : Nat} {x : Rp} {vl vs vb : Value} (h : OwnRpIn w lo hi x vl vs vb) (hb : Below w.heap.size w w') : OwnRpIn w' lo hi x vl vs vb := by
  obtain ⟨a1, b1, a2, b2, a3, b3, c1, c2, c3, d1, d2, d3, e1, e2, e3, e4, e5⟩ := h
  exact ⟨a1, b1, a2, b2, a3, b3, c1, c2, c3, d1, d2, d3, e1.keep hb, e2, e3.keep hb (Nat.le_refl _), e4.keep hb, e5⟩
theorem OwnRpIn.afar {w w' : World} {lo hi l1 h1 : Nat} {x : Rp} {vl vs vb : Value} (h : OwnRpIn w l1 h1 x vl vs vb) (hf : FarB lo hi w w') (hle : hi ≤ l1) : OwnRpIn w' l1 h1 x vl vs vb := by
  obtain ⟨a1, b1, a2, b2, a3, b3, c1, c2, c3, d1, d2, d3, e1, e2, e3, e4, e5⟩ := h
  exact ⟨a1, b1, a2, b2, a3, b3, c1, c2, c3, d1, d2, d3, e1.apartR e2 hf (.inl (by omega)), e2, e3.apart2 hf (.inl (by omega)), e4.apartR e5 hf (.inl (by omega)), e5⟩
/-- How many numbers a replay's marks take. -/
def Rp.marksN (x : Rp) : Nat := x.lv.length + totalR x.rows + x.keys.length
/-- The replay behind its marks from k on. -/
def Rp.marked (x : Rp) (k : Nat) : Rp := ⟨marksT k x.lv.length, x.players, x.seed, x.every, marksR ((k + x.lv.length : Nat) : Int) x.rows, marksT (k + x.lv.length + totalR x.rows) x.keys.length⟩
set_option maxRecDepth 100000 in
set_option maxHeartbeats 2000000 in
theorem markReplay_far {w : World} {lo hi : Nat} {x : Rp} {vl vs vb : Value} (h : OwnRpIn w lo hi x vl vs vb) (hw : hi ≤ w.heap.size) (hn : x.few) (hsm : x.lv.length + totalR x.rows + x.keys.length ≤ 100000) (k0 : Nat) (h0 : 0 < k0) (h1 : k0 ≤ 1) :
    Calls Tryd.prog 26 #[.agg (rpC x vl vs vb), .int .i64 (k0 : Int)] w fun e w' => e = .returned (.int .i64 ((k0 + x.marksN : Nat) : Int)) ∧ OwnRpIn w' lo hi (x.marked k0) vl vs vb ∧ FarB lo hi w w' := by
  obtain ⟨hn1, ⟨hn2, hn4⟩, hn3⟩ := hn
  have ht : totalR x.rows ≤ 1048576 := by omega
  have hrd := h.rd
  obtain ⟨p1, q1, p2, q2, p3, q3, ⟨y1, v1, y2⟩, ⟨y3, v2, y4⟩, ⟨y5, v3, y6⟩, z1, z2, z3, a3, a4, a5, a6, a7⟩ := h
  obtain ⟨al, cl, rfl, -⟩ := id hrd.1
  obtain ⟨aq, cq, rfl, -⟩ := id hrd.2.1
  obtain ⟨ab, cb, rfl, -⟩ := id hrd.2.2
  unfold rpC
  obtain ⟨W0, hW, hA, hB0, hS0⟩ := rows1 w #[.slice al x.lv.length cl, .int .i64 x.players, .int .i64 x.seed, .int .i64 x.every, .slice aq x.rows.length cq, .slice ab x.keys.length cb] 44
  have cA := rowCells hA
  have r3 := a3.keep hB0
  have r5 := a5.keep hB0 (Nat.le_refl _)
  have r6 := a6.keep hB0
  have hs0 := hB0.size
  have hm := markLevel_far r3 a4 (by omega) (by omega) (by omega) k0 h0 (by omega)
  have hAlt : w.heap.size < W0.heap.size := blockLt hA
  clear hrd
  go_enter Tryd.func26, Tryd.ntmps26
  go_wp2_with (fail)
  try rw [hW]
  clear hW
  refine hm.mono ?_
  rintro e w1 ⟨rfl, o1, b1, f1⟩
  have F1 : FarB p1 q1 W0 w1 := ⟨b1, f1⟩
  have hs1 := b1.size
  have hA1 := keepHeapFar F1 hA (by omega)
  have cA1 := rowCells hA1
  have r51 := r5.apart2 F1 z1
  have r61 := r6.apartR a7 F1 z2
  obtain ⟨K1, hK1⟩ : ∃ K1, K1 = k0 + x.lv.length := ⟨_, rfl⟩
  rw [← hK1]
  have hK1b : K1 ≤ 100001 ∧ 0 < K1 := by omega
  have HK1 := Lib.hid hK1
  clear cA hK1 hm
  go_wp2_with (fail)
  refine (markIntSS_far r51 hn2 ht (K1 : Int) (by omega) (by omega)).mono ?_
  rintro e w2 ⟨rfl, o2, F2⟩
  have hs2 := F2.1.size
  have hA2 := keepHeapFar F2 hA1 (by omega)
  have cA2 := rowCells hA2
  have r62 := r61.apartR a7 F2 z3
  have o12 : WrS w2 p1 (.slice al x.lv.length cl) (marksT k0 x.lv.length) := o1.apartR (a4.lenR (by rw [marksT_len])) F2 (Or.comm.1 z1)
  obtain ⟨K2, hK2⟩ : ∃ K2 : Nat, (K2 : Int) = (K1 : Int) + (totalR x.rows : Nat) := ⟨K1 + totalR x.rows, by omega⟩
  rw [← hK2]
  have hK2b : K2 ≤ 3145728 := by omega
  have HK2 := Lib.hid hK2
  have hm3 := markStringS_far r62 a7 (by omega) (by omega) K2 (by omega) (by omega)
  clear cA1 hK2
  go_wp2_with (fail)
  refine hm3.mono ?_
  rintro e w3 ⟨rfl, o3, b3, f3⟩
  have F3 : FarB p3 q3 w2 w3 := ⟨b3, f3⟩
  have o13 : WrS w3 p1 (.slice al x.lv.length cl) (marksT k0 x.lv.length) := o12.apartR (a4.lenR (by rw [marksT_len])) F3 (Or.comm.1 z2)
  have o23 := o2.apart2 F3 (Or.comm.1 z3)
  have e1 : ((k0 + x.lv.length : Nat) : Int) = (K1 : Int) := by rw [HK1.out]
  have e2 : k0 + x.lv.length + totalR x.rows = K2 := by have := HK1.out; have := HK2.out; omega
  have e3 : ((K2 + x.keys.length : Nat) : Int) = ((k0 + x.marksN : Nat) : Int) := by have := HK1.out; have := HK2.out; unfold Rp.marksN; omega
  have E3 := Lib.hid e3
  clear e3
  go_wp2_with (fail)
  go_ret
  refine ⟨ret_int E3.out, ⟨p1, q1, p2, q2, p3, q3, ⟨y1, v1, y2⟩, ⟨y3, v2, y4⟩, ⟨y5, v3, y6⟩, z1, z2, z3, o13, a4.lenR (by rw [Rp.marked, marksT_len]), by rw [Rp.marked, e1]; exact o23, by rw [Rp.marked, e2]; exact o3, a7.lenR (by rw [Rp.marked, marksT_len])⟩, ?_⟩
  exact (FarB.of_below hB0 (by omega)).trans ((F1.wide y1 y2).trans ((F2.wide y3 y4).trans (F3.wide y5 y6)))
set_option maxRecDepth 100000 in
set_option maxHeartbeats 2000000 in
theorem heldReplay_any {w : World} (x : Rp) {vl vs vb : Value} (k0 : Nat) (h : RdRp w (x.marked k0) vl vs vb) (hn : x.few) (hsm : x.lv.length + totalR x.rows + x.keys.length ≤ 100000) (h0 : 0 < k0) (h1 : k0 ≤ 1) (p s t : Int) :
    Calls Tryd.prog 27 #[.agg #[vl, .int .i64 p, .int .i64 s, .int .i64 t, vs, vb], .int .i64 (k0 : Int)] w fun e w' => e = .returned (.int .i64 ((k0 + x.marksN : Nat) : Int)) ∧ Below w.heap.size w w' := by
  obtain ⟨hn1, ⟨hn2, hn4⟩, hn3⟩ := hn
  have ht : totalR x.rows ≤ 1048576 := by omega
  obtain ⟨g1, g2, g3⟩ := h
  have g1 : RdS w vl (marksT k0 x.lv.length) := g1
  have g2 : RdR w vs (marksR ((k0 + x.lv.length : Nat) : Int) x.rows) := g2
  have g3 : RdS w vb (marksT (k0 + x.lv.length + totalR x.rows) x.keys.length) := g3
  obtain ⟨K1, hK1⟩ : ∃ K1, K1 = k0 + x.lv.length := ⟨_, rfl⟩
  rw [← hK1] at g2 g3
  obtain ⟨K2, hK2⟩ : ∃ K2, K2 = K1 + totalR x.rows := ⟨_, rfl⟩
  rw [← hK2] at g3
  have HE : Hid (((K2 + x.keys.length : Nat) : Int) = ((k0 + x.marksN : Nat) : Int)) := Lib.hid (by unfold Rp.marksN; omega)
  have H1 : Hid (((k0 + x.lv.length : Nat) : Int) = (K1 : Int)) := Lib.hid (by rw [hK1])
  have H2 : Hid ((K1 : Int) + (totalR x.rows : Nat) = (K2 : Int)) := Lib.hid (by omega)
  have hK1b : K1 ≤ 100001 ∧ 0 < K1 := by omega
  have hK2b : K2 ≤ 200001 := by omega
  have z1 : decide ((K1 : Int) < 0) = false := by simp
  have z2 : decide ((K2 : Int) < 0) = false := by simp
  have z3 : decide (((K2 + x.keys.length : Nat) : Int) < 0) = false := by simp; omega
  obtain ⟨n1, hn1'⟩ : ∃ n, n = (marksT k0 x.lv.length).length := ⟨_, rfl⟩
  obtain ⟨n2, hn2'⟩ : ∃ n, n = (marksR (K1 : Int) x.rows).length := ⟨_, rfl⟩
  obtain ⟨n3, hn3'⟩ : ∃ n, n = (marksT K2 x.keys.length).length := ⟨_, rfl⟩
  have q1 := fun {W : World} (hb : Below w.heap.size w W) => heldLevel_any x.lv.length k0 (g1.keep hb) (by omega) h0 (by omega)
  have q2 := fun {W : World} (hb : Below w.heap.size w W) => heldIntSS_rows x.rows (K1 : Int) (g2.keep hb) hn2 ht (by omega) (by omega)
  have q3 := fun {W : World} (hb : Below w.heap.size w W) => heldStringS_any x.keys.length K2 (g3.keep hb) (by omega) (by omega) (by omega)
  rw [H1.out] at q1
  rw [H2.out] at q2
  obtain ⟨al, cl, rfl, -⟩ := id g1
  obtain ⟨aq, cq, rfl, -⟩ := id g2
  obtain ⟨ab, cb, rfl, -⟩ := id g3
  rw [← hn1'] at q1 ⊢
  rw [← hn2'] at q2 ⊢
  rw [← hn3'] at q3 ⊢
  obtain ⟨W0, hW, hA, hB0, hS0⟩ := rows1 w #[.slice al n1 cl, .int .i64 p, .int .i64 s, .int .i64 t, .slice aq n2 cq, .slice ab n3 cb] 44
  have cA := rowCells hA
  clear hK1 hK2 hn1' hn2' hn3' g1 g2 g3 H1 H2
  go_enter Tryd.func27, Tryd.ntmps27
  go_wp2_with (fail)
  try rw [hW]
  clear hW
  refine (q1 hB0).mono ?_
  rintro e w1 ⟨rfl, hb1⟩
  have hb01 := hB0.trans (hb1.mono hB0.size)
  have cA1 := rowCells (keepHeap hb1 hA)
  clear cA
  go_wp2_with (fail)
  refine (q2 hb01).mono ?_
  rintro e w2 ⟨rfl, rfl⟩
  go_wp2_with (fail)
  refine (q3 hb01).mono ?_
  rintro e w3 ⟨rfl, hb3⟩
  go_wp2_with (fail)
  go_ret
  exact ⟨ret_int HE.out, hb01.trans (hb3.mono hb01.size)⟩
end Go.Proofs.YtecimgennncjkaaDoor
