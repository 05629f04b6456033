/-
  Texts of this proof: MkW.
-/
import Derived.Test.YtnlonkkbjkfkmaaGreatDoorM27
import Derived.Test.YtnlonkkbjkfkmaaGreatDoorM37
namespace Go.Proofs.YtnlonkkbjkfkmaaGreatDoor
open Go.RowKit
set_option linter.all false
def mkB (K : Int) : Bd := ⟨K, K + 1, K + 2, K + 3, K + 4, K + 5, K + 6, K + 7, K + 8⟩
def marksB (k0 : Int) (n : Nat) : List Bd := (List.range n).map fun (j : Nat) => mkB (k0 + 9 * (j : Int))
theorem marksB_len (k0 : Int) (n : Nat) : (marksB k0 n).length = n := by unfold marksB; simp
theorem marksB_at (k0 : Int) (n j : Nat) (h : j < (marksB k0 n).length) : (marksB k0 n)[j] = mkB (k0 + 9 * (j : Int)) := by simp [marksB]
def OwnBdIn (w : World) (lo hi : Nat) (v : Value) (X : List Bd) : Prop := ∃ a cap, v = .slice a X.length cap ∧ (X = [] ∨ ∃ g, lo ≤ g ∧ g < hi ∧ a = some ⟨g, 0, none⟩ ∧ RowBd w g X)
theorem OwnBdIn.of {w : World} {B : Nat} {v : Value} {X : List Bd} (h : OwnBd w B v X) : OwnBdIn w B w.heap.size v X := by
 obtain ⟨a, cap, hv, h⟩ := h
 refine ⟨a, cap, hv, ?_⟩
 by_cases hx : X = []
 ·exact .inl hx
 ·obtain ⟨g, hB, ha, hr⟩ := h.resolve_left hx
  exact .inr ⟨g, hB, hr.lt hx, ha, hr⟩
theorem OwnBdIn.rd {w : World} {lo hi : Nat} {v : Value} {X : List Bd} (h : OwnBdIn w lo hi v X) : RdBd w v X := by
 obtain ⟨a, cap, hv, h⟩ := h
 refine ⟨a, cap, hv, ?_⟩
 rcases h with h | ⟨g, -, -, ha, hr⟩
 ·exact .inl h
 ·exact .inr ⟨g, 0, ha, fun j hj => by rw [Nat.zero_add]; exact (hr j hj).1⟩
theorem OwnBdIn.keep {w w' : World} {lo hi : Nat} {v : Value} {X : List Bd} (h : OwnBdIn w lo hi v X) (hb : Below w.heap.size w w') : OwnBdIn w' lo hi v X := by
 obtain ⟨a, cap, rfl, h⟩ := h
 refine ⟨a, cap, rfl, ?_⟩
 by_cases hx : X = []
 ·exact .inl hx
 ·obtain ⟨b, h1, h2, rfl, hr⟩ := h.resolve_left hx
  exact .inr ⟨b, h1, h2, rfl, hr.same (hb.block b (hr.lt hx))⟩
theorem OwnBdIn.afar {w w' : World} {lo hi l1 h1 : Nat} {v : Value} {X : List Bd} (h : OwnBdIn w l1 h1 v X) (hf : FarB lo hi w w') (hle : hi ≤ l1) : OwnBdIn w' l1 h1 v X := by
 obtain ⟨a, cap, rfl, h⟩ := h
 refine ⟨a, cap, rfl, ?_⟩
 by_cases hx : X = []
 ·exact .inl hx
 ·obtain ⟨b, hb1, hb2, rfl, hr⟩ := h.resolve_left hx
  exact .inr ⟨b, hb1, hb2, rfl, hr.same (hf.2 b (by omega) (hr.lt hx))⟩
theorem OwnBdIn.apart2 {w w' : World} {lo hi l1 h1 : Nat} {v : Value} {X : List Bd} (h : OwnBdIn w l1 h1 v X) (hf : FarB lo hi w w') (hd : hi ≤ l1 ∨ h1 ≤ lo) : OwnBdIn w' l1 h1 v X := by
 obtain ⟨a, cap, rfl, h⟩ := h
 refine ⟨a, cap, rfl, ?_⟩
 by_cases hx : X = []
 ·exact .inl hx
 ·obtain ⟨b, hb1, hb2, rfl, hr⟩ := h.resolve_left hx
  refine .inr ⟨b, hb1, hb2, rfl, hr.same ?_⟩
  rcases hd with hd | hd
  ·exact hf.2 b (by omega) (hr.lt hx)
  ·exact hf.1.block b (by omega)
set_option maxRecDepth 100000 in
set_option maxHeartbeats 2000000 in
theorem markBodyS_far {w : World} {lo hi : Nat} {v : Value} {X : List Bd} (h : OwnBdIn w lo hi v X) (hn : X.length ≤ 1048576) (k0 : Int) (h0 : 0 ≤ k0) (h1 : k0 ≤ 1099511627776) :
  Calls Tryz.prog 82 #[v, .int .i64 k0] w fun e w' => e = .returned (.int .i64 (k0 + 9 * (X.length : Int))) ∧ OwnBdIn w' lo hi v (marksB k0 X.length) ∧ FarB lo hi w w' := by
 obtain ⟨a, cap, rfl, h⟩ := h
 by_cases hx : X = []
 ·subst hx
  go_enter Tryz.func82, Tryz.ntmps82
  go_wp2_with (fail)
  refine wp_loop_once ?_
  go_wp2_with (fail)
  go_ret
  exact ⟨ret_int (by simp), ⟨_, _, rfl, .inl rfl⟩, Below.refl _ _, fun _ _ _ => rfl⟩
 ·obtain ⟨b, hB, hb, rfl, hr⟩ := h.resolve_left hx
  go_enter Tryz.func82, Tryz.ntmps82
  go_wp2_with (fail)
  go_loopw [1, 5] (fun x i wr => ∃ (k : Nat) (L : List Bd), k ≤ X.length ∧ i = .int .i64 (k : Int) ∧ x = .int .i64 (k0 + 9 * (k : Int)) ∧ L.length = X.length ∧ L.take k = (marksB k0 X.length).take k ∧ RowBd wr b L ∧ Below lo w wr ∧ Hid (∀ j, j ≠ b → wr.heap[j]? = w.heap[j]?)) (fun _ i _ => X.length - (intOf i).toNat)
  case atStart => exact ⟨0, X, Nat.zero_le _, rfl, by simp, rfl, rfl, hr, Below.refl _ _, Lib.hid (fun _ _ => rfl)⟩
  case round =>
   obtain ⟨k, L, hk, rfl, rfl, hL, htk, hrow, hbel, HO⟩ := hrel
   by_cases hkl : k < X.length
   ·have hkL : k < L.length := by omega
    have hkk : (k : Int) < (X.length : Int) := by omega
    obtain ⟨K, hK⟩ : ∃ K, K = k0 + 9 * (k : Int) := ⟨_, rfl⟩
    have hK0 : 0 ≤ K := by omega
    have hK1 : K ≤ 1099521627776 := by omega
    rw [← hK]
    have HKK : Hid ((marksB k0 X.length)[k]'(by rw [marksB_len]; exact hkl) = mkB K) := Lib.hid (by rw [marksB_at, hK])
    have HK := Lib.hid hK
    obtain ⟨K1, e1⟩ : ∃ K1, K + 1 = K1 := ⟨_, rfl⟩
    obtain ⟨K2, e2⟩ : ∃ K2, K1 + 1 = K2 := ⟨_, rfl⟩
    obtain ⟨K3, e3⟩ : ∃ K3, K2 + 1 = K3 := ⟨_, rfl⟩
    obtain ⟨K4, e4⟩ : ∃ K4, K3 + 1 = K4 := ⟨_, rfl⟩
    obtain ⟨K5, e5⟩ : ∃ K5, K4 + 1 = K5 := ⟨_, rfl⟩
    obtain ⟨K6, e6⟩ : ∃ K6, K5 + 1 = K6 := ⟨_, rfl⟩
    obtain ⟨K7, e7⟩ : ∃ K7, K6 + 1 = K7 := ⟨_, rfl⟩
    obtain ⟨K8, e8⟩ : ∃ K8, K7 + 1 = K8 := ⟨_, rfl⟩
    have HM : Hid (mkB K = ⟨K, K1, K2, K3, K4, K5, K6, K7, K8⟩) := Lib.hid (by unfold mkB; simp; omega)
    have HE : Hid (K8 + 1 = k0 + 9 * ((k + 1 : Nat) : Int)) := Lib.hid (by omega)
    have b1 : 0 ≤ K1 ∧ K1 ≤ 1099621627776 := by omega
    have b2 : 0 ≤ K2 ∧ K2 ≤ 1099621627776 := by omega
    have b3 : 0 ≤ K3 ∧ K3 ≤ 1099621627776 := by omega
    have b4 : 0 ≤ K4 ∧ K4 ≤ 1099621627776 := by omega
    have b5 : 0 ≤ K5 ∧ K5 ≤ 1099621627776 := by omega
    have b6 : 0 ≤ K6 ∧ K6 ≤ 1099621627776 := by omega
    have b7 : 0 ≤ K7 ∧ K7 ≤ 1099621627776 := by omega
    have b8 : 0 ≤ K8 ∧ K8 ≤ 1099621627776 := by omega
    obtain ⟨c0, c1, c2, c3, c4, c5, c6, c7, c8⟩ := cells9 (hrow k hkL).1
    obtain ⟨f0, f1, f2, f3, f4, f5, f6, f7, f8⟩ := free9 (hrow k hkL).2
    have HS := Lib.hid (hrow.put k hkL ⟨K, K1, K2, K3, K4, K5, K6, K7, K8⟩)
    have HL := Lib.hid hL
    have HT := Lib.hid htk
    clear hrow hL htk h hr hK
    generalize L[k] = y at *
    go_wp2_with (fail)
    have hput := put9 wr b (k * 9) ⟨K, K1, K2, K3, K4, K5, K6, K7, K8⟩
    dsimp only at hput
    rw [hput]
    clear hput
    go_roundw
    case rel =>
     refine ⟨k + 1, L.set k ⟨K, K1, K2, K3, K4, K5, K6, K7, K8⟩, by omega, by go_num, by rw [← HE.out], by rw [List.length_set]; exact HL.out, ?_, HS.out, belowCells hB _ _ _ hbel, Lib.hid (fun j hj => (heap_setCells b _ _ _ j hj).trans (HO.out j hj))⟩
     rw [List.take_succ_eq_append_getElem (by rw [List.length_set, HL.out]; exact hkl), List.take_succ_eq_append_getElem (by rw [marksB_len]; exact hkl), List.take_set_of_le (Nat.le_refl _), HT.out, List.getElem_set_self, HKK.out, HM.out]
    case measure => simp [intOf]; omega
   ·have e : L = marksB k0 X.length := by
     rw [List.take_of_length_le (by omega), List.take_of_length_le (by rw [marksB_len]; omega)] at htk
     exact htk
    have HE := Lib.hid e
    have ek : k = X.length := by omega
    subst ek
    clear e h hr
    go_wp2_with (fail)
    go_ret
    refine ⟨rfl, ⟨_, _, by rw [marksB_len], .inr ⟨b, hB, hb, rfl, ?_⟩⟩, hbel, fun j hj _ => HO.out j (by omega)⟩
    rw [← HE.out]; exact hrow
set_option maxRecDepth 100000 in
set_option maxHeartbeats 2000000 in
theorem heldBodyS_any {w : World} {v : Value} (n : Nat) (k0 : Int) (h : RdBd w v (marksB k0 n)) (hn : n ≤ 1048576) (h0 : 0 ≤ k0) (h1 : k0 ≤ 1099511627776) :
  Calls Tryz.prog 85 #[v, .int .i64 k0] w fun e w' => e = .returned (.int .i64 (k0 + 9 * (n : Int))) ∧ w = w' := by
 obtain ⟨a, cap, rfl, h⟩ := h
 rw [marksB_len]
 go_enter Tryz.func85, Tryz.ntmps85
 go_wp2_with (fail)
 go_loop [1, 5] (fun x i => ∃ k : Nat, k ≤ n ∧ i = .int .i64 (k : Int) ∧ x = .int .i64 (k0 + 9 * (k : Int))) (fun _ i => n - (intOf i).toNat)
 case atStart => exact ⟨0, Nat.zero_le _, rfl, by simp⟩
 case round =>
  obtain ⟨k, hk, rfl, rfl⟩ := hrel
  by_cases hkl : k < n
  ·have hkm : k < (marksB k0 n).length := by rw [marksB_len]; exact hkl
   obtain ⟨b, off, rfl, hc⟩ := h.resolve_left (by intro e; rw [e] at hkm; simp at hkm)
   have c := hc k hkm
   rw [marksB_at] at c
   have hkk : (k : Int) < (n : Int) := by omega
   obtain ⟨K, hK⟩ : ∃ K, K = k0 + 9 * (k : Int) := ⟨_, rfl⟩
   have hK0 : 0 ≤ K := by omega
   have hK1 : K ≤ 1099521627776 := by omega
   rw [← hK] at c ⊢
   have HK := Lib.hid hK
   obtain ⟨K1, e1⟩ : ∃ K1, K + 1 = K1 := ⟨_, rfl⟩
   obtain ⟨K2, e2⟩ : ∃ K2, K1 + 1 = K2 := ⟨_, rfl⟩
   obtain ⟨K3, e3⟩ : ∃ K3, K2 + 1 = K3 := ⟨_, rfl⟩
   obtain ⟨K4, e4⟩ : ∃ K4, K3 + 1 = K4 := ⟨_, rfl⟩
   obtain ⟨K5, e5⟩ : ∃ K5, K4 + 1 = K5 := ⟨_, rfl⟩
   obtain ⟨K6, e6⟩ : ∃ K6, K5 + 1 = K6 := ⟨_, rfl⟩
   obtain ⟨K7, e7⟩ : ∃ K7, K6 + 1 = K7 := ⟨_, rfl⟩
   obtain ⟨K8, e8⟩ : ∃ K8, K7 + 1 = K8 := ⟨_, rfl⟩
   have HM : mkB K = ⟨K, K1, K2, K3, K4, K5, K6, K7, K8⟩ := by unfold mkB; simp; omega
   rw [HM] at c
   have HE : Hid (K8 + 1 = k0 + 9 * ((k + 1 : Nat) : Int)) := Lib.hid (by omega)
   have b1 : 0 ≤ K1 ∧ K1 ≤ 1099621627776 := by omega
   have b2 : 0 ≤ K2 ∧ K2 ≤ 1099621627776 := by omega
   have b3 : 0 ≤ K3 ∧ K3 ≤ 1099621627776 := by omega
   have b4 : 0 ≤ K4 ∧ K4 ≤ 1099621627776 := by omega
   have b5 : 0 ≤ K5 ∧ K5 ≤ 1099621627776 := by omega
   have b6 : 0 ≤ K6 ∧ K6 ≤ 1099621627776 := by omega
   have b7 : 0 ≤ K7 ∧ K7 ≤ 1099621627776 := by omega
   have b8 : 0 ≤ K8 ∧ K8 ≤ 1099621627776 := by omega
   obtain ⟨c0, c1, c2, c3, c4, c5, c6, c7, c8⟩ := cells9 c
   clear hc c h HM hK
   go_wp2_with (fail)
   go_round
   case rel => exact ⟨k + 1, by omega, by go_num, by rw [← HE.out]⟩
   case measure => simp [intOf]; omega
  ·have ek : k = n := by omega
   subst ek
   go_wp2_with (fail)
   go_ret
   exact ⟨rfl, rfl⟩
def OwnWIn (w : World) (lo hi : Nat) (x : Wd) (vl vs vb : Value) : Prop := ∃ a1 b1 a2 b2 a3 b3, (lo ≤ a1 ∧ a1 ≤ b1 ∧ b1 ≤ hi) ∧ (lo ≤ a2 ∧ a2 ≤ b2 ∧ b2 ≤ hi) ∧ (lo ≤ a3 ∧ a3 ≤ b3 ∧ b3 ≤ hi) ∧ (b1 ≤ a2 ∨ b2 ≤ a1) ∧ (b1 ≤ a3 ∨ b3 ≤ a1) ∧ (b2 ≤ a3 ∨ b3 ≤ a2) ∧ WrS w a1 vl x.rows ∧ LowS b1 vl x.rows ∧ OwnIn w a2 b2 vs x.scores ∧ OwnBdIn w a3 b3 vb x.bods
theorem OwnWIn.of {w : World} {B : Nat} {x : Wd} {vl vs vb : Value} (h : OwnW w B x vl vs vb) : OwnWIn w B w.heap.size x vl vs vb := by
 obtain ⟨T1, T2, h1, h2, h7, h3, h4, h5, h6⟩ := h
 exact ⟨B, T1, T1, T2, T2, w.heap.size, ⟨Nat.le_refl _, h1, by omega⟩, ⟨h1, h2, h7⟩, ⟨by omega, h7, Nat.le_refl _⟩, .inl (Nat.le_refl _), .inl h2, .inl (Nat.le_refl _), h3, h4, h5, OwnBdIn.of h6⟩
theorem OwnWIn.rd {w : World} {lo hi : Nat} {x : Wd} {vl vs vb : Value} (h : OwnWIn w lo hi x vl vs vb) : RdW w x vl vs vb := by
 obtain ⟨a1, b1, a2, b2, a3, b3, -, -, -, -, -, -, h1, -, h2, h3⟩ := h
 exact ⟨h1.rd, h2.rd, h3.rd⟩
theorem OwnWIn.wide {w : World} {lo hi lo' hi' : Nat} {x : Wd} {vl vs vb : Value} (h : OwnWIn w lo hi x vl vs vb) (h1 : lo' ≤ lo) (h2 : hi ≤ hi') : OwnWIn w lo' hi' x vl vs vb := by
 obtain ⟨a1, b1, a2, b2, a3, b3, c1, c2, c3, d1, d2, d3, e1, e2, e3, e4⟩ := h
 exact ⟨a1, b1, a2, b2, a3, b3, ⟨by omega, by omega, by omega⟩, ⟨by omega, by omega, by omega⟩, ⟨by omega, by omega, by omega⟩, d1, d2, d3, e1, e2, e3, e4⟩
theorem WrS.apart2 {w w' : World} {lo hi l1 h1 : Nat} {v : Value} {xs : List (List UInt8)} (h : WrS w l1 v xs) (hT : LowS h1 v xs) (hf : FarB lo hi w w') (hd : hi ≤ l1 ∨ h1 ≤ lo) : WrS w' l1 v xs :=
 h.same hT (fun b hb hb2 hl => by
  rcases hd with hd | hd
  ·exact hf.2 b (by omega) hl
  ·exact hf.1.block b (by omega))
theorem OwnWIn.keep {w w' : World} {lo hi : Nat} {x : Wd} {vl vs vb : Value} (h : OwnWIn w lo hi x vl vs vb) (hb : Below w.heap.size w w') : OwnWIn w' lo hi x vl vs vb := by
 obtain ⟨a1, b1, a2, b2, a3, b3, c1, c2, c3, d1, d2, d3, e1, e2, e3, e4⟩ := h
 exact ⟨a1, b1, a2, b2, a3, b3, c1, c2, c3, d1, d2, d3, e1.keep hb, e2, e3.keep hb, e4.keep hb⟩
theorem OwnWIn.afar {w w' : World} {lo hi l1 h1 : Nat} {x : Wd} {vl vs vb : Value} (h : OwnWIn w l1 h1 x vl vs vb) (hf : FarB lo hi w w') (hle : hi ≤ l1) : OwnWIn w' l1 h1 x vl vs vb := by
 obtain ⟨a1, b1, a2, b2, a3, b3, c1, c2, c3, d1, d2, d3, e1, e2, e3, e4⟩ := h
 exact ⟨a1, b1, a2, b2, a3, b3, c1, c2, c3, d1, d2, d3, e1.apart2 e2 hf (.inl (by omega)), e2, e3.apart2 hf (.inl (by omega)), e4.apart2 hf (.inl (by omega))⟩
def Wd.marksN (x : Wd) : Nat := x.rows.length + x.scores.length + 9 * x.bods.length
def Wd.marked (x : Wd) (k : Nat) : Wd := ⟨marksT k x.rows.length, x.tick, x.seed, marks ((k + x.rows.length : Nat) : Int) x.scores.length, marksB ((k + x.rows.length + x.scores.length : Nat) : Int) x.bods.length⟩
theorem LowS.len {T : Nat} {v : Value} {xs ys : List (List UInt8)} (h : LowS T v xs) (hl : xs.length = ys.length) : LowS T v ys := by
 rcases h with h | h
 ·left; subst h; exact List.eq_nil_of_length_eq_zero hl.symm
 ·exact .inr h
set_option maxRecDepth 100000 in
set_option maxHeartbeats 2000000 in
theorem markWorld_far {w : World} {lo hi : Nat} {x : Wd} {vl vs vb : Value} (h : OwnWIn w lo hi x vl vs vb) (hw : hi ≤ w.heap.size) (hn : x.few) (k0 : Nat) (h0 : 0 < k0) (h1 : k0 ≤ 1048576) :
  Calls Tryz.prog 29 #[.agg (wdC x vl vs vb), .int .i64 (k0 : Int)] w fun e w' => e = .returned (.int .i64 ((k0 + x.marksN : Nat) : Int)) ∧ OwnWIn w' lo hi (x.marked k0) vl vs vb ∧ FarB lo hi w w' := by
 obtain ⟨hn1, hn2, hn3⟩ := hn
 have hrd := h.rd
 obtain ⟨p1, q1, p2, q2, p3, q3, ⟨y1, v1, y2⟩, ⟨y3, v2, y4⟩, ⟨y5, v3, y6⟩, z1, z2, z3, a3, a4, a5, a6⟩ := h
 obtain ⟨al, cl, rfl, -⟩ := id hrd.1
 obtain ⟨aq, cq, rfl, -⟩ := id hrd.2.1
 obtain ⟨ab, cb, rfl, -⟩ := id hrd.2.2
 unfold wdC
 obtain ⟨W0, hW, hA, hB0, hS0⟩ := rows1 w #[.slice al x.rows.length cl, .int .i64 x.tick, .int .i64 x.seed, .slice aq x.scores.length cq, .slice ab x.bods.length cb] 30
 have cA := rowCells hA
 have r3 := a3.keep hB0
 have r5 := a5.keep hB0
 have r6 := a6.keep hB0
 have hs0 := hB0.size
 have hm := markLevel_far r3 a4 (by omega) (by omega) (by omega) k0 h0 (by omega)
 have hAlt : w.heap.size < W0.heap.size := blockLt hA
 clear hrd
 go_enter Tryz.func29, Tryz.ntmps29
 go_wp2_with (fail)
 try rw [hW]
 clear hW
 refine hm.mono ?_
 rintro e w1 ⟨rfl, o1, b1, f1⟩
 have F1 : FarB p1 q1 W0 w1 := ⟨b1, f1⟩
 have hs1 := b1.size
 have hA1 := keepHeapFar F1 hA (by omega)
 have cA1 := rowCells hA1
 have r51 := r5.apart2 F1 z1
 have r61 := r6.apart2 F1 z2
 obtain ⟨K1, hK1⟩ : ∃ K1, K1 = k0 + x.rows.length := ⟨_, rfl⟩
 rw [← hK1]
 have hK1b : K1 ≤ 2097152 := by omega
 have HK1 := Lib.hid hK1
 have hm2 := markIntS_far r51 hn2 (K1 : Int) (by omega) (by omega)
 clear cA hK1 hm
 go_wp2_with (fail)
 refine hm2.mono ?_
 rintro e w2 ⟨rfl, o2, F2⟩
 have hs2 := F2.1.size
 have hA2 := keepHeapFar F2 hA1 (by omega)
 have cA2 := rowCells hA2
 have r62 := r61.apart2 F2 z3
 have o12 : WrS w2 p1 (.slice al x.rows.length cl) (marksT k0 x.rows.length) := o1.apart2 (a4.len (by rw [marksT_len])) F2 (Or.comm.1 z1)
 obtain ⟨K2, hK2⟩ : ∃ K2 : Nat, (K2 : Int) = (K1 : Int) + (x.scores.length : Int) := ⟨K1 + x.scores.length, by omega⟩
 rw [← hK2]
 have hK2b : K2 ≤ 3145728 := by omega
 have HK2 := Lib.hid hK2
 have hm3 := markBodyS_far r62 hn3 (K2 : Int) (by omega) (by omega)
 clear cA1 hK2 hm2
 go_wp2_with (fail)
 refine hm3.mono ?_
 rintro e w3 ⟨rfl, o3, F3⟩
 have o13 : WrS w3 p1 (.slice al x.rows.length cl) (marksT k0 x.rows.length) := o12.apart2 (a4.len (by rw [marksT_len])) F3 (Or.comm.1 z2)
 have o23 := o2.apart2 F3 (Or.comm.1 z3)
 have e1 : ((k0 + x.rows.length : Nat) : Int) = (K1 : Int) := by rw [HK1.out]
 have e2 : ((k0 + x.rows.length + x.scores.length : Nat) : Int) = (K2 : Int) := by have := HK1.out; have := HK2.out; omega
 have e3 : (K2 : Int) + 9 * (x.bods.length : Int) = ((k0 + x.marksN : Nat) : Int) := by have := HK1.out; have := HK2.out; unfold Wd.marksN; omega
 have E3 := Lib.hid e3
 clear e3
 go_wp2_with (fail)
 go_ret
 refine ⟨ret_int E3.out, ⟨p1, q1, p2, q2, p3, q3, ⟨y1, v1, y2⟩, ⟨y3, v2, y4⟩, ⟨y5, v3, y6⟩, z1, z2, z3, o13, a4.len (by rw [Wd.marked, marksT_len]), by rw [Wd.marked, e1]; exact o23, by rw [Wd.marked, e2]; exact o3⟩, ?_⟩
 exact (FarB.of_below hB0 (by omega)).trans ((F1.wide y1 y2).trans ((F2.wide y3 y4).trans (F3.wide y5 y6)))
set_option maxRecDepth 100000 in
set_option maxHeartbeats 2000000 in
theorem heldWorld_any {w : World} (x : Wd) {vl vs vb : Value} (k0 : Nat) (h : RdW w (x.marked k0) vl vs vb) (hn : x.few) (h0 : 0 < k0) (h1 : k0 ≤ 1048576) (t s : Int) :
  Calls Tryz.prog 31 #[.agg #[vl, .int .i64 t, .int .i64 s, vs, vb], .int .i64 (k0 : Int)] w fun e w' => e = .returned (.int .i64 ((k0 + x.marksN : Nat) : Int)) ∧ Below w.heap.size w w' := by
 obtain ⟨hn1, hn2, hn3⟩ := hn
 obtain ⟨g1, g2, g3⟩ := h
 have g1 : RdS w vl (marksT k0 x.rows.length) := g1
 have g2 : RdI w vs (marks ((k0 + x.rows.length : Nat) : Int) x.scores.length) := g2
 have g3 : RdBd w vb (marksB ((k0 + x.rows.length + x.scores.length : Nat) : Int) x.bods.length) := g3
 obtain ⟨K1, hK1⟩ : ∃ K1, K1 = k0 + x.rows.length := ⟨_, rfl⟩
 rw [← hK1] at g2 g3
 obtain ⟨K2, hK2⟩ : ∃ K2, K2 = K1 + x.scores.length := ⟨_, rfl⟩
 rw [← hK2] at g3
 have HE : Hid ((K2 : Int) + 9 * (x.bods.length : Int) = ((k0 + x.marksN : Nat) : Int)) := Lib.hid (by unfold Wd.marksN; omega)
 have H1 : Hid (((k0 + x.rows.length : Nat) : Int) = (K1 : Int)) := Lib.hid (by rw [hK1])
 have H2 : Hid ((K1 : Int) + (x.scores.length : Int) = (K2 : Int)) := Lib.hid (by omega)
 have hK1b : K1 ≤ 2097152 := by omega
 have hK2b : K2 ≤ 3145728 := by omega
 have z1 : decide ((K1 : Int) < 0) = false := by simp
 have z2 : decide ((K2 : Int) < 0) = false := by simp
 have z3 : decide ((K2 : Int) + 9 * (x.bods.length : Int) < 0) = false := by simp; omega
 obtain ⟨n1, hn1'⟩ : ∃ n, n = (marksT k0 x.rows.length).length := ⟨_, rfl⟩
 obtain ⟨n2, hn2'⟩ : ∃ n, n = (marks (K1 : Int) x.scores.length).length := ⟨_, rfl⟩
 obtain ⟨n3, hn3'⟩ : ∃ n, n = (marksB (K2 : Int) x.bods.length).length := ⟨_, rfl⟩
 have q1 := fun {W : World} (hb : Below w.heap.size w W) => heldLevel_any x.rows.length k0 (g1.keep hb) (by omega) h0 (by omega)
 have q2 := fun {W : World} (hb : Below w.heap.size w W) => heldIntS_any x.scores.length (K1 : Int) (g2.keep hb) (by omega) (by omega) (by omega)
 have q3 := fun {W : World} (hb : Below w.heap.size w W) => heldBodyS_any x.bods.length (K2 : Int) (g3.keep hb) hn3 (by omega) (by omega)
 rw [H1.out] at q1
 rw [H2.out] at q2
 obtain ⟨al, cl, rfl, -⟩ := id g1
 obtain ⟨aq, cq, rfl, -⟩ := id g2
 obtain ⟨ab, cb, rfl, -⟩ := id g3
 rw [← hn1'] at q1 ⊢
 rw [← hn2'] at q2 ⊢
 rw [← hn3'] at q3 ⊢
 obtain ⟨W0, hW, hA, hB0, hS0⟩ := rows1 w #[.slice al n1 cl, .int .i64 t, .int .i64 s, .slice aq n2 cq, .slice ab n3 cb] 30
 have cA := rowCells hA
 clear hK1 hK2 hn1' hn2' hn3' g1 g2 g3 H1 H2
 go_enter Tryz.func31, Tryz.ntmps31
 go_wp2_with (fail)
 try rw [hW]
 clear hW
 refine (q1 hB0).mono ?_
 rintro e w1 ⟨rfl, hb1⟩
 have hb01 := hB0.trans (hb1.mono hB0.size)
 have cA1 := rowCells (keepHeap hb1 hA)
 clear cA
 go_wp2_with (fail)
 refine (q2 hb01).mono ?_
 rintro e w2 ⟨rfl, rfl⟩
 go_wp2_with (fail)
 refine (q3 hb01).mono ?_
 rintro e w2 ⟨rfl, rfl⟩
 go_wp2_with (fail)
 go_ret
 exact ⟨ret_int HE.out, hb01⟩
end Go.Proofs.YtnlonkkbjkfkmaaGreatDoor
