/-
  Texts of this proof: MkW.
-/
import Derived.Test.YtehjafaobaoleaaDoorM31
import Derived.Test.YtehjafaobaoleaaDoorM32
namespace Go.Proofs.YtehjafaobaoleaaDoor
open Go.RowKit
set_option linter.all false
def OwnBdIn (w : World) (lo hi : Nat) (v : Value) (X : List Bd) : Prop := ∃ a cap, v = .slice a X.length cap ∧ (X = [] ∨ ∃ g, lo ≤ g ∧ g < hi ∧ a = some ⟨g, 0, none⟩ ∧ RowBd w g X)
theorem OwnBdIn.of {w : World} {B : Nat} {v : Value} {X : List Bd} (h : OwnBd w B v X) : OwnBdIn w B w.heap.size v X := by
 obtain ⟨a, cap, hv, h⟩ := h
 refine ⟨a, cap, hv, ?_⟩
 by_cases hx : X = []
 ·exact .inl hx
 ·obtain ⟨g, hB, ha, hr⟩ := h.resolve_left hx
  exact .inr ⟨g, hB, hr.lt hx, ha, hr⟩
theorem OwnBdIn.rd {w : World} {lo hi : Nat} {v : Value} {X : List Bd} (h : OwnBdIn w lo hi v X) : RdBd w v X := by
 obtain ⟨a, cap, hv, h⟩ := h
 refine ⟨a, cap, hv, ?_⟩
 rcases h with h | ⟨g, -, -, ha, hr⟩
 ·exact .inl h
 ·exact .inr ⟨g, 0, ha, fun j hj => by rw [Nat.zero_add]; exact (hr j hj).1⟩
theorem OwnBdIn.keep {w w' : World} {lo hi : Nat} {v : Value} {X : List Bd} (h : OwnBdIn w lo hi v X) (hb : Below w.heap.size w w') : OwnBdIn w' lo hi v X := by
 obtain ⟨a, cap, rfl, h⟩ := h
 refine ⟨a, cap, rfl, ?_⟩
 by_cases hx : X = []
 ·exact .inl hx
 ·obtain ⟨b, h1, h2, rfl, hr⟩ := h.resolve_left hx
  exact .inr ⟨b, h1, h2, rfl, hr.same (hb.block b (hr.lt hx))⟩
theorem OwnBdIn.afar {w w' : World} {lo hi l1 h1 : Nat} {v : Value} {X : List Bd} (h : OwnBdIn w l1 h1 v X) (hf : FarB lo hi w w') (hle : hi ≤ l1) : OwnBdIn w' l1 h1 v X := by
 obtain ⟨a, cap, rfl, h⟩ := h
 refine ⟨a, cap, rfl, ?_⟩
 by_cases hx : X = []
 ·exact .inl hx
 ·obtain ⟨b, hb1, hb2, rfl, hr⟩ := h.resolve_left hx
  exact .inr ⟨b, hb1, hb2, rfl, hr.same (hf.2 b (by omega) (hr.lt hx))⟩
theorem OwnBdIn.apart2 {w w' : World} {lo hi l1 h1 : Nat} {v : Value} {X : List Bd} (h : OwnBdIn w l1 h1 v X) (hf : FarB lo hi w w') (hd : hi ≤ l1 ∨ h1 ≤ lo) : OwnBdIn w' l1 h1 v X := by
 obtain ⟨a, cap, rfl, h⟩ := h
 refine ⟨a, cap, rfl, ?_⟩
 by_cases hx : X = []
 ·exact .inl hx
 ·obtain ⟨b, hb1, hb2, rfl, hr⟩ := h.resolve_left hx
  refine .inr ⟨b, hb1, hb2, rfl, hr.same ?_⟩
  rcases hd with hd | hd
  ·exact hf.2 b (by omega) (hr.lt hx)
  ·exact hf.1.block b (by omega)
def OwnWIn (w : World) (lo hi : Nat) (x : Wd) (vl vs vb : Value) : Prop := ∃ a1 b1 a2 b2 a3 b3, (lo ≤ a1 ∧ a1 ≤ b1 ∧ b1 ≤ hi) ∧ (lo ≤ a2 ∧ a2 ≤ b2 ∧ b2 ≤ hi) ∧ (lo ≤ a3 ∧ a3 ≤ b3 ∧ b3 ≤ hi) ∧ (b1 ≤ a2 ∨ b2 ≤ a1) ∧ (b1 ≤ a3 ∨ b3 ≤ a1) ∧ (b2 ≤ a3 ∨ b3 ≤ a2) ∧ WrS w a1 vl x.rows ∧ LowS b1 vl x.rows ∧ OwnIn w a2 b2 vs x.scores ∧ OwnBdIn w a3 b3 vb x.bods
theorem OwnWIn.of {w : World} {B : Nat} {x : Wd} {vl vs vb : Value} (h : OwnW w B x vl vs vb) : OwnWIn w B w.heap.size x vl vs vb := by
 obtain ⟨T1, T2, h1, h2, h7, h3, h4, h5, h6⟩ := h
 exact ⟨B, T1, T1, T2, T2, w.heap.size, ⟨Nat.le_refl _, h1, by omega⟩, ⟨h1, h2, h7⟩, ⟨by omega, h7, Nat.le_refl _⟩, .inl (Nat.le_refl _), .inl h2, .inl (Nat.le_refl _), h3, h4, h5, OwnBdIn.of h6⟩
theorem OwnWIn.rd {w : World} {lo hi : Nat} {x : Wd} {vl vs vb : Value} (h : OwnWIn w lo hi x vl vs vb) : RdW w x vl vs vb := by
 obtain ⟨a1, b1, a2, b2, a3, b3, -, -, -, -, -, -, h1, -, h2, h3⟩ := h
 exact ⟨h1.rd, h2.rd, h3.rd⟩
theorem OwnWIn.wide {w : World} {lo hi lo' hi' : Nat} {x : Wd} {vl vs vb : Value} (h : OwnWIn w lo hi x vl vs vb) (h1 : lo' ≤ lo) (h2 : hi ≤ hi') : OwnWIn w lo' hi' x vl vs vb := by
 obtain ⟨a1, b1, a2, b2, a3, b3, c1, c2, c3, d1, d2, d3, e1, e2, e3, e4⟩ := h
 exact ⟨a1, b1, a2, b2, a3, b3, ⟨by omega, by omega, by omega⟩, ⟨by omega, by omega, by omega⟩, ⟨by omega, by omega, by omega⟩, d1, d2, d3, e1, e2, e3, e4⟩
theorem WrS.apart2 {w w' : World} {lo hi l1 h1 : Nat} {v : Value} {xs : List (List UInt8)} (h : WrS w l1 v xs) (hT : LowS h1 v xs) (hf : FarB lo hi w w') (hd : hi ≤ l1 ∨ h1 ≤ lo) : WrS w' l1 v xs :=
 h.same hT (fun b hb hb2 hl => by
  rcases hd with hd | hd
  ·exact hf.2 b (by omega) hl
  ·exact hf.1.block b (by omega))
theorem OwnWIn.keep {w w' : World} {lo hi : Nat} {x : Wd} {vl vs vb : Value} (h : OwnWIn w lo hi x vl vs vb) (hb : Below w.heap.size w w') : OwnWIn w' lo hi x vl vs vb := by
 obtain ⟨a1, b1, a2, b2, a3, b3, c1, c2, c3, d1, d2, d3, e1, e2, e3, e4⟩ := h
 exact ⟨a1, b1, a2, b2, a3, b3, c1, c2, c3, d1, d2, d3, e1.keep hb, e2, e3.keep hb, e4.keep hb⟩
theorem OwnWIn.afar {w w' : World} {lo hi l1 h1 : Nat} {x : Wd} {vl vs vb : Value} (h : OwnWIn w l1 h1 x vl vs vb) (hf : FarB lo hi w w') (hle : hi ≤ l1) : OwnWIn w' l1 h1 x vl vs vb := by
 obtain ⟨a1, b1, a2, b2, a3, b3, c1, c2, c3, d1, d2, d3, e1, e2, e3, e4⟩ := h
 exact ⟨a1, b1, a2, b2, a3, b3, c1, c2, c3, d1, d2, d3, e1.apart2 e2 hf (.inl (by omega)), e2, e3.apart2 hf (.inl (by omega)), e4.apart2 hf (.inl (by omega))⟩
theorem LowS.len {T : Nat} {v : Value} {xs ys : List (List UInt8)} (h : LowS T v xs) (hl : xs.length = ys.length) : LowS T v ys := by
 rcases h with h | h
 ·left; subst h; exact List.eq_nil_of_length_eq_zero hl.symm
 ·exact .inr h
end Go.Proofs.YtehjafaobaoleaaDoor
