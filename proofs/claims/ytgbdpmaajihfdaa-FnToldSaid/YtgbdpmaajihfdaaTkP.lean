/-
  TakePacket in plain lists.
-/
import Derived.Test.YtgbdpmaajihfdaaCpT
import Derived.Test.YtgbdpmaajihfdaaAddP
import Derived.Test.YtgbdpmaajihfdaaPkO
import Derived.Test.YtgbdpmaajihfdaaPkM
import Derived.Test.YtgbdpmaajihfdaaReg
namespace Go.Proofs.Ytgbdpmaajihfdaa
open Go.RowKit
set_option linter.all false
def tkG (X : Rowi) (p : Pk) : Bool := trksB X && (pktB p && decide (p.acks.length = X.length))
def tkB (X : Rowi) (p : Pk) : Bool := tkG X p && addB (X.getD p.fr.toNat []) p.first p.ins
def tkT (X : Rowi) (p : Pk) : Rowi := if tkG X p then X.set p.fr.toNat (addT (X.getD p.fr.toNat []) p.first p.ins) else X
theorem tk_t {X : Rowi} {p : Pk} (h : trksB X = false) : tkG X p = false := by unfold tkG; rw [h]; rfl
theorem tk_p {X : Rowi} {p : Pk} (h : pktB p = false) : tkG X p = false := by unfold tkG; rw [h]; simp
theorem tk_l {X : Rowi} {p : Pk} (h : ¬ p.acks.length = X.length) : tkG X p = false := by unfold tkG; rw [decide_eq_false h]; simp
theorem tk_ok {X : Rowi} {p : Pk} (h1 : trksB X = true) (h2 : pktB p = true) (h3 : p.acks.length = X.length) : tkG X p = true := by unfold tkG; rw [h1, h2, decide_eq_true h3]; rfl
theorem tkB_no {X : Rowi} {p : Pk} (h : tkG X p = false) : tkB X p = false := by unfold tkB; rw [h]; rfl
theorem tkT_no {X : Rowi} {p : Pk} (h : tkG X p = false) : tkT X p = X := by unfold tkT; rw [h]; rfl
theorem tk_yes {X : Rowi} {m : Nat} {tick first : Int} {ins acks : List Int} {sumTick sum time echo : Int} (hm : m < X.length) (h : tkG X ⟨(m : Int), tick, first, ins, acks, sumTick, sum, time, echo⟩ = true) : tkB X ⟨(m : Int), tick, first, ins, acks, sumTick, sum, time, echo⟩ = addB X[m] first ins ∧ tkT X ⟨(m : Int), tick, first, ins, acks, sumTick, sum, time, echo⟩ = X.set m (addT X[m] first ins) := by
  have e : X.getD m [] = X[m] := by rw [List.getD_eq_getElem?_getD, List.getElem?_eq_getElem hm]; rfl
  unfold tkB tkT
  rw [h]
  simp only [Int.toNat_natCast, e]
  exact ⟨rfl, rfl⟩
theorem pkt_fr {fr tick first : Int} {ins acks : List Int} {sumTick sum time echo : Int} (h : pktB ⟨fr, tick, first, ins, acks, sumTick, sum, time, echo⟩ = true) : 0 ≤ fr ∧ fr ≤ (acks.length : Int) - 1 := by
  unfold pktB at h
  simp only [Bool.and_eq_true] at h
  exact (inR_iff _ _ _).1 h.2.2.1
def RetTk (w : World) (X : Rowi) (p : Pk) (e : Ending) (w' : World) : Prop := ∃ v, e = .returned (.tuple #[v, .bool (tkB X p)]) ∧ OwnTT w' w.heap.size w'.heap.size v (tkT X p) ∧ Below w.heap.size w w'
theorem OwnTT.slot {w : World} {lo hi : Nat} {v : Value} {X : Rowi} (h : OwnTT w lo hi v X) {m : Nat} (hm : m < X.length) : ∃ g c u, v = .slice (some ⟨g, 0, none⟩) X.length c ∧ w.cell? ⟨g, m, none⟩ = some u ∧ w.frozen? ⟨g, m, none⟩ = false ∧ lo ≤ g ∧ g < hi := by
  obtain ⟨hlo, hC, hg, us, hl, ho, hr, -⟩ := h
  have ho' := ho
  rcases ho.2 with ⟨rfl, hn⟩ | ⟨g, cap, cur, rfl, hB, hgc, _⟩
  · omega
  · exact ⟨g, cap, us[m]'(by omega), rfl, ownsT_cell ho' rfl (by omega), by simp [World.frozen?, hgc], hB, hg g rfl⟩
theorem set_farB (w : World) (c k : Nat) (u : Value) : FarB c (c + 1) w (w.setCell ⟨c, k, none⟩ u) :=
  ⟨(Below.refl _ _).setCell (p := ⟨c, k, none⟩) (Nat.le_refl _) u, fun j hj _ => Below.heap_setCell _ _ _ j (by show j ≠ c; omega)⟩
end Go.Proofs.Ytgbdpmaajihfdaa
