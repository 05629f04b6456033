/-
  FnTold in plain lists: a packet made from nothing acknowledged holds a whole track of at most 35 inputs. No walk of the program.
-/
import Derived.Test.YtgbdpmaajihfdaaTkP
import Derived.Test.YtgbdpmaajihfdaaPkM
import Derived.Test.YtgbdpmaajihfdaaPkO
import Derived.Test.YtgbdpmaajihfdaaDrT
namespace Go.Proofs.Ytgbdpmaajihfdaa
open Go.RowKit
set_option linter.all false
def nones (n : Nat) : Rowi := List.replicate n []
def toldP (X : Rowi) (m : Nat) : Pk := ⟨(m : Int), 0, 0, X.getD m [], lens X, 0, 0, 0, 0⟩
theorem trk_of {x : List Int} (h : Ins x ∧ x.length ≤ 35) : trkB x = true := by
  unfold trkB
  rw [decide_eq_true (by omega : x.length ≤ 400), Bool.true_and]
  unfold allW
  rw [List.all_eq_true]
  intro y hy
  exact (inR_iff _ _ _).2 (h.1 y hy)
section
variable {X : Rowi} {m : Nat} (hT : Trs X) (h1 : 1 ≤ X.length) (h4 : X.length ≤ 4) (ht : trksB X = true) (hm : m < X.length)
include hm
theorem told_get : X.getD m [] = X[m] := by rw [List.getD_eq_getElem?_getD, List.getElem?_eq_getElem hm]; rfl
include hT
theorem told_row : Ins (X.getD m []) ∧ (X.getD m []).length ≤ 35 := by rw [told_get hm]; exact hT _ (List.getElem_mem hm)
include ht
theorem told_mp : mpOk X (m : Int) 0 = true ∧ mpX X (m : Int) 0 = toldP X m := by
  have hr := told_row hT hm
  have hok : mpOk X (m : Int) 0 = true := by
    unfold mpOk
    rw [ht, (inR_iff _ _ _).2 (by omega : (0 : Int) ≤ (m : Int) ∧ (m : Int) ≤ (X.length : Int) - 1), Int.toNat_natCast, (inR_iff _ _ _).2 (by omega : (0 : Int) ≤ 0 ∧ (0 : Int) ≤ ((X.getD m []).length : Int))]; rfl
  refine ⟨hok, ?_⟩
  unfold mpX
  rw [if_pos hok, Int.toNat_natCast, show (0 : Int).toNat = 0 from rfl, List.drop_zero, List.take_of_length_le (by omega)]; rfl
include h1 h4
theorem told_pk : pktB (toldP X m) = true := by
  have hr := told_row hT hm
  have hl : (lens X).length = X.length := by simp [lens]
  have ha : allW 0 400 (lens X) = true := by
    unfold allW lens
    rw [List.all_eq_true]
    intro y hy
    obtain ⟨x, hx, rfl⟩ := List.mem_map.1 hy
    have := (hT x hx).2
    exact (inR_iff _ _ _).2 ⟨by omega, by omega⟩
  have hi : allW 0 15 (X.getD m []) = true := by
    unfold allW
    rw [List.all_eq_true]
    intro y hy
    exact (inR_iff _ _ _).2 (hr.1 y hy)
  unfold pktB toldP
  dsimp only
  rw [hl, (inR_iff _ _ _).2 (by omega : (1 : Int) ≤ (X.length : Int) ∧ (X.length : Int) ≤ 4), ha, (inR_iff _ _ _).2 (by omega : (0 : Int) ≤ (m : Int) ∧ (m : Int) ≤ (X.length : Int) - 1), decide_eq_true (by omega : (X.getD m []).length ≤ 40), hi, (inR_iff _ _ _).2 (by omega : (0 : Int) ≤ 0 ∧ (0 : Int) ≤ 400 - ((X.getD m []).length : Int))]
  decide
theorem told_g (E : Rowi) (hE : E.length = X.length) (he : ∀ y ∈ E, trkB y = true) : tkG E (toldP X m) = true := by
  have hl : (lens X).length = X.length := by simp [lens]
  have h0 : trksB E = true := by
    unfold trksB
    rw [List.all_eq_true.2 he, (inR_iff _ _ _).2 (by omega : (1 : Int) ≤ (E.length : Int) ∧ (E.length : Int) ≤ 4)]; rfl
  unfold tkG
  rw [h0, told_pk hT h1 h4 ht hm, show (toldP X m).acks.length = E.length by rw [hE]; exact hl, decide_eq_true rfl]; rfl
theorem told_first : tkB (nones X.length) (toldP X m) = true ∧ tkT (nones X.length) (toldP X m) = (nones X.length).set m (X.getD m []) := by
  have hr := told_row hT hm
  have hg := told_g hT h1 h4 ht hm (nones X.length) (by simp [nones]) (fun y hy => by rw [(List.mem_replicate.1 hy).2]; decide)
  have e0 : (nones X.length).getD m [] = [] := by
    unfold nones
    rw [List.getD_eq_getElem?_getD, List.getElem?_eq_getElem (by simpa using hm)]; simp
  have hall : addAll [] 0 (X.getD m []) = X.getD m [] := by unfold addAll; simp
  have hb : addB [] 0 (X.getD m []) = true := by
    unfold addB
    rw [show (0 : Int).toNat = 0 from rfl, hall, trk_of hr]
    unfold addSame sameB
    simp [trkB, allW, inR]
  have e1 : (toldP X m).fr.toNat = m := by show (m : Int).toNat = m; omega
  refine ⟨?_, ?_⟩
  · unfold tkB
    rw [hg, e1, e0]; exact hb
  · unfold tkT
    rw [if_pos hg, e1, e0]
    show _ = _
    have : addT [] (toldP X m).first (toldP X m).ins = X.getD m [] := by
      show addT [] 0 (X.getD m []) = _
      unfold addT
      rw [if_pos hb]; exact hall
    rw [this]
theorem told_second : tkB ((nones X.length).set m (X.getD m [])) (toldP X m) = true := by
  have hr := told_row hT hm
  have hg := told_g hT h1 h4 ht hm ((nones X.length).set m (X.getD m [])) (by simp [nones]) (fun y hy => by
    rcases List.mem_or_eq_of_mem_set hy with h | h
    · rw [(List.mem_replicate.1 h).2]; decide
    · rw [h]; exact trk_of hr)
  have e0 : ((nones X.length).set m (X.getD m [])).getD m [] = X.getD m [] := by
    rw [List.getD_eq_getElem?_getD, List.getElem?_set_self (by simpa [nones] using hm)]; rfl
  have e1 : (toldP X m).fr.toNat = m := by show (m : Int).toNat = m; omega
  generalize hx : X.getD m [] = x at *
  have hall : addAll x 0 x = x := by unfold addAll; simp
  unfold tkB
  rw [hg, e1, e0, Bool.true_and]
  show addB x 0 (toldP X m).ins = true
  rw [show (toldP X m).ins = x from hx]
  unfold addB
  rw [show (0 : Int).toNat = 0 from rfl, hall, trk_of hr, (inR_iff _ _ _).2 (by omega : (0 : Int) ≤ 0 ∧ (0 : Int) ≤ (x.length : Int))]
  unfold addSame sameB
  simp
end
end Go.Proofs.Ytgbdpmaajihfdaa
