/-
  RowsOf: the contracts of the model and of the program. Lists of at most 2^20 tracks and inputs.
-/
import Derived.Test.YtlffkcmbeolohaaRat
import Derived.Test.YtlffkcmbeolohaaOrr
namespace Go.Proofs.Ytlffkcmbeolohaa
open Go.RowKit
set_option linter.all false
def RetRR (w : World) (Y : Rowi) (e : Ending) (w' : World) : Prop := ∃ v, e = .returned v ∧ OwnRR w' w.heap.size w'.heap.size v Y ∧ Below w.heap.size w w'
theorem OwnRR.down {w : World} {B B' C : Nat} {v : Value} {X : Rowi} (h : OwnRR w B C v X) (hB : B' ≤ B) : OwnRR w B' C v X := by
  obtain ⟨hC, hg, us, ⟨hl, T, h0, hm, hT, hr⟩, ho⟩ := h
  refine ⟨hC, hg, us, ⟨hl, T, by omega, hm, hT, hr⟩, ?_⟩
  obtain ⟨h1, h2⟩ := ho
  refine ⟨h1, ?_⟩
  rcases h2 with h2 | ⟨g, cap, cur, rfl, hBg, r⟩
  · exact .inl h2
  · exact .inr ⟨g, cap, cur, rfl, by omega, r⟩
theorem totalR_le {X : Rowi} {m : Nat} (h : ∀ x ∈ X, x.length ≤ m) : totalR X ≤ m * X.length := by
  induction X with
  | nil => simp [totalR]
  | cons a X ih =>
    rw [totalR_cons, List.length_cons, Nat.mul_succ]
    have h1 := h a (by simp)
    have h2 := ih fun x hx => h x (by simp [hx])
    omega
theorem minN_le (xs : List Int) : ∀ k, minN xs k ≤ xs.headD 0
  | 0 => Int.le_refl _
  | k + 1 => by
    have := minN_le xs k
    unfold minN; split <;> omega
theorem known_400 {X : Rowi} (h : trksB X = true) : knownI X ≤ 400 := by
  obtain ⟨h1, _, h3⟩ := trksB_facts h
  rw [known_ok h]
  refine Int.le_trans (minN_le _ _) ?_
  match X, h1, h3 with
  | x :: X, _, h3 =>
    have := (trkB_facts (h3 x (by simp))).1
    simp [lens]; omega
def rofOk (X : Rowi) (a b : Int) : Bool := trksB X && decide (0 ≤ a) && decide (b ≤ knownI X)
def rofF (X : Rowi) (a b : Int) : Rowi := (List.range (b - a).toNat).map fun (i : Nat) => rowL X (a + (i : Int))
def rofR (X : Rowi) (a b : Int) : Rowi := if rofOk X a b then rofF X a b else []
theorem rof_no {X : Rowi} {a b : Int} (h : trksB X = false ∨ a < 0 ∨ knownI X < b) : rofR X a b = [] := by
  have : rofOk X a b = false := by
    unfold rofOk
    rcases h with h | h | h
    · rw [h]; rfl
    · rw [show decide (0 ≤ a) = false by simp; exact h]; simp
    · rw [show decide (b ≤ knownI X) = false by simp; exact h]; simp
  unfold rofR; rw [this]; rfl
theorem rof_yes {X : Rowi} {a b : Int} (h1 : trksB X = true) (h2 : 0 ≤ a) (h3 : b ≤ knownI X) : rofR X a b = rofF X a b := by
  unfold rofR rofOk; rw [h1, decide_eq_true h2, decide_eq_true h3]; rfl
theorem rofF_len (X : Rowi) (a b : Int) : (rofF X a b).length = (b - a).toNat := by unfold rofF; simp
theorem rofF_at {X : Rowi} {p : Nat} {b : Int} {k : Nat} (h : k < (rofF X (p : Int) b).length) : (rofF X (p : Int) b)[k] = rowL X ((p + k : Nat) : Int) := by unfold rofF; simp
theorem rofR_facts (X : Rowi) (a b : Int) : (rofR X a b).length ≤ 400 ∧ (∀ x ∈ rofR X a b, x.length ≤ 4) := by
  unfold rofR
  split
  · rename_i h
    unfold rofOk at h
    rw [Bool.and_eq_true, Bool.and_eq_true, decide_eq_true_eq, decide_eq_true_eq] at h
    have h4 := known_400 h.1.1
    have h5 := (trksB_facts h.1.1).2.1
    refine ⟨by rw [rofF_len]; omega, fun x hx => ?_⟩
    unfold rofF at hx
    rw [List.mem_map] at hx
    obtain ⟨i, _, rfl⟩ := hx
    rw [rowL_len]; exact h5
  · exact ⟨by simp, fun x hx => by simp at hx⟩
theorem ratL_good {X : Rowi} {t : Nat} (h : trksB X = true) : ratL X (t : Int) = rowL X (t : Int) := (rat_yes h).1
end Go.Proofs.Ytlffkcmbeolohaa
