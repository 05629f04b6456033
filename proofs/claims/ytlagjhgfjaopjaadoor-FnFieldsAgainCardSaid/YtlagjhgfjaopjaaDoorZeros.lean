/-
  Plain mathematics of the runs of zeros; no program in sight.
-/
import Derived.Test.YtlagjhgfjaopjaaDoorText
namespace Go.Proofs.YtlagjhgfjaopjaaDoor
open Go.RowKit
set_option linter.all false

def zrun (l : List UInt8) : List UInt8 := l.takeWhile (· == 0)
def zrest (l : List UInt8) : List UInt8 := l.dropWhile (· == 0)
def orun (l : List UInt8) : List UInt8 := (zrest l).takeWhile (· != 0)
def orest (l : List UInt8) : List UInt8 := (zrest l).dropWhile (· != 0)
theorem runs_eq (l : List UInt8) : l = zrun l ++ (orun l ++ orest l) := by
  unfold zrun orun orest zrest
  rw [List.takeWhile_append_dropWhile, List.takeWhile_append_dropWhile]
theorem orest_lt {l : List UInt8} (h : l ≠ []) : (orest l).length < l.length := by
  have e := congrArg List.length (runs_eq l)
  simp only [List.length_append] at e
  have : 0 < (zrun l).length + (orun l).length := by
    match l, h with
    | c :: r, _ =>
      unfold zrun orun zrest
      by_cases hc : c = 0
      · subst hc; simp; omega
      · have : (c == 0) = false := by simpa using hc
        simp [List.takeWhile_cons, List.dropWhile_cons, hc]
  omega
/-- What PackZeros returns. -/
def packZ (l : List UInt8) : List UInt8 := if h : l = [] then [] else encI ((zrun l).length : Int) ++ packT (orun l) ++ packZ (orest l)
termination_by l.length
decreasing_by exact orest_lt h
theorem packZ_nil : packZ [] = [] := by rw [packZ]; simp
theorem packZ_cons {l : List UInt8} (h : l ≠ []) : packZ l = encI ((zrun l).length : Int) ++ packT (orun l) ++ packZ (orest l) := by rw [packZ, dif_neg h]
theorem takeWhile_all {p : UInt8 → Bool} : ∀ (a b : List UInt8), (∀ x ∈ a, p x = true) → (∀ x, b.head? = some x → p x = false) → (a ++ b).takeWhile p = a ∧ (a ++ b).dropWhile p = b
  | [], [], _, _ => ⟨rfl, rfl⟩
  | [], c :: b, _, h => by
    have := h c rfl
    simp [List.takeWhile_cons, List.dropWhile_cons, this]
  | x :: a, b, ha, hb => by
    have hx := ha x (by simp)
    have ih := takeWhile_all a b (fun y hy => ha y (by simp [hy])) hb
    simp [List.takeWhile_cons, List.dropWhile_cons, hx, ih.1, ih.2]
/-- A run of zeros, a run of others, and what is behind. -/
theorem packZ_runs {l zs os rest : List UInt8} (hl : l = zs ++ (os ++ rest)) (hz : ∀ x ∈ zs, x = 0) (ho : ∀ x ∈ os, x ≠ 0) (hne : zs ++ os ≠ []) (h1 : os = [] → rest = []) (h2 : ∀ x, rest.head? = some x → x = 0) :
    packZ l = encI (zs.length : Int) ++ packT os ++ packZ rest := by
  have hlne : l ≠ [] := by
    rw [hl]; intro e
    simp only [List.append_eq_nil_iff] at e
    exact hne (by rw [e.1, e.2.1]; rfl)
  have hz' : ∀ x ∈ zs, (x == 0) = true := fun x hx => by simpa using hz x hx
  have hh : ∀ x, (os ++ rest).head? = some x → (x == 0) = false := by
    intro x hx
    match os, ho, h1 with
    | [], _, h1 => rw [h1 rfl] at hx; simp at hx
    | o :: os', ho, _ => simp at hx; subst hx; simpa using ho o (by simp)
  have a := takeWhile_all zs (os ++ rest) hz' hh
  have b := takeWhile_all (p := (· != 0)) os rest (fun x hx => by simpa using ho x hx) (fun x hx => by simpa using h2 x hx)
  rw [packZ_cons hlne]
  have e1 : zrun l = zs := by unfold zrun; rw [hl]; exact a.1
  have e2 : zrest l = os ++ rest := by unfold zrest; rw [hl]; exact a.2
  have e3 : orun l = os := by unfold orun; rw [e2]; exact b.1
  have e4 : orest l = rest := by unfold orest; rw [e2]; exact b.2
  rw [e1, e3, e4]
theorem packT_len (l : List UInt8) : (packT l).length ≤ 6 + l.length := by
  unfold packT; rw [List.length_append]
  have : (encI (l.length : Int)).length ≤ 6 := by
    unfold encI; split
    · simp
    · exact encV_len6 (by omega)
  omega
/-- A character's further bytes are no zeros. -/
theorem decode_tail (s : ByteArray) (i k : Nat) (h1 : 1 ≤ k) (h2 : k < (Utf8.decode s i).2) : i + k < s.size ∧ (s.get! (i + k)).toNat / 64 = 2 := by
  have two : ∀ m, (decide (i + m < s.size) && ((s.get! (i + m)).toNat / 64 == 2)) = true → i + m < s.size ∧ (s.get! (i + m)).toNat / 64 = 2 := by
    intro m h; simpa using h
  unfold Utf8.decode at h2
  simp only at h2
  split at h2
  · simp at h2; omega
  · split at h2
    · rename_i hc
      simp only [Bool.and_eq_true] at hc
      split at h2
      · simp only at h2
        obtain rfl : k = 1 := by omega
        exact two 1 (by simpa using hc.2)
      · simp only at h2; omega
    · split at h2
      · rename_i hc
        simp only [Bool.and_eq_true] at hc
        split at h2
        · simp only at h2
          have : k = 1 ∨ k = 2 := by omega
          rcases this with rfl | rfl
          · exact two 1 (by simpa using hc.1.2)
          · exact two 2 (by simpa using hc.2)
        · simp only at h2; omega
      · split at h2
        · rename_i hc
          simp only [Bool.and_eq_true] at hc
          split at h2
          · simp only at h2
            have : k = 1 ∨ k = 2 ∨ k = 3 := by omega
            rcases this with rfl | rfl | rfl
            · exact two 1 (by simpa using hc.1.1.2)
            · exact two 2 (by simpa using hc.1.2)
            · exact two 3 (by simpa using hc.2)
          · simp only at h2; omega
        · simp only at h2; omega
theorem get_at (l : List UInt8) (i : Nat) (h : i < l.length) : (ByteArray.mk l.toArray).get! i = l[i] := by
  simp [ByteArray.get!, h]
/-- The next character: where it is zero, and what it covers. -/
theorem rune_facts {l : List UInt8} {i : Nat} (h : i < l.length) : ((Utf8.decode ⟨l.toArray⟩ i).1 = 0 ↔ l[i] = 0) ∧ 1 ≤ (Utf8.decode ⟨l.toArray⟩ i).2 ∧ i + (Utf8.decode ⟨l.toArray⟩ i).2 ≤ l.length ∧ (l[i] = 0 → (Utf8.decode ⟨l.toArray⟩ i).2 = 1) ∧ (l[i] ≠ 0 → ∀ j (hj : j < l.length), i ≤ j → j < i + (Utf8.decode ⟨l.toArray⟩ i).2 → l[j] ≠ 0) := by
  have hs : i < (ByteArray.mk l.toArray).size := h
  have hb : (ByteArray.mk l.toArray)[i]'hs = l[i] := rfl
  by_cases ha : l[i].toNat < 128
  · have := decode_ascii ⟨l.toArray⟩ i hs (by rw [hb]; exact ha)
    rw [this, hb]
    refine ⟨?_, by simp, by simp; omega, by simp, ?_⟩
    · constructor
      · intro e; apply UInt8.toNat_inj.1; simpa using e
      · intro e; simp [e]
    · intro hne j hj h1 h2
      simp at h2
      have : j = i := by omega
      subst this; exact hne
  · have hh := decode_high ⟨l.toArray⟩ i hs (by rw [hb]; omega)
    have hne : l[i] ≠ 0 := by intro e; rw [e] at ha; simp at ha
    have ht := decode_tail ⟨l.toArray⟩ i
    refine ⟨⟨fun e => by omega, fun e => absurd e hne⟩, hh.2, ?_, fun e => absurd e hne, ?_⟩
    · by_cases h1 : (Utf8.decode ⟨l.toArray⟩ i).2 = 1
      · omega
      · have := (ht ((Utf8.decode ⟨l.toArray⟩ i).2 - 1) (by omega) (by omega)).1
        have hsz : (ByteArray.mk l.toArray).size = l.length := by simp [ByteArray.size]
        omega
    · intro _ j hj h1 h2
      by_cases hji : j = i
      · subst hji; exact hne
      · have := (ht (j - i) (by omega) (by omega)).2
        rw [show i + (j - i) = j by omega, get_at l j hj] at this
        intro e; rw [e] at this; simp at this
end Go.Proofs.YtlagjhgfjaopjaaDoor
