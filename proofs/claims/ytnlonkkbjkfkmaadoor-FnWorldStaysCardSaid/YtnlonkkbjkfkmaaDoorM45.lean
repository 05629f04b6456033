/-
  Texts of this proof: RwP, PlW.
-/
import Derived.Test.YtnlonkkbjkfkmaaDoorM44
import Derived.Test.YtnlonkkbjkfkmaaDoorM32
namespace Go.Proofs.YtnlonkkbjkfkmaaDoor
open Go.RowKit
set_option linter.all false
theorem worldB_few {x : Wd} (h : worldB x = true) : x.few := by
 have hf := fineX_of h
 obtain ⟨-, h12, -⟩ := levelB_facts hf.1
 exact ⟨by omega, by have := hf.2.1; omega, by have := hf.2.2.2.2.1; omega⟩
theorem fit_fits {L : Rowz} (hg : Good L) {n : Int} (hn : n ≤ 4) {b : Bd} (h : fitB L n b = true) : b.fits := by
 obtain ⟨h0, h1, h2, h3, h4, h5⟩ := fit_parts h
 rw [inR_iff] at h0 h1 h3 h4
 obtain ⟨S, HS⟩ : ∃ S : Nat, sizeI b.kind = (S : Int) := Int.eq_ofNat_of_zero_le (sizeI_range _).1
 rw [HS] at h2
 have hp := blockB_place hg h2
 have hk : b.kind = 0 ∨ b.kind = 1 ∨ b.kind = 2 := by omega
 have h6 : (-1 ≤ b.aim ∧ b.aim ≤ 1) ∧ (0 ≤ b.life ∧ b.life ≤ 3) ∧ (0 ≤ b.timer ∧ b.timer ≤ 25) := by
  rcases hk with hk | hk | hk
  ·obtain ⟨a1, a2, a3, a4, a5⟩ := kind0_facts hk h5
   by_cases e : b.life = 0
   ·have := a4 e; omega
   ·have := a5 e; omega
  ·have := kind1_facts hk h5; omega
  ·unfold kindB at h5
   rw [if_neg (by omega), if_neg (by omega)] at h5
   simp only [Bool.and_eq_true, decide_eq_true_eq] at h5; omega
 have wf : ∀ n : Int, -9223372036854775808 ≤ n → n ≤ 9223372036854775807 → (Lit.int .i64 n).wf = true := fun n h1 h2 => by
  simp only [Lit.wf, Bool.and_eq_true, decide_eq_true_eq]; exact ⟨h1, h2⟩
 exact ⟨wf _ (by omega) (by omega), wf _ (by omega) (by omega), wf _ (by omega) (by omega), wf _ (by omega) (by omega), wf _ (by omega) (by omega), wf _ (by omega) (by omega), wf _ (by omega) (by omega), wf _ (by omega) (by omega), wf _ (by omega) (by omega)⟩
theorem worldB_sane {x : Wd} (h : worldB x = true) (hs : Sane x.rows) : x.sane := by
 have hf := fineX_of h
 refine ⟨hs, by have := hf.2.1; omega, by have := hf.2.2.2.2.1; omega, fun b hb => ?_⟩
 obtain ⟨k, hk, rfl⟩ := List.mem_iff_getElem.1 hb
 exact fit_fits (levelB_facts hf.1) (by have := hf.2.1; omega) (hf.2.2.2.2.2 k hk).1
end Go.Proofs.YtnlonkkbjkfkmaaDoor
namespace Go.Proofs.YtnlonkkbjkfkmaaDoor
open Go.RowKit
set_option linter.all false
theorem play_x {L : Rowz} {n : Nat} {s : Int} {X : Rowi} (h : PlayOk L n s X) : nwX L n s = ⟨L, 0, s, List.replicate n 0, frsS L n⟩ ∧ worldB (nwX L n s) = true := by
 obtain ⟨h1, -, h3, h4, -, -⟩ := h
 have hk : ((n : Nat) : Int) = max 0 (min (n : Int) 5) := by omega
 have e : nwOk L n s = true := by
  unfold nwOk
  rw [h1, (inR_iff _ _ _).2 (by omega : (1 : Int) ≤ (n : Int) ∧ (n : Int) ≤ 4), (inR_iff _ _ _).2 h4]; rfl
 have e2 := nwX_s e hk
 exact ⟨e2, by rw [e2, nw_validS hk]; exact e⟩
end Go.Proofs.YtnlonkkbjkfkmaaDoor
