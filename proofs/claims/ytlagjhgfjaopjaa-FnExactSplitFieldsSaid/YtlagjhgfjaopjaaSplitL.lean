/-
  The law on SplitFields. No condition.
-/
import Derived.Test.YtlagjhgfjaopjaaSplit
import Derived.Test.YtlagjhgfjaopjaaLstS
namespace Go.Proofs.Ytlagjhgfjaopjaa
open Go.RowKit
set_option linter.all false
theorem below_drewN (w : World) (n : Nat) : Below w.heap.size w (w.drewN n) := ⟨rfl, rfl, rfl, Nat.le_refl _, fun _ _ => rfl⟩
theorem flds_len_some {l : List UInt8} {ls : List (List UInt8)} (h : splitF l = some ls) : ls.length ≤ 24 := by
  unfold splitF at h
  split at h
  · cases h
  · rename_i hn
    simp only [Option.some.injEq] at h
    subst h
    exact Nat.le_of_not_lt fun hh => hn (.inr (.inr hh))
theorem splitF_len (l : List UInt8) : ((splitF l).getD []).length ≤ 24 := by
  cases h : splitF l with
  | none => simp
  | some ls => simpa using flds_len_some h
set_option maxHeartbeats 4000000 in
theorem lawSplitFields (s : ByteArray) (hs : s.size ≤ maxLen) (w : World) :
    Calls Try.prog 3 #[.string s] w fun e w' => e = .returned (.bool true) ∧ Below w.heap.size w w' := by
  unfold maxLen at hs
  obtain ⟨l, rfl⟩ : ∃ l : List UInt8, s = ⟨l.toArray⟩ := ⟨s.data.toList, rfl⟩
  have hs' : l.length ≤ 9223372036854775807 := hs
  clear hs
  by_cases h : 1048576 < l.length
  · go_enter Try.func3, Try.ntmps3
    go_wp2_with (fail)
    go_ret
    exact ⟨rfl, Below.refl _ _⟩
  · have h' : l.length ≤ 1048576 := by omega
    clear h
    have hlen := splitF_len l
    have P1 := fun W => splitFields_spec l W hs'
    have P2 := fun W => splitFields_impl l W hs'
    unfold SplitPost at P1 P2
    generalize (splitF l).getD [] = ls at hlen P1 P2
    generalize (splitF l).isSome = ok at P1 P2
    go_enter Try.func3, Try.ntmps3
    go_wp2_with (fail)
    refine (P1 _).mono ?_
    rintro e w1 ⟨v0, rfl, o0, hb1⟩
    have r0 := o0.rd
    clear o0
    have hs1 := hb1.size
    go_wp2_with (fail)
    refine (P2 _).mono ?_
    rintro e w2 ⟨v1, rfl, o1, hb2⟩
    have w2a := o1.wr
    have r02 := r0.keep hb2
    clear o1
    have hs2 := hb2.size
    go_wp2_with (fail)
    refine (eqStringS_same w2a.rd r02 (by omega)).mono ?_
    rintro e w3 ⟨rfl, n3, rfl⟩
    have hb3 := below_drewN w2 n3
    have w3a := w2a.keep hb3
    have r03 := r0.keep (hb2.trans (hb3.mono hs2))
    have hb23 := hb2.trans (hb3.mono hs2)
    clear hb2 hb3 w2a r02
    generalize w2.drewN n3 = W3 at w3a r03 hb23 ⊢
    have hs3 := hb23.size
    cases ok
    all_goals
      go_wp2_with (fail)
      refine (markStringS_any w3a hs3 (by omega) 1 (by omega) (by omega)).mono ?_
      rintro e w4 ⟨rfl, m4, hb4⟩
      have hb24 := hb23.trans hb4
      have r04 := r0.keep hb24
      have hs4 := hb24.size
      have e4 : ((1 + ls.length : Nat) : Int) = 1 + (ls.length : Int) := by omega
      have hlen4 : (ls.length : Int) ≤ 24 := by omega
      go_wp2_with (fail)
      refine (heldStringS_any ls.length 1 m4.rd (by omega) (by omega) (by omega)).mono ?_
      rintro e w5 ⟨rfl, hb5⟩
      have m5 := m4.keep hb5
      have hb25 := hb24.trans (hb5.mono hs4)
      have r05 := r0.keep hb25
      have hs5 := hb5.size
      go_wp2_with (fail)
      refine (P2 _).mono ?_
      rintro e w6 ⟨v2, rfl, o2, hb6⟩
      have m6 := m5.keep hb6
      have hb26 := hb25.trans (hb6.mono (by omega))
      have r06 := r0.keep hb26
      have r2 := o2.rd
      clear o2
      have hs6 := hb6.size
      go_wp2_with (fail)
      refine (eqStringS_same r2 r06 (by omega)).mono ?_
      rintro e w7 ⟨rfl, n7, rfl⟩
      have hb7 := below_drewN w6 n7
      have m7 := m6.keep hb7
      have hb27 := hb26.trans (hb7.mono (by omega))
      generalize w6.drewN n7 = W7 at m7 hb27 ⊢
      have hs7 := hb27.size
      go_wp2_with (fail)
      refine (heldStringS_any ls.length 1 m7.rd (by omega) (by omega) (by omega)).mono ?_
      rintro e w8 ⟨rfl, hb8⟩
      have hb28 := hb27.trans (hb8.mono (by omega))
      go_wp2_with (fail)
      go_ret
      exact ⟨rfl, hb1.trans (hb28.mono hs1)⟩
end Go.Proofs.Ytlagjhgfjaopjaa
