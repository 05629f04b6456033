/-
  The law on fields that are joined and split again. Condition: what the given row lists.
-/
import Derived.Test.YtlagjhgfjaopjaaDoorDrawF
import Derived.Test.YtlagjhgfjaopjaaDoorSplit
import Derived.Test.YtlagjhgfjaopjaaDoorLstS
namespace Go.Proofs.YtlagjhgfjaopjaaDoor
open Go.RowKit
set_option linter.all false
theorem splitF_len2 (l : List UInt8) : ((splitF l).getD []).length ≤ 24 := by
  cases h : splitF l with
  | none => simp
  | some ls =>
    unfold splitF at h
    split at h
    · cases h
    · rename_i hn
      simp only [Option.some.injEq] at h
      subst h
      exact Nat.le_of_not_lt fun hh => hn (.inr (.inr hh))
/-- Fields, each with a space behind it. -/
def joinF : List (List UInt8) → List UInt8
  | [] => []
  | f :: r => f ++ (32 :: joinF r)
theorem joinF_append (a b : List (List UInt8)) : joinF (a ++ b) = joinF a ++ joinF b := by
  induction a with
  | nil => rfl
  | cons f r ih => simp [joinF, ih]
theorem joinF_snoc (a : List (List UInt8)) (f : List UInt8) : joinF (a ++ [f]) = joinF a ++ (f ++ [32]) := by
  rw [joinF_append]; simp [joinF]
/-- A field: not empty, no space, good bytes. -/
def Fld (f : List UInt8) : Prop := f ≠ [] ∧ (∀ c ∈ f, c ≠ 32) ∧ okB f = true
theorem flds_run (f : List UInt8) : (∀ c ∈ f, c ≠ 32) → ∀ (r cur : List UInt8) (acc : List (List UInt8)), flds (f ++ r) cur acc = flds r (cur ++ f) acc := by
  induction f with
  | nil => intro _ r cur acc; simp
  | cons c f ih =>
    intro h r cur acc
    rw [List.cons_append, flds, if_neg (h c (by simp)), ih (fun d hd => h d (by simp [hd]))]
    simp
theorem flds_join (ls : List (List UInt8)) : (∀ f ∈ ls, Fld f) → ∀ acc, flds (joinF ls) [] acc = acc ++ ls := by
  induction ls with
  | nil => intro _ acc; simp [joinF, flds, addF]
  | cons f r ih =>
    intro h acc
    have hf := h f (by simp)
    rw [joinF, flds_run f hf.2.1, List.nil_append, flds, if_pos rfl, ih (fun g hg => h g (by simp [hg]))]
    unfold addF; rw [if_neg hf.1]; simp
theorem okB_append (a b : List UInt8) : okB (a ++ b) = (okB a && okB b) := by unfold okB; rw [List.all_append]
theorem okB_join (ls : List (List UInt8)) (h : ∀ f ∈ ls, Fld f) : okB (joinF ls) = true := by
  induction ls with
  | nil => rfl
  | cons f r ih =>
    have hf := h f (by simp)
    have hr := ih (fun g hg => h g (by simp [hg]))
    rw [joinF, okB_append, hf.2.2]
    show okB (32 :: joinF r) = true
    have e : okB (32 :: joinF r) = (okB [32] && okB (joinF r)) := okB_append [32] (joinF r)
    rw [e, hr]; rfl
theorem addF_fld {acc : List (List UInt8)} {cur : List UInt8} (h : ∀ f ∈ acc, Fld f) (h1 : ∀ c ∈ cur, c ≠ 32) (h2 : okB cur = true) : ∀ f ∈ addF acc cur, Fld f := by
  unfold addF
  split
  · exact h
  · rename_i hne
    intro f hf
    rcases List.mem_append.1 hf with hf | hf
    · exact h f hf
    · simp only [List.mem_singleton] at hf; subst hf; exact ⟨hne, h1, h2⟩
theorem flds_fld (l : List UInt8) : okB l = true → ∀ (cur : List UInt8) (acc : List (List UInt8)), (∀ f ∈ acc, Fld f) → (∀ c ∈ cur, c ≠ 32) → okB cur = true → ∀ f ∈ flds l cur acc, Fld f := by
  induction l with
  | nil => intro _ cur acc ha h1 h2; simpa [flds] using addF_fld ha h1 h2
  | cons c l ih =>
    intro hok cur acc ha h1 h2
    have e : okB (c :: l) = (okB [c] && okB l) := okB_append [c] l
    rw [e, Bool.and_eq_true] at hok
    rw [flds]
    split
    · exact ih hok.2 [] _ (addF_fld ha h1 h2) (by simp) rfl
    · rename_i hc
      exact ih hok.2 _ acc ha (fun d hd => by
        rcases List.mem_append.1 hd with hd | hd
        · exact h1 d hd
        · simp only [List.mem_singleton] at hd; subst hd; exact hc) (by rw [okB_append, h2, hok.1]; rfl)
theorem splitF_fld {l : List UInt8} {ls : List (List UInt8)} (h : splitF l = some ls) : (∀ f ∈ ls, Fld f) ∧ ls.length ≤ 24 := by
  have hl := splitF_len2 l
  rw [h] at hl
  refine ⟨?_, hl⟩
  unfold splitF at h
  split at h
  · cases h
  · rename_i hn
    simp only [Option.some.injEq] at h
    subst h
    exact flds_fld l (by cases e : okB l with
      | true => rfl
      | false => exact absurd (.inr (.inl e)) hn) [] [] (by simp) (by simp) rfl
theorem split_again {ls : List (List UInt8)} (h : ∀ f ∈ ls, Fld f) (hl : ls.length ≤ 24) (hj : (joinF ls).length ≤ 600) : splitF (joinF ls) = some ls := by
  have e := flds_join ls h []
  rw [List.nil_append] at e
  rw [splitF_some hj (okB_join ls h) (by rw [e]; exact hl), e]
/-- The fields together are no longer than the line. -/
def total (ls : List (List UInt8)) : Nat := (ls.map List.length).sum
theorem total_append (a b : List (List UInt8)) : total (a ++ b) = total a + total b := by simp [total]
theorem joinF_len (ls : List (List UInt8)) : (joinF ls).length = total ls + ls.length := by
  induction ls with
  | nil => rfl
  | cons f r ih => simp only [joinF, total, List.length_append, List.length_cons, List.map_cons, List.sum_cons] at ih ⊢; omega
theorem total_addF (acc : List (List UInt8)) (cur : List UInt8) : total (addF acc cur) = total acc + cur.length := by
  unfold addF; split
  · rename_i h; subst h; simp
  · simp [total]
theorem total_flds (l : List UInt8) : ∀ (cur : List UInt8) (acc : List (List UInt8)), total (flds l cur acc) ≤ total acc + cur.length + l.length := by
  induction l with
  | nil => intro cur acc; rw [flds, total_addF]; simp
  | cons c l ih =>
    intro cur acc
    rw [flds]; split
    · have := ih [] (addF acc cur); rw [total_addF] at this; simp at this ⊢; omega
    · have := ih (cur ++ [c]) acc; simp at this ⊢; omega
theorem splitF_total {l : List UInt8} {ls : List (List UInt8)} (h : splitF l = some ls) : total ls ≤ 600 := by
  unfold splitF at h
  split at h
  · cases h
  · rename_i hn
    simp only [Option.some.injEq] at h
    subst h
    have := total_flds l [] []
    have h6 : l.length ≤ 600 := Nat.le_of_not_lt fun hh => hn (.inl hh)
    simp [total] at this ⊢
    unfold total at *
    omega
set_option maxHeartbeats 4000000 in
theorem lawFieldsAgain (a : Option Addr) (len cap : Nat) (zs : List Int) (w : World) (hr : IsRow .u8 w a len cap zs) (hL : laidMetH Tryd.prog Rows.fnFieldsAgainRow.laid w) :
    Calls Tryd.prog 4 #[.slice a len cap] w fun e w' => e = .returned (.bool true) ∧ Below w.heap.size w w' := by
  rw [MakeChecks.laidMetH_plain _ _ _ (by kernel_rfl)] at hL
  have hT0 : laidMet Tryd.prog [("math/bits.deBruijn32tab", Rows.laid_math_bits_deBruijn32tab), ("math/bits.deBruijn64tab", Rows.laid_math_bits_deBruijn64tab), ("internal/strconv.uint64pow10", Rows.laid_internal_strconv_uint64pow10)] w := hL
  have hT := Tab.mk hT0.tail.tail
  clear hT0 hL
  obtain ⟨hrd, hl⟩ := RdC.of_row hr
  clear hr
  by_cases h : 1048576 < (len : Int)
  · have b1 : decide (1048576 < (len : Int)) = true := by simpa using h
    go_enter Tryd.func4, Tryd.ntmps4
    go_wp2_with (go_at_call 7; refine (big_any hrd hl).mono ?_; rintro e w' ⟨rfl, rfl⟩)
    go_ret
    exact ⟨rfl, Below.refl _ _⟩
  · have b1 : decide (1048576 < (len : Int)) = false := by simpa using h
    go_enter Tryd.func4, Tryd.ntmps4
    go_wp2_with (go_at_call 7; refine (big_any hrd hl).mono ?_; rintro e w' ⟨rfl, rfl⟩)
    refine (drawSplit_any hrd (by omega)).mono ?_
    rintro e w1 ⟨l, hll, rfl, hb1⟩
    have hT1 := hT.below hb1
    have hs1 := hb1.size
    have P1 := fun W => splitFields_spec l W (by omega)
    have P2 := fun W => splitFields_impl l W (by omega)
    unfold SplitPost at P1 P2
    cases hsp : splitF l with
    | none =>
      rw [hsp] at P1 P2
      clear hsp
      simp only [Option.getD_none, Option.isSome_none] at P1 P2
      have h10 : Lib.itoa (-3) = [45, 51] := by decide +kernel
      have hF := fun W h => formatInt_impl (-3) W (by omega) (by omega) h
      rw [h10] at hF
      clear h10
      go_wp2_with (fail)
      refine (P2 _).mono ?_
      rintro e w2 ⟨v1, rfl, o1, hb2⟩
      obtain ⟨a1, c1, rfl⟩ := o1.shape
      have hT2 := hT1.below hb2
      go_wp2_with (fail)
      refine (P1 _).mono ?_
      rintro e w3 ⟨v0, rfl, o0, hb3⟩
      have hT3 := hT2.below hb3
      have hs2 := hb2.size
      go_wp2_with (fail)
      refine (hF _ hT3).mono ?_
      rintro e w4 ⟨rfl, hb4⟩
      go_wp2_with (fail)
      go_ret
      exact ⟨rfl, ((hb1.trans (hb2.mono hs1)).trans (hb3.mono (by omega))).trans (hb4.mono (by have := hb3.size; omega))⟩
    | some ls =>
      obtain ⟨hfl, hlen⟩ := splitF_fld hsp
      have htot := splitF_total hsp
      rw [hsp] at P1 P2
      clear hsp
      simp only [Option.getD_some, Option.isSome_some] at P1 P2
      go_wp2_with (fail)
      refine (P2 _).mono ?_
      rintro e w2 ⟨v1, rfl, o1, hb2⟩
      have r1 := o1.rd
      clear o1
      go_wp2_with (fail)
      refine (P1 _).mono ?_
      rintro e w3 ⟨v0, rfl, o0, hb3⟩
      have r13 := r1.keep hb3
      have hs2 := hb2.size
      have hs3 := hb3.size
      have hb13 := (hb1.trans (hb2.mono hs1)).trans (hb3.mono (by omega))
      have hs13 := hb13.size
      clear r1 o0 hb2 hb3 P1 P2 hb1 hT hT1
      obtain ⟨a1, c1, rfl, r1c⟩ := id r13
      have hsum : ∀ k, (joinF (ls.take k)).length ≤ 624 := fun k => by
        have h1 := joinF_len (ls.take k)
        have h2 : total (ls.take k) ≤ total ls := by
          have : total ls = total (ls.take k) + total (ls.drop k) := by
            rw [← total_append, List.take_append_drop]
          omega
        have h3 : (ls.take k).length ≤ 24 := by rw [List.length_take]; omega
        omega
      go_wp2_with (fail)
      go_loopw [8, 9] (fun s i wr => ∃ (k : Nat), k ≤ ls.length ∧ i = .int .i64 (k : Int) ∧ s = .string ⟨(joinF (ls.take k)).toArray⟩ ∧ wr = w3) (fun _ i _ => ls.length - (intOf i).toNat)
      case atStart => exact ⟨0, Nat.zero_le _, rfl, rfl, rfl⟩
      case round =>
        obtain ⟨k, hk, rfl, rfl, rfl⟩ := hrel
        by_cases hkl : k < ls.length
        · obtain ⟨b, off, rfl, hc⟩ := r1c.resolve_left (by intro e; rw [e] at hkl; simp at hkl)
          have c2 := hc k hkl
          obtain ⟨f, hf⟩ : ∃ f, f = ls[k] := ⟨_, rfl⟩
          rw [← hf] at c2
          have hj : joinF (ls.take (k + 1)) = joinF (ls.take k) ++ f ++ [32] := by
            rw [List.take_succ_eq_append_getElem hkl, joinF_snoc, ← hf, List.append_assoc]
          have HJ := Lib.hid hj
          have h1 := hsum k
          have h2 := hsum (k + 1)
          rw [hj] at h2
          have hfl2 : f.length ≤ 624 := by simp at h2; omega
          have hkk : (k : Int) < (ls.length : Int) := by omega
          have hff := Lib.hid hf
          have HR := Lib.hid r13
          clear hc r1c hj h2 hf r13
          generalize joinF (ls.take k) = x at h1 HJ ⊢
          go_wp2_with (fail)
          go_roundw
          case rel => exact ⟨k + 1, by omega, by go_num, by rw [HJ.out, cat_mk, cat_mk], by first | rfl | trivial⟩
          case measure => simp [intOf]; omega
        · have e : k = ls.length := by omega
          subst e
          have h1 := hsum ls.length
          rw [List.take_of_length_le (Nat.le_refl _)] at h1
          rw [List.take_of_length_le (Nat.le_refl _)]
          have hag := split_again hfl hlen
          clear hsum r1c
          have HFL := Lib.hid hfl
          clear hfl
          generalize joinF ls = x at h1 hag ⊢
          have P3 := fun W => splitFields_impl x W (by omega)
          by_cases hx : 600 < x.length
          · have z1 : decide ((600 : Int) < (x.length : Int)) = true := by simp; omega
            have HR := Lib.hid r13
            clear r13 hag
            go_wp2_with (fail)
            refine (P3 _).mono ?_
            rintro e w4 ⟨v2, rfl, o2, hb4⟩
            go_wp2_with (fail)
            go_ret
            exact ⟨rfl, hb13.trans (hb4.mono hs13)⟩
          · have z1 : decide ((600 : Int) < (x.length : Int)) = false := by simp; omega
            unfold SplitPost at P3
            rw [hag (by omega)] at P3
            simp only [Option.getD_some, Option.isSome_some] at P3
            clear hag
            go_wp2_with (fail)
            refine (P3 _).mono ?_
            rintro e w4 ⟨v2, rfl, o2, hb4⟩
            have r2 := o2.rd
            have r14 := r13.keep hb4
            go_wp2_with (fail)
            refine (sameTexts_same r14 r2 (by omega)).mono ?_
            rintro e w5 ⟨rfl, n5, rfl⟩
            go_wp2_with (fail)
            go_ret
            exact ⟨rfl, (hb13.trans (hb4.mono hs13)).trans ⟨rfl, rfl, rfl, Nat.le_refl _, fun _ _ => rfl⟩⟩
end Go.Proofs.YtlagjhgfjaopjaaDoor
