/-
  SplitFields: the plain mathematics; the contracts of the program and of the model. No condition.
-/
import Derived.Test.YtlagjhgfjaopjaaDoorStrs
import Derived.WalkMore
namespace Go.Proofs.YtlagjhgfjaopjaaDoor
open Go.RowKit
set_option linter.all false

def addF (acc : List (List UInt8)) (cur : List UInt8) : List (List UInt8) := if cur = [] then acc else acc ++ [cur]
def flds : List UInt8 → List UInt8 → List (List UInt8) → List (List UInt8)
  | [], cur, acc => addF acc cur
  | c :: l, cur, acc => if c = 32 then flds l [] (addF acc cur) else flds l (cur ++ [c]) acc
def okB (l : List UInt8) : Bool := l.all fun c => decide (32 ≤ c.toNat) && decide (c.toNat ≤ 126)
def splitF (l : List UInt8) : Option (List (List UInt8)) := if 600 < l.length ∨ okB l = false ∨ 24 < (flds l [] []).length then none else some (flds l [] [])
/-- What is known at byte k, the present field from byte b on. -/
def FAt (l : List UInt8) (k b : Nat) (acc : List (List UInt8)) : Prop := b ≤ k ∧ k ≤ l.length ∧ flds (l.drop k) ((l.drop b).take (k - b)) acc = flds l [] [] ∧ acc.length ≤ k ∧ okB (l.take k) = true
theorem FAt.zero (l : List UInt8) : FAt l 0 0 [] := ⟨Nat.le_refl _, Nat.zero_le _, by simp, Nat.le_refl _, by simp [okB]⟩
theorem okB_snoc {l : List UInt8} {k : Nat} (hk : k < l.length) : okB (l.take (k + 1)) = (okB (l.take k) && (decide (32 ≤ l[k].toNat) && decide (l[k].toNat ≤ 126))) := by
  rw [List.take_succ_eq_append_getElem hk]; unfold okB; rw [List.all_append, List.all_cons, List.all_nil, Bool.and_true]
theorem okB_bad {l : List UInt8} {k : Nat} (hk : k < l.length) (h : ¬ (32 ≤ l[k].toNat ∧ l[k].toNat ≤ 126)) : okB l = false := by
  rw [Bool.eq_false_iff]
  intro hall
  have := List.all_eq_true.1 hall l[k] (List.getElem_mem hk)
  simp only [Bool.and_eq_true, decide_eq_true_eq] at this
  exact h this
theorem addF_len (acc : List (List UInt8)) (cur : List UInt8) : (addF acc cur).length ≤ acc.length + 1 := by unfold addF; split <;> simp
theorem take_more {l : List UInt8} {b k : Nat} (hb : b ≤ k) (hk : k < l.length) : (l.drop b).take (k + 1 - b) = (l.drop b).take (k - b) ++ [l[k]] := by
  rw [show k + 1 - b = (k - b) + 1 by omega, List.take_succ_eq_append_getElem (by rw [List.length_drop]; omega), List.getElem_drop]
  congr 3; omega
theorem FAt.space {l : List UInt8} {k b : Nat} {acc : List (List UInt8)} (h : FAt l k b acc) (hk : k < l.length) (hc : l[k].toNat = 32) : FAt l (k + 1) (k + 1) (addF acc ((l.drop b).take (k - b))) := by
  obtain ⟨h1, h2, h3, h4, h5⟩ := h
  have e32 : l[k] = 32 := by rw [← UInt8.toNat_inj]; exact hc
  refine ⟨Nat.le_refl _, by omega, ?_, by have := addF_len acc ((l.drop b).take (k - b)); omega, by rw [okB_snoc hk, h5, hc]; rfl⟩
  rw [← h3, List.drop_eq_getElem_cons hk, flds, if_pos e32]
  simp
theorem FAt.other {l : List UInt8} {k b : Nat} {acc : List (List UInt8)} (h : FAt l k b acc) (hk : k < l.length) (hc : l[k].toNat ≠ 32) (h0 : 32 ≤ l[k].toNat) (h1' : l[k].toNat ≤ 126) : FAt l (k + 1) b acc := by
  obtain ⟨h1, h2, h3, h4, h5⟩ := h
  have e32 : ¬ l[k] = 32 := fun e => hc (by rw [e]; rfl)
  refine ⟨by omega, by omega, ?_, by omega, by rw [okB_snoc hk, h5]; simp [h0, h1']⟩
  rw [← h3, List.drop_eq_getElem_cons hk, flds, if_neg e32, take_more h1 hk]
theorem FAt.done {l : List UInt8} {b : Nat} {acc : List (List UInt8)} (h : FAt l l.length b acc) : addF acc (l.drop b) = flds l [] [] ∧ okB l = true := by
  obtain ⟨h1, h2, h3, h4, h5⟩ := h
  rw [List.drop_of_length_le (Nat.le_refl _), flds, List.take_of_length_le (by rw [List.length_drop]; omega)] at h3
  rw [List.take_of_length_le (Nat.le_refl _)] at h5
  exact ⟨h3, h5⟩
/-- What SplitFields leaves. -/
def SplitPost (l : List UInt8) (w : World) (e : Ending) (w' : World) : Prop := ∃ v, e = .returned (.tuple #[v, .bool (splitF l).isSome]) ∧ OwnS w' w.heap.size v ((splitF l).getD []) ∧ Below w.heap.size w w'
theorem appendField_any {B : Nat} {v : Value} {acc : List (List UInt8)} {w : World} (hown : OwnS w B v acc) (hB : B ≤ w.heap.size) (run : List UInt8) (hl : acc.length ≤ 1000000) :
    Calls Tryd.prog 27 #[v, .string ⟨run.toArray⟩] w fun e w' => ∃ v', e = .returned v' ∧ OwnS w' B v' (addF acc run) ∧ Below B w w' := by
  by_cases h : run = []
  · subst h
    go_enter Tryd.func27, Tryd.ntmps27
    go_wp2_with (fail)
    go_ret
    exact ⟨v, rfl, by simpa [addF] using hown, Below.refl _ _⟩
  · have HF := Lib.hid (show addF acc run = acc ++ [run] by unfold addF; rw [if_neg h])
    have hq : (run == []) = false := by simpa using h
    clear h
    go_enter Tryd.func27, Tryd.ntmps27
    go_wp2_with (at_builtin; refine app_str rfl _ _ rfl B v acc rfl hown run rfl (by omega) hB ?_; intro v1 w1 hown1 hb1)
    go_ret
    exact ⟨v1, rfl, by rw [HF.out]; exact hown1, hb1⟩
theorem splitF_long {l : List UInt8} (h : 600 < l.length) : splitF l = none := by unfold splitF; rw [if_pos (.inl h)]
theorem splitF_bad {l : List UInt8} (h : okB l = false) : splitF l = none := by unfold splitF; rw [if_pos (.inr (.inl h))]
theorem splitF_many {l : List UInt8} (h : 24 < (flds l [] []).length) : splitF l = none := by unfold splitF; rw [if_pos (.inr (.inr h))]
theorem splitF_some {l : List UInt8} (h1 : l.length ≤ 600) (h2 : okB l = true) (h3 : (flds l [] []).length ≤ 24) : splitF l = some (flds l [] []) := by
  unfold splitF; rw [if_neg]; rintro (h | h | h)
  · omega
  · rw [h2] at h; cases h
  · omega
theorem split_no {l : List UInt8} {w w' : World} (h : splitF l = none) (hb : Below w.heap.size w w') : SplitPost l w (.returned (.tuple #[.slice none 0 0, .bool false])) w' :=
  ⟨_, by rw [h]; rfl, by rw [h]; exact OwnS.nil _ _, hb⟩
theorem split_no2 {l : List UInt8} {w w' : World} {v : Value} (h : splitF l = none) (hv : OwnS w' w.heap.size v []) (hb : Below w.heap.size w w') : SplitPost l w (.returned (.tuple #[v, .bool false])) w' :=
  ⟨_, by rw [h]; rfl, by rw [h]; exact hv, hb⟩
theorem split_yes {l : List UInt8} {ls : List (List UInt8)} {w w' : World} {v : Value} (h : splitF l = some ls) (ho : OwnS w' w.heap.size v ls) (hb : Below w.heap.size w w') : SplitPost l w (.returned (.tuple #[v, .bool true])) w' :=
  ⟨v, by rw [h]; rfl, by rw [h]; exact ho, hb⟩
set_option maxHeartbeats 4000000 in
theorem splitFields_impl (l : List UInt8) (w : World) (hs : l.length ≤ 9223372036854775807) :
    Calls Tryd.prog 13 #[.string ⟨l.toArray⟩] w (SplitPost l w) := by
  by_cases h1 : 600 < l.length
  · have HF := Lib.hid (splitF_long h1)
    go_enter Tryd.func13, Tryd.ntmps13
    go_wp2_with (fail)
    go_step3
    go_wp2_with (fail)
    try rw [Exit.noGoto_ret]
    go_ret2
    exact split_no HF.out (Below.refl _ _)
  · have h1' : l.length ≤ 600 := by omega
    clear h1
    go_enter Tryd.func13, Tryd.ntmps13
    go_wp2_with (fail)
    go_step3
    go_wp2_with (fail)
    go_step3
    go_wp2_with (fail)
    go_loopw [4, 5, 6] (fun v b i wr => ∃ (k n : Nat) (acc : List (List UInt8)), b = .int .i64 (n : Int) ∧ i = .int .i64 (k : Int) ∧ FAt l k n acc ∧ OwnS wr w.heap.size v acc ∧ Below w.heap.size w wr) (fun _ _ i _ => l.length - (intOf i).toNat)
    case atStart => exact ⟨0, 0, [], rfl, rfl, FAt.zero l, OwnS.nil _ _, Below.refl _ _⟩
    case round =>
      obtain ⟨k, n, acc, rfl, rfl, hat, hown, hbel⟩ := hrel
      have hB := hbel.size
      obtain ⟨hnk, hkl0, -, hak, -⟩ := id hat
      by_cases hkl : k < l.length
      · obtain ⟨c, hc⟩ : ∃ c, c = l[k] := ⟨_, rfl⟩
        have hix : (ByteArray.mk l.toArray)[k]'hkl = c := hc.symm
        have hlt : (k : Int) < (l.length : Int) := by omega
        have hc255 : (c.toNat : Int) ≤ 255 := by have := c.toNat_lt; omega
        have hidx : ∀ W, (Instr.index 9 (.string ⟨l.toArray⟩) (.int .i64 (k : Int))).run Tryd.prog W = .ok (.int .u8 (c.toNat : Int)) W := fun W => run_at W hkl hix
        by_cases c1 : c.toNat < 32
        · have HF := Lib.hid (splitF_bad (okB_bad hkl (by rw [← hc]; omega)))
          have z1 : decide ((c.toNat : Int) < 32) = true := by simp; omega
          clear hc hat c1 hix
          go_wp2_with (fail)
          try rw [Exit.noGoto_ret]
          go_ret2
          exact split_no HF.out hbel
        · have z1 : decide ((c.toNat : Int) < 32) = false := by simp; omega
          by_cases c2 : 126 < c.toNat
          · have HF := Lib.hid (splitF_bad (okB_bad hkl (by rw [← hc]; omega)))
            have z2 : decide (126 < (c.toNat : Int)) = true := by simp; omega
            clear hc hat c1 c2 hix
            go_wp2_with (fail)
            try rw [Exit.noGoto_ret]
            go_ret2
            exact split_no HF.out hbel
          · have z2 : decide (126 < (c.toNat : Int)) = false := by simp; omega
            by_cases c3 : c.toNat = 32
            · have HN := Lib.hid (hat.space hkl (by rw [← hc]; exact c3))
              have z3 : ((c.toNat : Int) == 32) = true := by simp; omega
              have hcut := fun W => run_cut (l := l) hnk hkl0 W
              have hao : acc.length ≤ 1000000 := by omega
              clear hc hat hix c1 c2 c3
              generalize hx : (l.drop n).take (k - n) = x at HN hcut
              clear hx
              go_wp2_with (go_at_call 27; refine (appendField_any hown hB x hao).mono ?_; rintro e w1 ⟨v1, rfl, hown1, hb1⟩)
              go_roundw
              case rel => exact ⟨k + 1, k + 1, _, by go_num, by go_num, HN.out, hown1, hbel.trans hb1⟩
              case measure => simp [intOf] <;> omega
            · have HN := Lib.hid (hat.other hkl (by rw [← hc]; exact c3) (by rw [← hc]; omega) (by rw [← hc]; omega))
              have z3 : ((c.toNat : Int) == 32) = false := by simp; omega
              clear hc hat hix c1 c2 c3
              go_wp2_with (fail)
              go_roundw
              case rel => exact ⟨k + 1, n, acc, rfl, by go_num, HN.out, hown, hbel⟩
              case measure => simp [intOf] <;> omega
      · have e : k = l.length := by omega
        subst e
        obtain ⟨hd1, hd2⟩ := hat.done
        have hcut := fun W => run_from l n (by omega) W
        have hao : acc.length ≤ 1000000 := by omega
        have hfl := addF_len acc (l.drop n)
        clear hat
        generalize l.drop n = x at hd1 hcut hfl
        by_cases hm : 24 < (addF acc x).length
        · have HF := Lib.hid (splitF_many (l := l) (by rw [← hd1]; exact hm))
          have z4 : decide ((24 : Int) < ((addF acc x).length : Int)) = true := by simp; omega
          clear hd1 hd2
          have hap := fun W h1 h2 => appendField_any (w := W) (B := w.heap.size) (v := u4) h1 h2 x hao
          generalize addF acc x = y at hm z4 hap
          go_wp2_with (go_at_call 27; refine (hap _ hown hB).mono ?_; rintro e w1 ⟨v1, rfl, hown1, hb1⟩; obtain ⟨ao, co, rfl⟩ := hown1.shape)
          try rw [Exit.noGoto_ret]
          go_ret2
          exact split_no HF.out (hbel.trans hb1)
        · have HF := Lib.hid (splitF_some (l := l) h1' hd2 (by rw [← hd1]; omega))
          rw [← hd1] at HF
          have z4 : decide ((24 : Int) < ((addF acc x).length : Int)) = false := by simp; omega
          clear hd1 hd2
          have hap := fun W h1 h2 => appendField_any (w := W) (B := w.heap.size) (v := u4) h1 h2 x hao
          generalize addF acc x = y at hm z4 hap HF
          go_wp2_with (go_at_call 27; refine (hap _ hown hB).mono ?_; rintro e w1 ⟨v1, rfl, hown1, hb1⟩; obtain ⟨ao, co, rfl⟩ := hown1.shape)
          try rw [Exit.noGoto_ret]
          go_ret2
          exact split_yes HF.out hown1 (hbel.trans hb1)
set_option maxHeartbeats 4000000 in
theorem splitFields_spec (l : List UInt8) (w : World) (hs : l.length ≤ 9223372036854775807) :
    Calls Tryd.prog 14 #[.string ⟨l.toArray⟩] w (SplitPost l w) := by
  by_cases h1 : 600 < l.length
  · have HF := Lib.hid (splitF_long h1)
    go_enter Tryd.func14, Tryd.ntmps14
    go_wp2_with (fail)
    go_ret2
    exact split_no2 HF.out (OwnS.made w #[] w.heap.size (Nat.le_refl _) (by simp [maxLen])) ((Below.refl _ _).alloc (Nat.le_refl _) _)
  · have h1' : l.length ≤ 600 := by omega
    clear h1
    go_enter Tryd.func14, Tryd.ntmps14
    go_wp2_with (fail)
    go_loopw [4, 5, 6] (fun v b i wr => ∃ (k n : Nat) (acc : List (List UInt8)), b = .int .i64 (n : Int) ∧ i = .int .i64 (k : Int) ∧ ((k ≤ l.length ∧ FAt l k n acc) ∨ (k = l.length + 1 ∧ acc = flds l [] [] ∧ okB l = true ∧ acc.length ≤ 1000000)) ∧ OwnS wr w.heap.size v acc ∧ Below w.heap.size w wr) (fun _ _ i _ => l.length + 1 - (intOf i).toNat)
    case atStart => exact ⟨0, 0, [], rfl, rfl, .inl ⟨Nat.zero_le _, FAt.zero l⟩, OwnS.made w #[] w.heap.size (Nat.le_refl _) (by simp [maxLen]), (Below.refl _ _).alloc (Nat.le_refl _) _⟩
    case round =>
      obtain ⟨k, n, acc, rfl, rfl, hat | ⟨rfl, hacc, hok, hal⟩, hown, hbel⟩ := hrel
      · obtain ⟨hkl1, hat⟩ := hat
        have hB := hbel.size
        obtain ⟨hnk, hkl0, -, hak, -⟩ := id hat
        by_cases hkl : k < l.length
        · obtain ⟨c, hc⟩ : ∃ c, c = l[k] := ⟨_, rfl⟩
          have hix : (ByteArray.mk l.toArray)[k]'hkl = c := hc.symm
          have hlt : (k : Int) < (l.length : Int) := by omega
          have hc255 : (c.toNat : Int) ≤ 255 := by have := c.toNat_lt; omega
          have hidx : ∀ W, (Instr.index 9 (.string ⟨l.toArray⟩) (.int .i64 (k : Int))).run Tryd.prog W = .ok (.int .u8 (c.toNat : Int)) W := fun W => run_at W hkl hix
          by_cases c1 : c.toNat < 32
          · have HF := Lib.hid (splitF_bad (okB_bad hkl (by rw [← hc]; omega)))
            have z1 : decide ((c.toNat : Int) < 32) = true := by simp; omega
            clear hc hat c1 hix
            go_wp2_with (fail)
            go_ret2
            exact split_no2 HF.out (OwnS.made _ #[] _ hB (by simp [maxLen])) (hbel.alloc hB _)
          · have z1 : decide ((c.toNat : Int) < 32) = false := by simp; omega
            by_cases c2 : 126 < c.toNat
            · have HF := Lib.hid (splitF_bad (okB_bad hkl (by rw [← hc]; omega)))
              have z2 : decide (126 < (c.toNat : Int)) = true := by simp; omega
              clear hc hat c1 c2 hix
              go_wp2_with (fail)
              go_ret2
              exact split_no2 HF.out (OwnS.made _ #[] _ hB (by simp [maxLen])) (hbel.alloc hB _)
            · have z2 : decide (126 < (c.toNat : Int)) = false := by simp; omega
              by_cases c3 : c.toNat = 32
              · have hsp := hat.space hkl (by rw [← hc]; exact c3)
                have z3 : ((c.toNat : Int) != 32) = false := by simp; omega
                have hao : acc.length + 1 ≤ 8796093022208 := by omega
                by_cases hne : n < k
                · have hcut := fun W => run_cut (l := l) hnk hkl0 W
                  have hx0 : (l.drop n).take (k - n) ≠ [] := by
                    intro e; have := congrArg List.length e; simp at this; omega
                  unfold addF at hsp
                  rw [if_neg hx0] at hsp
                  have HN := Lib.hid hsp
                  clear hc hat hix c1 c2 c3 hsp hx0
                  generalize hx : (l.drop n).take (k - n) = x at HN hcut
                  clear hx
                  go_wp2_with (at_builtin; refine app_str rfl _ _ rfl w.heap.size _ acc rfl hown x rfl hao hB ?_; intro v1 w1 hown1 hb1)
                  go_roundw
                  case rel => exact ⟨k + 1, k + 1, _, by go_num, by go_num, .inl ⟨by omega, HN.out⟩, hown1, hbel.trans hb1⟩
                  case measure => simp [intOf] <;> omega
                · have e : n = k := by omega
                  subst e
                  rw [show n - n = 0 by omega, List.take_zero] at hsp
                  unfold addF at hsp
                  rw [if_pos rfl] at hsp
                  have HN := Lib.hid hsp
                  clear hc hat hix c1 c2 c3 hsp hne
                  go_wp2_with (fail)
                  go_roundw
                  case rel => exact ⟨n + 1, n + 1, _, by go_num, by go_num, .inl ⟨by omega, HN.out⟩, hown, hbel⟩
                  case measure => simp [intOf] <;> omega
              · have HN := Lib.hid (hat.other hkl (by rw [← hc]; exact c3) (by rw [← hc]; omega) (by rw [← hc]; omega))
                have z3 : ((c.toNat : Int) != 32) = true := by simp; omega
                clear hc hat hix c1 c2 c3
                go_wp2_with (fail)
                go_roundw
                case rel => exact ⟨k + 1, n, acc, rfl, by go_num, .inl ⟨by omega, HN.out⟩, hown, hbel⟩
                case measure => simp [intOf] <;> omega
        · have e : k = l.length := by omega
          subst e
          obtain ⟨hd1, hd2⟩ := hat.done
          have hao : acc.length + 1 ≤ 8796093022208 := by omega
          have hfl := addF_len acc (l.drop n)
          by_cases hne : n < l.length
          · have hcut := fun W => run_cut (l := l) hnk (Nat.le_refl _) W
            rw [List.take_of_length_le (by rw [List.length_drop]; omega)] at hcut
            have hx0 : l.drop n ≠ [] := by
              intro e; have := congrArg List.length e; simp at this; omega
            unfold addF at hd1
            rw [if_neg hx0] at hd1
            have HD := Lib.hid hd1
            have HK := Lib.hid hd2
            clear hat hx0 hd1 hd2 hfl
            generalize hx : l.drop n = x at HD hcut
            clear hx
            go_wp2_with (at_builtin; refine app_str rfl _ _ rfl w.heap.size _ acc rfl hown x rfl hao hB ?_; intro v1 w1 hown1 hb1)
            go_roundw
            case rel => exact ⟨l.length + 1, l.length + 1, _, by go_num, by go_num, .inr ⟨rfl, HD.out, HK.out, by simp; omega⟩, hown1, hbel.trans hb1⟩
            case measure => simp [intOf] <;> omega
          · have e : n = l.length := by omega
            subst e
            rw [List.drop_of_length_le (Nat.le_refl _)] at hd1
            unfold addF at hd1
            rw [if_pos rfl] at hd1
            have HD := Lib.hid hd1
            have HK := Lib.hid hd2
            clear hat hd1 hd2 hfl hne
            go_wp2_with (fail)
            go_roundw
            case rel => exact ⟨l.length + 1, l.length + 1, _, by go_num, by go_num, .inr ⟨rfl, HD.out, HK.out, by omega⟩, hown, hbel⟩
            case measure => simp [intOf] <;> omega
      · have hB := hbel.size
        obtain ⟨ao, co, rfl⟩ := hown.shape
        by_cases hm : 24 < acc.length
        · have HF := Lib.hid (splitF_many (l := l) (by rw [← hacc]; exact hm))
          have z4 : decide ((24 : Int) < (acc.length : Int)) = true := by simp; omega
          have HA := Lib.hid hacc
          clear hacc hok
          go_wp2_with (fail)
          go_ret2
          exact split_no2 HF.out (OwnS.made _ #[] _ hB (by simp [maxLen])) (hbel.alloc hB _)
        · have HF := Lib.hid (splitF_some (l := l) h1' hok (by rw [← hacc]; omega))
          rw [← hacc] at HF
          have z4 : decide ((24 : Int) < (acc.length : Int)) = false := by simp; omega
          clear hacc hok
          go_wp2_with (fail)
          go_ret2
          exact split_yes HF.out hown hbel
end Go.Proofs.YtlagjhgfjaopjaaDoor
