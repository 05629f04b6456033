/-
  FnAlarmTexts: alarms can be parsed from their texts. Condition: the listed tables hold what they hold; internal/bytealg.MaxLen's cell holds some int.
-/
import Derived.Test.YtikaiimafliceaaDoorAlaL
import Derived.Test.YtikaiimafliceaaDoorCode
import Derived.Deep.RegionLaw
namespace Go.Proofs.YtikaiimafliceaaDoor
open Go.RowKit
set_option linter.all false
theorem spltA_word (l : List UInt8) : ∀ (w cur : List UInt8) (acc : List (List UInt8)), (∀ c ∈ w, c.toNat ≠ 44) → spltA (w ++ l) cur acc = spltA l (cur ++ w) acc
  | [], cur, acc, _ => by simp
  | c :: w, cur, acc, h => by
    rw [List.cons_append, spltA, if_neg (h c (by simp)), spltA_word l w (cur ++ [c]) acc (fun d hd => h d (by simp [hd]))]
    simp
theorem spltA_join : ∀ (L : List (List UInt8)) (x : List UInt8) (acc : List (List UInt8)), (∀ s ∈ x :: L, ∀ c ∈ s, c.toNat ≠ 44) → spltA (jnA (x :: L)) [] acc = acc ++ (x :: L)
  | [], x, acc, h => by
    have := spltA_word [] x [] acc (h x (by simp))
    rw [List.append_nil] at this
    rw [jnA, this, spltA]; simp
  | y :: L, x, acc, h => by
    rw [jnA, List.append_assoc, spltA_word _ x [] acc (h x (by simp)), List.nil_append, List.singleton_append, spltA, if_pos (by decide)]
    rw [spltA_join L y (acc ++ [x]) (fun s hs => h s (by simp at hs ⊢; exact .inr hs))]
    simp
/-- A word without commas that is not empty. -/
def WordA (s : List UInt8) : Prop := s ≠ [] ∧ ∀ c ∈ s, c.toNat ≠ 44
theorem partsA_join {L : List (List UInt8)} (h : ∀ s ∈ L, WordA s) : partsA (jnA L) = L := by
  cases L with
  | nil => rfl
  | cons x L =>
    have hne : jnA (x :: L) ≠ [] := by
      have := (h x (by simp)).1
      cases L with
      | nil => rw [jnA]; exact this
      | cons y L => rw [jnA]; simp
    unfold partsA; rw [if_neg hne]
    unfold cutA
    rw [spltA_join L x [] (fun s hs c hc => (h s hs).2 c hc)]; rfl
theorem alarm_again {t : Nat} (ht : t ≤ 1000000000) {L : List (List UInt8)} (h : ∀ s ∈ L, WordA s) : alarmP (fmtA (t : Int) L) = some (t, L) := by
  have e : fmtA (t : Int) L = Lib.decDigits t ++ (58 :: jnA L) := by
    unfold fmtA; rw [show Lib.itoa (t : Int) = Lib.decDigits t from rfl]; simp
  rw [e]
  have hd := dec_dig t
  have hcol : colonA (Lib.decDigits t ++ (58 :: jnA L)) = some (Lib.decDigits t).length := by
    refine colonA_some (by simp) (by simp) (fun j hj hl => ?_)
    rw [List.getElem_append_left hl]
    have := hd _ (List.getElem_mem hl)
    omega
  rw [alarmP_ok hcol (n := t) (by rw [List.take_left']; exact puL_some ht rfl; rfl)]
  rw [show (Lib.decDigits t ++ (58 :: jnA L)).drop ((Lib.decDigits t).length + 1) = jnA L by rw [← List.drop_drop, List.drop_left']; rfl; rfl]
  rw [partsA_join h]
theorem seed_no : alarmP [115, 101, 101, 100] = none := alarmP_none (by decide)
theorem OwnS.capOk {w : World} {B : Nat} {v : Value} {l : List (List UInt8)} (h : OwnS w B v l) : CapOk v := by
  rcases h.2 with ⟨rfl, h0⟩ | ⟨g, cap, cur, rfl, hB, hg, hn, hc, -⟩
  · exact ⟨_, _, _, rfl, Nat.le_refl _⟩
  · exact ⟨_, _, _, rfl, hn⟩
theorem rem_4 (y : Nat) : ∃ m : Nat, (y : Int) % 4 = (m : Int) ∧ (y : Int).tmod 4 = (m : Int) ∧ m ≤ 3 := by
  have e : (y : Int) % 4 = ((y % 4 : Nat) : Int) := (Int.natCast_emod y 4).symm
  exact ⟨y % 4, e, by rw [Int.tmod_eq_emod_of_nonneg (by omega)]; exact e, by omega⟩
theorem rem_3 (y : Nat) : ∃ m : Nat, (y : Int) % 3 = (m : Int) ∧ (y : Int).tmod 3 = (m : Int) ∧ m ≤ 2 := by
  have e : (y : Int) % 3 = ((y % 3 : Nat) : Int) := (Int.natCast_emod y 3).symm
  exact ⟨y % 3, e, by rw [Int.tmod_eq_emod_of_nonneg (by omega)]; exact e, by omega⟩
def wordsA : List (List UInt8) := [[115, 101, 101, 100], [115, 99, 111, 114, 101, 32, 50], [98, 111, 100, 121, 32, 49, 49]]
theorem wordsA_ok : ∀ m (h : m < 3), WordA (wordsA[m]'h) := by
  intro m h
  match m, h with
  | 0, _ => exact (⟨by decide, by decide⟩ : WordA [115, 101, 101, 100])
  | 1, _ => exact (⟨by decide, by decide⟩ : WordA [115, 99, 111, 114, 101, 32, 50])
  | 2, _ => exact (⟨by decide, by decide⟩ : WordA [98, 111, 100, 121, 32, 49, 49])
theorem word_at {m : Nat} (h : m < 3) : ∃ x : List UInt8, WordA x ∧ x.length ≤ 10 ∧ ([Value.string ⟨#[115, 101, 101, 100]⟩, .string ⟨#[115, 99, 111, 114, 101, 32, 50]⟩, .string ⟨#[98, 111, 100, 121, 32, 49, 49]⟩] : List Value)[m]? = some (.string ⟨x.toArray⟩) := by
  match m, h with
  | 0, h => exact ⟨[115, 101, 101, 100], wordsA_ok 0 h, by decide, rfl⟩
  | 1, h => exact ⟨[115, 99, 111, 114, 101, 32, 50], wordsA_ok 1 h, by decide, rfl⟩
  | 2, h => exact ⟨[98, 111, 100, 121, 32, 49, 49], wordsA_ok 2 h, by decide, rfl⟩
/-- What stands at the loop's head. -/
def AtR (w : World) (T : Int) (k : Nat) (L : List (List UInt8)) (v : Value) (wr : World) : Prop :=
  wr.heap[w.heap.size]? = some (.cells #[.int .i64 T, v] 27 (0, 0)) ∧ OwnS wr (w.heap.size + 1) v L ∧ L.length = k ∧ (∀ s ∈ L, WordA s ∧ s.length ≤ 10) ∧ Below w.heap.size w wr ∧ w.heap.size + 1 ≤ wr.heap.size
set_option maxRecDepth 100000 in
set_option maxHeartbeats 8000000 in
theorem lawAlarmTexts (a : Option Addr) (len cap : Nat) (zs : List Int) {w : World} (hr : IsRow .u8 w a len cap zs) (hL : laidMetH Tryd.prog Rows.fnAlarmTextsRow.laid w) (hm : ∃ m, w.cell? ⟨0, 0, none⟩ = some (.int .i64 m)) :
    Calls Tryd.prog 3 #[.slice a len cap] w fun e w' => e = .returned (.bool true) ∧ Below w.heap.size w w' := by
  obtain ⟨hrd, hl⟩ := RdC.of_row hr
  clear hr
  obtain ⟨m, hm⟩ := hm
  rw [MakeChecks.laidMetH_plain _ _ _ (by kernel_rfl)] at hL
  have hT0 : laidMet Tryd.prog [("math/bits.deBruijn32tab", Rows.laid_math_bits_deBruijn32tab), ("math/bits.deBruijn64tab", Rows.laid_math_bits_deBruijn64tab), ("internal/strconv.uint64pow10", Rows.laid_internal_strconv_uint64pow10), ("unicode/utf8.acceptRanges", Rows.laid_unicode_utf8_acceptRanges), ("strconv.ErrRange", Rows.laid_strconv_ErrRange), ("strconv.ErrSyntax", Rows.laid_strconv_ErrSyntax), ("unicode/utf8.first", Rows.laid_unicode_utf8_first)] w := hL
  have hT := Tab.mk hT0.tail.tail
  have hE := Errs.mk hT0.tail.tail.tail.tail
  clear hT0 hL
  by_cases h : 1048576 < (len : Int)
  · have b1 : decide (1048576 < (len : Int)) = true := by simpa using h
    go_enter Tryd.func3, Tryd.ntmps3
    go_wp2_with (go_at_call 6; refine (big_any hrd hl).mono ?_; rintro e w' ⟨rfl, rfl⟩)
    go_ret
    exact ⟨rfl, Below.refl _ _⟩
  have b1 : decide (1048576 < (len : Int)) = false := by simpa using h
  go_enter Tryd.func3, Tryd.ntmps3
  go_wp2_with (go_at_call 6; refine (big_any hrd hl).mono ?_; rintro e w' ⟨rfl, rfl⟩)
  refine (at_any hrd hl 0 (by omega) (by omega)).mono ?_
  rintro e w1 ⟨y, hy, rfl, rfl⟩
  obtain ⟨T, hTe⟩ : ∃ T : Nat, (T : Int) = (y : Int) * 3 := ⟨y * 3, by omega⟩
  have hT1 : T ≤ 765 := by omega
  have uT : IntKind.i64.wrap ((y : Int) * 3) = (y : Int) * 3 := IntWalk.i64_in _ (by omega)
  obtain ⟨W1, hW1, hrel0⟩ : ∃ W, w.alloc (.cells #[.int .i64 (T : Int), .slice none 0 0] 27) = W ∧ AtR w (T : Int) 0 [] (.slice none 0 0) W :=
    ⟨_, rfl, heap_alloc_new _ _, OwnS.nil _ _, rfl, by simp, below1 _ _, by simp⟩
  have HW1 := Lib.hid hW1
  have HTE := Lib.hid hTe
  clear hW1 hTe
  go_upto_region 4 with (fail)
  rw [← HTE.out]
  try rw [HW1.out]
  clear HW1 uT b1 h
  go_wp2_with (fail)
  go_loopw [4] (fun i wr => ∃ (k : Nat) (L : List (List UInt8)) (v : Value), k ≤ 3 ∧ i = .int .i64 (k : Int) ∧ AtR w (T : Int) k L v wr) (fun i _ => 3 - (intOf i).toNat)
  case atStart => exact ⟨0, [], _, by omega, rfl, hrel0⟩
  case round =>
    clear hrel0
    obtain ⟨k, L, v, hk, rfl, hA, hown, hLl, hwd, hbel, hsz⟩ := hrel
    have hat := fun (i : Int) (h0 : 0 ≤ i) (h1 : i ≤ 1000000) => at_any (hrd.keep hbel) hl i h0 h1
    have cA := rowCells hA
    have fA := fun j => frozenHeap hA j
    go_wp2_with (fail)
    refine (hat 1 (by omega) (by omega)).mono ?_
    rintro e w2 ⟨y1, hy1, rfl, rfl⟩
    obtain ⟨m1, e1, e1', hm1⟩ := rem_4 y1
    have u1 : IntKind.i64.wrap (m1 : Int) = m1 := IntWalk.i64_in _ (by omega)
    by_cases hkm : k < m1
    · have z1 : decide ((k : Int) < (m1 : Int)) = true := by simp; omega
      have hkc : (k : Int) ≤ 3 := by omega
      have hatd := fun {W : World} (hb : Below w.heap.size w W) => at_any (hrd.keep hb) hl ((k : Int) + 2) (by omega) (by omega)
      have HO := Lib.hid hown
      clear hat hown
      go_wp2_with (fail)
      have u2 : IntKind.i64.wrap ((k : Int) + 2) = (k : Int) + 2 := IntWalk.i64_in _ (by omega)
      have cP : (wr.alloc (.cells #[.string ⟨#[115, 101, 101, 100]⟩, .string ⟨#[115, 99, 111, 114, 101, 32, 50]⟩, .string ⟨#[98, 111, 100, 121, 32, 49, 49]⟩] 9)).cell? ⟨w.heap.size, 1, none⟩ = some v := rowCells (keepHeap (below1 wr _) hA) 1
      go_region_law (first
        | (rw [if_pos (by rfl)]; go_simp; go_at_call 7; refine (hatd (by first | exact hbel.drew | exact (hbel.trans ((below1 wr _).mono hbel.size)).drew)).mono ?_; rintro e w2 ⟨y2, hy2, rfl, rfl⟩; dsimp only; obtain ⟨m3, e3, e3', hm3⟩ := rem_3 y2; have u3 : IntKind.i64.wrap (m3 : Int) = m3 := IntWalk.i64_in _ (by omega); have hm3c : (m3 : Int) < 3 := (by omega); obtain ⟨x, hxw, hxl, hxc⟩ := word_at (Nat.lt_succ_of_le hm3); have cQ : ((wr.alloc (.cells #[.string ⟨#[115, 101, 101, 100]⟩, .string ⟨#[115, 99, 111, 114, 101, 32, 50]⟩, .string ⟨#[98, 111, 100, 121, 32, 49, 49]⟩] 9)).alloc (.cells #[.string ⟨x.toArray⟩] 9)).cell? ⟨w.heap.size, 1, none⟩ = some v := rowCells (keepHeap (below2 wr _ _) hA) 1)
        | (refine step_str rfl (.tmp 23) (.tmp 32) rfl (w.heap.size + 1) v L rfl (by exact ((HO.out.alloc _).alloc _)) (wr.heap.size + 1) x rfl (by exact rowCells (heap_at _ _ (by simp)) 0) (by omega) (by simp; omega) ?_; intro v1 w2 hown1 hb1; obtain ⟨a1, c1, rfl⟩ := hown1.shape; have hA1 := heapUp hb1 (by omega) (keepHeap (below2 wr _ _).drew hA); have cA1 := rowCells hA1; have fA1 := fun j => frozenHeap hA1 j))
      all_goals
        have hlen1 : (L ++ [x]).length = L.length + 1 := by simp
        rw [hlen1, hLl] at hown1
        have hbA : Below w.heap.size w w2 := (hbel.trans ((below2 wr _ _).drew.mono hbel.size)).trans (hb1.mono (Nat.le_succ _))
        have hs2 := hb1.size
        go_wp2_with (fail)
        go_roundw
        case measure => simp [intOf]; omega
        refine ⟨k + 1, L ++ [x], _, by omega, by go_num, setHAl (k := 1) hA1, hown1.set (p := ⟨w.heap.size, 1, none⟩) (by show w.heap.size < w.heap.size + 1; omega) _, by rw [hlen1, hLl], fun s hs => ?_, hbA.setCell (p := ⟨w.heap.size, 1, none⟩) (Nat.le_refl _) _, by simp at hs2 ⊢; omega⟩
        rcases List.mem_append.1 hs with hs | hs
        · exact hwd s hs
        · rw [List.mem_singleton.1 hs]; exact ⟨hxw, hxl⟩
    · have z1 : decide ((k : Int) < (m1 : Int)) = false := by simp; omega
      have hn : L.length ≤ 1048576 := by omega
      have htot : totalS L ≤ 1048576 := by
        have : ∀ (M : List (List UInt8)), (∀ s ∈ M, s.length ≤ 10) → totalS M ≤ 10 * M.length := by
          intro M
          induction M with
          | nil => intro _; simp [totalS]
          | cons a M ih =>
            intro hM
            have h1 := hM a (by simp)
            have h2 := ih (fun s hs => hM s (by simp [hs]))
            simp only [totalS, List.map_cons, List.sum_cons, List.length_cons] at h2 ⊢
            omega
        have := this L (fun s hs => (hwd s hs).2)
        omega
      have hcp := hown.capOk
      have rd := hown.rd
      have hFmt := fun {W : World} (hb : Below w.heap.size w W) (r : RdS W v L) => formatAlarm_impl (t := (T : Int)) r hn htot hcp (by omega) (by omega) (hT.below hb)
      have hFl : (fmtA (T : Int) L).length ≤ 1048576 := by
        unfold fmtA
        have h1 := itoa_short (T : Int) (by omega) (by omega)
        have h2 := jnA_len L
        have h3 : totalS L ≤ 1000 := by
          have : ∀ (M : List (List UInt8)), (∀ s ∈ M, s.length ≤ 10) → totalS M ≤ 10 * M.length := by
            intro M
            induction M with
            | nil => intro _; simp [totalS]
            | cons a M ih =>
              intro hM
              have h1 := hM a (by simp)
              have h2 := ih (fun s hs => hM s (by simp [hs]))
              simp only [totalS, List.map_cons, List.sum_cons, List.length_cons] at h2 ⊢
              omega
          have := this L (fun s hs => (hwd s hs).2)
          omega
        simp only [List.length_append, List.length_singleton]
        omega
      have hag := alarm_again (t := T) (by omega) (L := L) (fun s hs => (hwd s hs).1)
      obtain ⟨ag1, ag2, ag3⟩ := alT_yes hag
      obtain ⟨no1, no2, no3⟩ := alT_no seed_no
      have hPar := fun {W : World} (hb : Below w.heap.size w W) => parseAlarm_impl (fmtA (T : Int) L) W hFl (hT.below hb) (hE.below hb) m (cellKeep hb hm)
      have hSee := fun {W : World} (hb : Below w.heap.size w W) => parseAlarm_impl [115, 101, 101, 100] W (by decide) (hT.below hb) (hE.below hb) m (cellKeep hb hm)
      unfold AlPost alC at hPar hSee
      unfold alC at hFmt
      simp only [ag1, ag2, ag3] at hPar
      simp only [no1, no2, no3] at hSee
      generalize fmtA (T : Int) L = F at hFmt hPar
      clear ag1 ag2 ag3 no1 no2 no3 hag hFl htot hT hE hm hat hcp
      have HLL := Lib.hid hLl
      clear hLl
      obtain ⟨av, cv, rfl⟩ := hown.shape
      go_wp2_with (fail)
      refine (hFmt hbel rd).mono ?_
      rintro e w3 ⟨rfl, hb3⟩
      have hb03 := hbel.trans (hb3.mono hbel.size)
      have hA3 := keepHeap hb3 hA
      go_wp2_with (fail)
      refine (hPar hb03).mono ?_
      rintro e w4 ⟨v4, rfl, wr4, hb4⟩
      have hb04 := hb03.trans (hb4.mono hb03.size)
      have hA4 := keepHeap hb4 hA3
      obtain ⟨a4, c4, rfl, -⟩ := id wr4
      obtain ⟨W5, hW5, hG5, hb5⟩ : ∃ W, w4.alloc (.cells #[.int .i64 (T : Int), .slice a4 L.length c4] 27) = W ∧ W.heap[w4.heap.size]? = some (.cells #[.int .i64 (T : Int), .slice a4 L.length c4] 27 (0, 0)) ∧ Below w4.heap.size w4 W := ⟨_, rfl, heap_alloc_new _ _, below1 _ _⟩
      have hb05 := hb04.trans (hb5.mono hb04.size)
      have hA5 := keepHeap hb5 hA4
      have rd5 := wr4.rd.keep hb5
      have rdv5 := ((rd.keep hb3).keep hb4).keep hb5
      go_wp2_with (fail)
      try rw [hW5]
      clear hW5
      refine (hSee hb05).mono ?_
      rintro e w6 ⟨v6, rfl, wr6, hb6⟩
      have hb06 := hb05.trans (hb6.mono hb05.size)
      have hA6 := keepHeap hb6 hA5
      have hG6 := keepHeap hb6 hG5
      have rd6 := rd5.keep hb6
      have rdv6 := rdv5.keep hb6
      obtain ⟨a6, c6, rfl, -⟩ := id wr6
      have hb7 := below1 w6 (.cells #[.int .i64 0, .slice a6 0 c6] 27)
      obtain ⟨W7, hW7⟩ : ∃ W, W = w6.alloc (.cells #[.int .i64 0, .slice a6 0 c6] 27) := ⟨_, rfl⟩
      rw [← hW7] at hb7
      have HW7 := Lib.hid hW7
      clear hW7
      have hb07 := hb06.trans (hb7.mono hb06.size)
      have hA7 := keepHeap hb7 hA6
      have hG7 := keepHeap hb7 hG6
      have cA7 := rowCells hA7
      have cG7 := rowCells hG7
      have hST := sameTexts_same (rdv6.keep hb7) (rd6.keep hb7) (by omega)
      go_upto_region 10 with (fail)
      try rw [← HW7.out]
      go_wp2_with (fail)
      refine hST.mono ?_
      rintro e w8 ⟨rfl, n8, rfl⟩
      go_wp2
      go_ret
      exact ⟨rfl, below_drewN hb07 _⟩
end Go.Proofs.YtikaiimafliceaaDoor
