/-
  RowsOf: the contracts of the model and of the program. Lists of at most 2^20 tracks and inputs.
-/
import Derived.Test.YteafgghpkohfpabRat
import Derived.Test.YteafgghpkohfpabOrr
namespace Go.Proofs.Yteafgghpkohfpab
open Go.RowKit
set_option linter.all false
def RetRR (w : World) (Y : Rowi) (e : Ending) (w' : World) : Prop := ∃ v, e = .returned v ∧ OwnRR w' w.heap.size w'.heap.size v Y ∧ Below w.heap.size w w'
theorem OwnRR.down {w : World} {B B' C : Nat} {v : Value} {X : Rowi} (h : OwnRR w B C v X) (hB : B' ≤ B) : OwnRR w B' C v X := by
  obtain ⟨hC, hg, us, ⟨hl, T, h0, hm, hT, hr⟩, ho⟩ := h
  refine ⟨hC, hg, us, ⟨hl, T, by omega, hm, hT, hr⟩, ?_⟩
  obtain ⟨h1, h2⟩ := ho
  refine ⟨h1, ?_⟩
  rcases h2 with h2 | ⟨g, cap, cur, rfl, hBg, r⟩
  · exact .inl h2
  · exact .inr ⟨g, cap, cur, rfl, by omega, r⟩
theorem totalR_le {X : Rowi} {m : Nat} (h : ∀ x ∈ X, x.length ≤ m) : totalR X ≤ m * X.length := by
  induction X with
  | nil => simp [totalR]
  | cons a X ih =>
    rw [totalR_cons, List.length_cons, Nat.mul_succ]
    have h1 := h a (by simp)
    have h2 := ih fun x hx => h x (by simp [hx])
    omega
theorem minN_le (xs : List Int) : ∀ k, minN xs k ≤ xs.headD 0
  | 0 => Int.le_refl _
  | k + 1 => by
    have := minN_le xs k
    unfold minN; split <;> omega
theorem known_400 {X : Rowi} (h : trksB X = true) : knownI X ≤ 400 := by
  obtain ⟨h1, _, h3⟩ := trksB_facts h
  rw [known_ok h]
  refine Int.le_trans (minN_le _ _) ?_
  match X, h1, h3 with
  | x :: X, _, h3 =>
    have := (trkB_facts (h3 x (by simp))).1
    simp [lens]; omega
def rofOk (X : Rowi) (a b : Int) : Bool := trksB X && decide (0 ≤ a) && decide (b ≤ knownI X)
def rofF (X : Rowi) (a b : Int) : Rowi := (List.range (b - a).toNat).map fun (i : Nat) => rowL X (a + (i : Int))
def rofR (X : Rowi) (a b : Int) : Rowi := if rofOk X a b then rofF X a b else []
theorem rof_no {X : Rowi} {a b : Int} (h : trksB X = false ∨ a < 0 ∨ knownI X < b) : rofR X a b = [] := by
  have : rofOk X a b = false := by
    unfold rofOk
    rcases h with h | h | h
    · rw [h]; rfl
    · rw [show decide (0 ≤ a) = false by simp; exact h]; simp
    · rw [show decide (b ≤ knownI X) = false by simp; exact h]; simp
  unfold rofR; rw [this]; rfl
theorem rof_yes {X : Rowi} {a b : Int} (h1 : trksB X = true) (h2 : 0 ≤ a) (h3 : b ≤ knownI X) : rofR X a b = rofF X a b := by
  unfold rofR rofOk; rw [h1, decide_eq_true h2, decide_eq_true h3]; rfl
theorem rofF_len (X : Rowi) (a b : Int) : (rofF X a b).length = (b - a).toNat := by unfold rofF; simp
theorem rofF_at {X : Rowi} {p : Nat} {b : Int} {k : Nat} (h : k < (rofF X (p : Int) b).length) : (rofF X (p : Int) b)[k] = rowL X ((p + k : Nat) : Int) := by unfold rofF; simp
theorem rofR_facts (X : Rowi) (a b : Int) : (rofR X a b).length ≤ 400 ∧ (∀ x ∈ rofR X a b, x.length ≤ 4) := by
  unfold rofR
  split
  · rename_i h
    unfold rofOk at h
    rw [Bool.and_eq_true, Bool.and_eq_true, decide_eq_true_eq, decide_eq_true_eq] at h
    have h4 := known_400 h.1.1
    have h5 := (trksB_facts h.1.1).2.1
    refine ⟨by rw [rofF_len]; omega, fun x hx => ?_⟩
    unfold rofF at hx
    rw [List.mem_map] at hx
    obtain ⟨i, _, rfl⟩ := hx
    rw [rowL_len]; exact h5
  · exact ⟨by simp, fun x hx => by simp at hx⟩
theorem ratL_good {X : Rowi} {t : Nat} (h : trksB X = true) : ratL X (t : Int) = rowL X (t : Int) := (rat_yes h).1
set_option maxRecDepth 100000 in
set_option maxHeartbeats 2000000 in
theorem rowsOf_impl {w : World} {v : Value} {X : Rowi} (h : RdR w v X) (hf : Few X) (a b : Int) :
    Calls Try.prog 17 #[v, .int .i64 a, .int .i64 b] w (RetRR w (rofR X a b)) := by
  have hT := tracksOk_impl h hf
  have hv := h
  obtain ⟨av, cap, rfl, -⟩ := h
  cases hq : trksB X with
  | false =>
    rw [hq] at hT
    rw [rof_no (X := X) (.inl hq)]
    clear hq
    go_enter Try.func17, Try.ntmps17
    go_wp2_with (fail)
    refine hT.mono ?_
    rintro e w1 ⟨rfl, hb1⟩
    have hb01 := hb1
    go_wp2_with (fail)
    go_ret
    exact ⟨_, rfl, (OwnRR.nil _ _ hb01.size), hb01⟩
  | true =>
    rw [hq] at hT
    by_cases ha : a < 0
    · have z1 : decide (a < 0) = true := by simpa using ha
      rw [rof_no (X := X) (.inr (.inl ha))]
      clear hq
      go_enter Try.func17, Try.ntmps17
      go_wp2_with (fail)
      refine hT.mono ?_
      rintro e w1 ⟨rfl, hb1⟩
      have hb01 := hb1
      go_wp2_with (fail)
      go_ret
      exact ⟨_, rfl, (OwnRR.nil _ _ hb01.size), hb01⟩
    · have z1 : decide (a < 0) = false := by simpa using ha
      by_cases hb : knownI X < b
      · have z2 : decide (knownI X < b) = true := by simpa using hb
        rw [rof_no (X := X) (.inr (.inr hb))]
        clear hq
        go_enter Try.func17, Try.ntmps17
        go_wp2_with (fail)
        refine hT.mono ?_
        rintro e w1 ⟨rfl, hb1⟩
        have hb01 := hb1
        have hK := knownTicks_impl (hv.keep hb01) hf
        go_wp2_with (fail)
        refine hK.mono ?_
        rintro e w2 ⟨rfl, hb2⟩
        have hb02 := hb01.trans (hb2.mono hb01.size)
        go_wp2_with (fail)
        go_ret
        exact ⟨_, rfl, (OwnRR.nil _ _ hb02.size), hb02⟩
      · have z2 : decide (knownI X < b) = false := by simpa using hb
        rw [rof_yes hq (by omega) (by omega)]
        have h400 := known_400 hq
        have HG := Lib.hid (fun t => ratL_good (X := X) (t := t) hq)
        obtain ⟨p, rfl⟩ := Int.eq_ofNat_of_zero_le (show 0 ≤ a by omega)
        clear hq ha
        have hb400 : b ≤ 400 := by omega
        have hFl := rofF_len X (p : Int) b
        have HFA := Lib.hid (fun k (h : k < (rofF X (p : Int) b).length) => rofF_at h)
        generalize rofF X (p : Int) b = F at *
        go_enter Try.func17, Try.ntmps17
        go_wp2_with (fail)
        refine hT.mono ?_
        rintro e w1 ⟨rfl, hb1⟩
        have hb01 := hb1
        have hK := knownTicks_impl (hv.keep hb01) hf
        go_wp2_with (fail)
        refine hK.mono ?_
        rintro e w2 ⟨rfl, hb2⟩
        have hb02 := hb01.trans (hb2.mono hb01.size)
        go_wp2_with (fail)
        go_loopw [7, 8] (fun c i wr => ∃ k : Nat, k ≤ F.length ∧ i = .int .i64 ((p + k : Nat) : Int) ∧ OwnRR wr w.heap.size wr.heap.size c (F.take k) ∧ Below w.heap.size w wr) (fun _ i _ => F.length - (intOf i - p).toNat)
        case atStart => exact ⟨0, Nat.zero_le _, rfl, (OwnRR.nil _ _ hb02.size), hb02⟩
        case round =>
          obtain ⟨k, hk, rfl, hown, hbel⟩ := hrel
          by_cases hkl : k < F.length
          · have hin : ((p + k : Nat) : Int) < b := by omega
            have z3 : decide (((p + k : Nat) : Int) < b) = true := by simpa using hin
            have hsz := hbel.size
            have htl : (F.take k).length = k := by rw [List.length_take]; omega
            have HT := Lib.hid (List.take_succ_eq_append_getElem hkl)
            rw [HFA.out k hkl] at HT
            have hR := rowIn_impl (hv.keep hbel) hf (p + k)
            have HTL := Lib.hid htl
            have hF400 : F.length ≤ 400 := by omega
            have hpk : p + k ≤ 400 := by omega
            clear hK hT htl hb1 hb2
            generalize F.take k = acc at *
            generalize rowL X ((p + k : Nat) : Int) = row at *
            generalize hq : p + k = q at *
            go_wp2_with (fail)
            refine hR.mono ?_
            rintro e w3 ⟨v3, rfl, hu, hb3⟩
            obtain ⟨a3, c3, rfl, -⟩ := id hu
            have hown3 := hown.keep hb3 (Nat.le_refl _)
            have hbel3 := hbel.trans (hb3.mono hsz)
            go_wp2_with (at_builtin; refine app_row rfl _ _ rfl w.heap.size wr.heap.size _ acc rfl hown3 _ _ hu rfl (by rw [HTL.out]; omega) hsz ?_; intro v' w4 hown' hb')
            go_roundw
            case rel => exact ⟨k + 1, by omega, by subst hq; go_num, by rw [HT.out]; exact hown', hbel3.trans hb'⟩
            case measure => subst hq; simp [intOf]; omega
          · have hin : ¬ ((p + k : Nat) : Int) < b := by omega
            have z3 : decide (((p + k : Nat) : Int) < b) = false := by simpa using hin
            have e : F.take k = F := List.take_of_length_le (by omega)
            rw [e] at hown
            clear e
            go_wp2_with (fail)
            go_ret
            exact ⟨_, rfl, hown, hbel⟩
end Go.Proofs.Yteafgghpkohfpab
