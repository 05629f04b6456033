/-
  The laws' marks on rows of the call's own, with what they leave alone. Lists of at most 2^20 rows and numbers.
-/
import Derived.Test.YtecimgennncjkaaDoorOrr
import Derived.Test.YtecimgennncjkaaDoorFar
namespace Go.Proofs.YtecimgennncjkaaDoor
open Go.RowKit
set_option linter.all false
theorem OwnRR.same {w w' : World} {B C : Nat} {v : Value} {X : Rowi} (h : OwnRR w B C v X) (he : ∀ b, B ≤ b → b < C → w'.heap[b]? = w.heap[b]?) (hs : w.heap.size ≤ w'.heap.size) : OwnRR w' B C v X := by
  obtain ⟨hC, hg, us, ⟨hl, T, h0, hm, hT, hr⟩, ho⟩ := h
  refine ⟨Nat.le_trans hC hs, hg, us, ⟨hl, T, h0, hm, hT, fun j h1 h2 => (hr j h1 h2).same fun _ b hb1 hb2 _ => he b ?_ ?_⟩, ?_⟩
  · have := hm 0 j (Nat.zero_le _); omega
  · have := hm (j + 1) X.length (by omega); omega
  · have hbB : ∀ g, v.ownBlock = some g → B ≤ g := fun g e => (ho.lt g e).1
    exact ownsRow_far ho fun g e => he g (hbB g e) (hg g e)
theorem OwnRR.apart2 {w w' : World} {lo hi B C : Nat} {v : Value} {X : Rowi} (h : OwnRR w B C v X) (hf : FarB lo hi w w') (hd : hi ≤ B ∨ C ≤ lo) : OwnRR w' B C v X :=
  h.same (fun b hb hbC => by
    rcases hd with hd | hd
    · exact hf.2 b (by omega) (by have := h.1; omega)
    · exact hf.1.block b (by omega)) hf.1.size
set_option maxHeartbeats 2000000 in
theorem markIntSS_far {w : World} {B C : Nat} {v : Value} {X : Rowi} (h : OwnRR w B C v X) (hn : X.length ≤ 1048576) (hi : totalR X ≤ 1048576) (k0 : Int) (h0 : 0 ≤ k0) (h1 : k0 ≤ 1048576) :
    Calls Tryd.prog 57 #[v, .int .i64 k0] w fun e w' => e = .returned (.int .i64 (k0 + (totalR X : Nat))) ∧ OwnRR w' B C v (marksR k0 X) ∧ FarB B C w w' := by
  obtain ⟨hC, hgC, us, ⟨hl, T, hT0, hm, hT, hr⟩, ho⟩ := h
  have hlm := marksR_len X k0
  by_cases hx : X = []
  · subst hx
    have ho' := ho
    rcases ho.2 with ⟨rfl, hn0⟩ | ⟨g, cap, cur, rfl, hB, hgc, _⟩
    all_goals
      go_enter Tryd.func57, Tryd.ntmps57
      go_wp2
      refine wp_loop_once ?_
      go_wp2
      go_ret
      exact ⟨ret_int (by simp [totalR]), ⟨hC, hgC, us, ⟨hl, T, hT0, hm, hT, fun j h h' => by simp [marksR] at h'⟩, ho'⟩, Below.refl _ _, fun _ _ _ => rfl⟩
  · have hpos : 0 < X.length := List.length_pos_iff.2 hx
    have ho' := ho
    rcases ho.2 with ⟨rfl, hn0⟩ | ⟨g, cap, cur, rfl, hB, hgc, _⟩
    · omega
    have hgw : g < w.heap.size := (Array.getElem?_eq_some_iff.1 hgc).1
    have hus0 : 0 < us.length := by omega
    obtain ⟨a00, c00, e00, -⟩ := hr 0 hus0 hpos
    have hcell : ∀ j (hj : j < us.length), w.cell? ⟨g, j, none⟩ = some us[j] := fun j hj => ownsRow_cell ho' rfl hj
    have HC := Lib.hid hcell
    have HV : Hid (∀ w', w.heap.size ≤ w'.heap.size → w'.heap[g]? = w.heap[g]? → ∀ L : Rowi, L.length = X.length → (∀ j (h : j < us.length) (h' : j < L.length), OwnIn w' (T j) (T (j + 1)) us[j] L[j]) → OwnRR w' B C (.slice (some ⟨g, 0, none⟩) X.length cap) L) := Lib.hid (fun w' hs hgw' L hLl hL => ⟨by omega, hgC, us, ⟨by omega, T, hT0, hm, by rw [hLl]; exact hT, hL⟩, by rw [hLl]; exact ownsRow_far ho' (fun g' e => by simp only [Value.ownBlock, Option.some.injEq] at e; subst e; exact hgw')⟩)
    have HA : Hid (∀ w' lo hi u xs, w'.heap[g]? = w.heap[g]? → OwnIn w' lo hi u xs → xs ≠ [] → u.ownBlock ≠ some g) := Lib.hid (fun w' lo hi u xs hg' hu hne => (hu.apart hne (ownsRow_far ho' (fun g' e => by simp only [Value.ownBlock, Option.some.injEq] at e; subst e; exact hg')) hus0 (hr 0 hus0 hpos).oneCell ⟨_, _, _, e00⟩).2)
    clear hcell ho ho' hgC
    go_enter Tryd.func57, Tryd.ntmps57
    go_wp2_with (fail)
    go_loopw [1, 5] (fun x i wr => ∃ (k : Nat) (L : Rowi), k ≤ X.length ∧ i = .int .i64 (k : Int) ∧ x = .int .i64 (k0 + (totalR (X.take k) : Nat)) ∧ L.length = X.length ∧ L.take k = (marksR k0 X).take k ∧ (∀ j (h : j < L.length) (h' : j < X.length), k ≤ j → L[j] = X[j]) ∧ (∀ j (h : j < us.length) (h' : j < L.length), OwnIn wr (T j) (T (j + 1)) us[j] L[j]) ∧ Below B w wr ∧ wr.heap[g]? = w.heap[g]? ∧ ∀ j : Nat, C ≤ j → wr.heap[j]? = w.heap[j]?) (fun _ i _ => X.length - (intOf i).toNat)
    case atStart => exact ⟨0, X, Nat.zero_le _, rfl, by simp [totalR], rfl, rfl, fun _ _ _ _ => rfl, hr, Below.refl _ _, rfl, fun _ _ => rfl⟩
    case round =>
      obtain ⟨k, L, hk, rfl, rfl, hL, htk, hup, hin, hbel, hgw', hfar⟩ := hrel
      have hsz := hbel.size
      have HT := Lib.hid htk
      have HU := Lib.hid hup
      have HI := Lib.hid hin
      clear htk hup
      by_cases hkl : k < X.length
      · have hb1 : k < us.length := by omega
        have hkL : k < L.length := by omega
        have hLX := HU.out k hkL hkl (Nat.le_refl _)
        obtain ⟨u, hu⟩ : ∃ u, u = us[k] := ⟨_, rfl⟩
        have c1 : wr.cell? ⟨g, k, none⟩ = some u := by rw [World.cell?_of_block (w := w) hgw', hu]; exact HC.out k hb1
        have hon := hin k hb1 hkL
        rw [hLX, ← hu] at hon
        have hx3 : X[k].length ≤ totalR X := totalR_mem (List.getElem_mem _)
        have hsn := totalR_snoc X k hkl
        have hle := totalR_take_le X k
        have hM := markIntS_full hon (by omega) (k0 + (totalR (X.take k) : Nat)) (by omega) (by omega)
        have HLX := Lib.hid hLX
        have HUK := Lib.hid hu
        have HON := Lib.hid hon
        have hl1 : (k : Int) < (X.length : Int) := by omega
        have hTB : B ≤ T k := Nat.le_trans hT0 (hm 0 k (Nat.zero_le _))
        obtain ⟨au, cu, eu, -⟩ := id hon
        have HSN := Lib.hid hsn
        have HEU := Lib.hid eu
        have hvs : ∃ a l c, u = .slice a l c := ⟨_, _, _, eu⟩
        clear hin hon hr hsn hu hLX eu
        obtain ⟨a1, l1, cp1, rfl⟩ := hvs
        go_wp2_with (fail)
        refine hM.mono ?_
        rintro e w1 ⟨rfl, hx1, hb1', ho1⟩
        go_wp2_with (fail)
        go_roundw
        case rel =>
          have hnil : L[k] = [] → ∀ j : Nat, w1.heap[j]? = wr.heap[j]? := fun e j => ho1 j (.inl (by rw [← HLX.out]; exact e))
          refine ⟨k + 1, L.set k (marks (k0 + (totalR (X.take k) : Nat)) X[k].length), by omega, by go_num, ?_, by rw [List.length_set]; exact hL, ?_, ?_, ?_, hbel.trans (hb1'.mono hTB), ?_, fun j hj => ?_⟩
          · rw [HSN.out]; congr 1; omega
          · rw [List.take_succ_eq_append_getElem (by rw [List.length_set, hL]; exact hkl), List.take_succ_eq_append_getElem (by rw [hlm]; exact hkl), List.take_set_of_le (Nat.le_refl _), HT.out, List.getElem_set_self, marksR_at _ _ _ _ hkl]
          · intro j hj hj' hkj
            rw [List.length_set] at hj
            rw [List.getElem_set_ne (by omega)]
            exact HU.out j hj hj' (by omega)
          · refine OwnRR.row_set (B := B) (C := w.heap.size) (w := wr) (w' := w1) hsz hb1'.size (by omega) hT0 hm (by rw [hL]; omega) HI.out hb1 (by rw [← HUK.out]; exact hx1) (fun j hj => ho1 j (.inr (by rw [HUK.out]; exact hj))) (fun b hb hne => ?_) hnil
            obtain ⟨a2, c2, e2, hh⟩ := HON.out
            obtain ⟨b2, q1, q2, q3, -⟩ := hh.resolve_left (by rw [← HLX.out]; exact hne)
            rw [← HUK.out, e2, q3] at hb
            simp only [Value.ownBlock, Option.some.injEq] at hb
            omega
          · refine (ho1 g ?_).trans hgw'
            by_cases hne : X[k] = []
            · exact .inl hne
            · exact .inr fun e => HA.out wr _ _ _ _ hgw' HON.out hne e.symm
          · refine (ho1 j ?_).trans (hfar j hj)
            by_cases hne : X[k] = []
            · exact .inl hne
            · obtain ⟨a2, c2, e2, hh⟩ := HON.out
              obtain ⟨b2, q1, q2, q3, -⟩ := hh.resolve_left hne
              refine .inr fun e => ?_
              rw [e2, q3] at e
              simp only [Value.ownBlock, Option.some.injEq] at e
              have := hm (k + 1) X.length (by omega)
              omega
        case measure => simp [intOf]; omega
      · have ek : k = X.length := by omega
        subst ek
        have e : L = marksR k0 X := by
          have := HT.out
          rw [List.take_of_length_le (by omega), List.take_of_length_le (by rw [hlm]; omega)] at this
          exact this
        have HE := Lib.hid e
        rw [List.take_of_length_le (Nat.le_refl _)]
        clear e
        go_wp2_with (fail)
        go_ret
        exact ⟨rfl, by rw [← HE.out]; exact HV.out _ hsz hgw' L hL HI.out, hbel, fun j hj _ => hfar j hj⟩
end Go.Proofs.YtecimgennncjkaaDoor
