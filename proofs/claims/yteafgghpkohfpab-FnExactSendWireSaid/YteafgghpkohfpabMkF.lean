/-
  The laws' marks on flights and wires of the call's own, and their test. Lists of at most 2^20.
-/
import Derived.Test.YteafgghpkohfpabWir
import Derived.Test.YteafgghpkohfpabFar
import Derived.Test.YteafgghpkohfpabMkT
namespace Go.Proofs.Yteafgghpkohfpab
open Go.RowKit
set_option linter.all false
def mkF (K : Nat) : Fl := ⟨(K : Int), mkT (K + 1)⟩
def marksF (k0 : Nat) (n : Nat) : List Fl := (List.range n).map fun (j : Nat) => mkF (k0 + 2 * j)
theorem marksF_len (k0 : Nat) (n : Nat) : (marksF k0 n).length = n := by unfold marksF; simp
theorem marksF_at (k0 : Nat) (n j : Nat) (h : j < (marksF k0 n).length) : (marksF k0 n)[j] = mkF (k0 + 2 * j) := by simp [marksF]
/-- The flights' row lies in a block from lo up to hi. -/
def OwnFlIn (w : World) (lo hi : Nat) (v : Value) (X : List Fl) : Prop := ∃ a cap, v = .slice a X.length cap ∧ (X = [] ∨ ∃ g, lo ≤ g ∧ g < hi ∧ a = some ⟨g, 0, none⟩ ∧ RowFl w g X)
theorem OwnFlIn.of {w : World} {B : Nat} {v : Value} {X : List Fl} (h : OwnFl w B v X) : OwnFlIn w B w.heap.size v X := by
  obtain ⟨a, cap, hv, h⟩ := h
  refine ⟨a, cap, hv, ?_⟩
  by_cases hx : X = []
  · exact .inl hx
  · obtain ⟨g, hB, ha, hr⟩ := h.resolve_left hx
    exact .inr ⟨g, hB, hr.lt hx, ha, hr⟩
theorem OwnFlIn.rd {w : World} {lo hi : Nat} {v : Value} {X : List Fl} (h : OwnFlIn w lo hi v X) : RdFl w v X := by
  obtain ⟨a, cap, hv, h⟩ := h
  refine ⟨a, cap, hv, ?_⟩
  rcases h with h | ⟨g, -, -, ha, hr⟩
  · exact .inl h
  · exact .inr ⟨g, 0, ha, fun j hj => by rw [Nat.zero_add]; exact (hr j hj).1⟩
theorem RowFl.same {w w' : World} {g : Nat} {X : List Fl} (h : RowFl w g X) (he : w'.heap[g]? = w.heap[g]?) : RowFl w' g X := fun j hj => ⟨rangeSame (h j hj).1 he, thereSame (h j hj).2 he⟩
theorem OwnFlIn.keep {w w' : World} {lo hi : Nat} {v : Value} {X : List Fl} (h : OwnFlIn w lo hi v X) (hb : Below w.heap.size w w') : OwnFlIn w' lo hi v X := by
  obtain ⟨a, cap, rfl, h⟩ := h
  refine ⟨a, cap, rfl, ?_⟩
  by_cases hx : X = []
  · exact .inl hx
  · obtain ⟨b, h1, h2, rfl, hr⟩ := h.resolve_left hx
    exact .inr ⟨b, h1, h2, rfl, hr.same (hb.block b (hr.lt hx))⟩
theorem OwnFlIn.afar {w w' : World} {lo hi l1 h1 : Nat} {v : Value} {X : List Fl} (h : OwnFlIn w l1 h1 v X) (hf : FarB lo hi w w') (hle : hi ≤ l1) : OwnFlIn w' l1 h1 v X := by
  obtain ⟨a, cap, rfl, h⟩ := h
  refine ⟨a, cap, rfl, ?_⟩
  by_cases hx : X = []
  · exact .inl hx
  · obtain ⟨b, hb1, hb2, rfl, hr⟩ := h.resolve_left hx
    exact .inr ⟨b, hb1, hb2, rfl, hr.same (hf.2 b (by omega) (hr.lt hx))⟩
theorem OwnFlIn.apart2 {w w' : World} {lo hi l1 h1 : Nat} {v : Value} {X : List Fl} (h : OwnFlIn w l1 h1 v X) (hf : FarB lo hi w w') (hd : hi ≤ l1 ∨ h1 ≤ lo) : OwnFlIn w' l1 h1 v X := by
  obtain ⟨a, cap, rfl, h⟩ := h
  refine ⟨a, cap, rfl, ?_⟩
  by_cases hx : X = []
  · exact .inl hx
  · obtain ⟨b, hb1, hb2, rfl, hr⟩ := h.resolve_left hx
    refine .inr ⟨b, hb1, hb2, rfl, hr.same ?_⟩
    rcases hd with hd | hd
    · exact hf.2 b (by omega) (hr.lt hx)
    · exact hf.1.block b (by omega)
theorem RowFl.putAt {w : World} {g : Nat} {X : List Fl} (h : RowFl w g X) (k : Nat) (hk : k < X.length) (K : Int) : RowFl (w.setCell ⟨g, k * 2, none⟩ (.int .i64 K)) g (X.set k ⟨K, X[k].data⟩) := by
  intro j hj0
  have hj : j < X.length := by rw [List.length_set] at hj0; exact hj0
  refine ⟨fun i v hv => ?_, World.there_setCells (h j hj).2 g (k * 2) [.int .i64 K]⟩
  by_cases e : k = j
  · subst e
    rw [List.getElem_set_self] at hv
    obtain ⟨hi, e2⟩ := List.getElem?_eq_some_iff.1 hv
    rw [flL_len] at hi
    match i, hi with
    | 0, _ => rw [← e2]; exact World.cell?_setCell_same _ _ _ ((h k hk).1 0 _ rfl)
    | 1, _ => rw [World.cell?_setCell_other _ _ _ _ (by simp), ← e2]; exact (h k hk).1 1 _ rfl
  · rw [List.getElem_set_ne e] at hv
    have hi := (List.getElem?_eq_some_iff.1 hv).1
    rw [flL_len] at hi
    rw [World.cell?_setCell_other _ _ _ _ (by simp <;> omega)]
    exact (h j hj).1 i v hv
theorem RowFl.putData {w : World} {g : Nat} {X : List Fl} (h : RowFl w g X) (k : Nat) (hk : k < X.length) (l : List UInt8) : RowFl (w.setCell ⟨g, k * 2 + 1, none⟩ (.string ⟨l.toArray⟩)) g (X.set k ⟨X[k].at0, l⟩) := by
  intro j hj0
  have hj : j < X.length := by rw [List.length_set] at hj0; exact hj0
  refine ⟨fun i v hv => ?_, World.there_setCells (h j hj).2 g (k * 2 + 1) [.string ⟨l.toArray⟩]⟩
  by_cases e : k = j
  · subst e
    rw [List.getElem_set_self] at hv
    obtain ⟨hi, e2⟩ := List.getElem?_eq_some_iff.1 hv
    rw [flL_len] at hi
    match i, hi with
    | 0, _ => rw [World.cell?_setCell_other _ _ _ _ (by simp), ← e2]; exact (h k hk).1 0 _ rfl
    | 1, _ => rw [← e2]; exact World.cell?_setCell_same _ _ _ ((h k hk).1 1 _ rfl)
  · rw [List.getElem_set_ne e] at hv
    have hi := (List.getElem?_eq_some_iff.1 hv).1
    rw [flL_len] at hi
    rw [World.cell?_setCell_other _ _ _ _ (by simp <;> omega)]
    exact (h j hj).1 i v hv
set_option maxRecDepth 100000 in
set_option maxHeartbeats 2000000 in
theorem markFlightS_far {w : World} {lo hi : Nat} {v : Value} {X : List Fl} (h : OwnFlIn w lo hi v X) (hn : X.length ≤ 1048576) (k0 : Nat) (h0 : 0 < k0) (h1 : k0 ≤ 1099511627776) :
    Calls Try.prog 69 #[v, .int .i64 (k0 : Int)] w fun e w' => e = .returned (.int .i64 ((k0 + 2 * X.length : Nat) : Int)) ∧ OwnFlIn w' lo hi v (marksF k0 X.length) ∧ FarB lo hi w w' := by
  obtain ⟨a, cap, rfl, h⟩ := h
  by_cases hx : X = []
  · subst hx
    go_enter Try.func69, Try.ntmps69
    go_wp2_with (fail)
    refine wp_loop_once ?_
    go_wp2_with (fail)
    go_ret
    exact ⟨ret_int (by simp), ⟨_, _, rfl, .inl rfl⟩, Below.refl _ _, fun _ _ _ => rfl⟩
  · obtain ⟨b, hB, hb, rfl, hr⟩ := h.resolve_left hx
    have hblt := hr.lt hx
    go_enter Try.func69, Try.ntmps69
    go_wp2_with (fail)
    go_loopw [1, 5] (fun x i wr => ∃ (k : Nat) (L : List Fl), k ≤ X.length ∧ i = .int .i64 (k : Int) ∧ x = .int .i64 ((k0 + 2 * k : Nat) : Int) ∧ L.length = X.length ∧ L.take k = (marksF k0 X.length).take k ∧ RowFl wr b L ∧ Below lo w wr ∧ Hid (∀ j, j ≠ b → j < w.heap.size → wr.heap[j]? = w.heap[j]?) ∧ w.heap.size ≤ wr.heap.size) (fun _ i _ => X.length - (intOf i).toNat)
    case atStart => exact ⟨0, X, Nat.zero_le _, rfl, by simp, rfl, rfl, hr, Below.refl _ _, Lib.hid (fun _ _ _ => rfl), Nat.le_refl _⟩
    case round =>
      obtain ⟨k, L, hk, rfl, rfl, hL, htk, hrow, hbel, HO, hsz⟩ := hrel
      by_cases hkl : k < X.length
      · have hkL : k < L.length := by omega
        have hkk : (k : Int) < (X.length : Int) := by omega
        obtain ⟨K, hK⟩ : ∃ K, K = k0 + 2 * k := ⟨_, rfl⟩
        have hK1 : K ≤ 1099521627776 := by omega
        rw [← hK]
        have HKK : Hid ((marksF k0 X.length)[k]'(by rw [marksF_len]; exact hkl) = mkF K) := Lib.hid (by rw [marksF_at, hK])
        have HE : Hid (K + 2 = k0 + 2 * (k + 1)) := Lib.hid (by omega)
        obtain ⟨c0, c1⟩ := cellsFl (hrow k hkL).1
        obtain ⟨f0, f1⟩ := freeFl (hrow k hkL).2
        have hrow1 := hrow.putAt k hkL (K : Int)
        have hkL1 : k < (L.set k ⟨(K : Int), L[k].data⟩).length := by rw [List.length_set]; exact hkL
        have HG1 : Hid ((L.set k ⟨(K : Int), L[k].data⟩)[k]'hkL1 = ⟨(K : Int), L[k].data⟩) := Lib.hid (List.getElem_set_self _)
        have HL1 : Hid ((L.set k ⟨(K : Int), L[k].data⟩).length = X.length) := Lib.hid (by rw [List.length_set]; exact hL)
        have HT1 : Hid ((L.set k ⟨(K : Int), L[k].data⟩).take k = (marksF k0 X.length).take k) := Lib.hid (by rw [List.take_set_of_le (Nat.le_refl _)]; exact htk)
        obtain ⟨W1, hW1, hbW, hsW, HO1⟩ : ∃ W1, wr.setCell ⟨b, k * 2, none⟩ (.int .i64 (K : Int)) = W1 ∧ Below lo w W1 ∧ W1.heap.size = wr.heap.size ∧ Hid (∀ j, j ≠ b → j < w.heap.size → W1.heap[j]? = w.heap[j]?) :=
          ⟨_, rfl, hbel.setCell (by simpa using hB) _, by simp, Lib.hid (fun j hj hl => (Below.heap_setCell _ _ _ j hj).trans (HO.out j hj hl))⟩
        rw [hW1] at hrow1
        generalize L.set k ⟨(K : Int), L[k].data⟩ = L1 at *
        have HW := Lib.hid hsW
        have hM := fun W => markText_any (K + 1) (by omega) (by omega) W
        rw [show ((K + 1 : Nat) : Int) = (K : Int) + 1 by omega] at hM
        clear hL htk h hr hrow hK hsW
        generalize L[k] = y at *
        go_upto_region 6 with (fail)
        try rw [hW1]
        clear hW1 c0 c1 f0 f1
        go_wp2_with (fail)
        refine (hM _).mono ?_
        rintro e w2 ⟨rfl, hb2⟩
        have hrow2 := hrow1.keep hb2 (by have := HW.out; omega)
        obtain ⟨c0, c1⟩ := cellsFl (hrow2 k hkL1).1
        obtain ⟨f0, f1⟩ := freeFl (hrow2 k hkL1).2
        have hrow3 := hrow2.putData k hkL1 (mkT (K + 1))
        have hs2 := hb2.size
        have hb3 : Below lo w (w2.setCell ⟨b, k * 2 + 1, none⟩ (.string ⟨(mkT (K + 1)).toArray⟩)) := (hbW.trans (hb2.mono (by have := HW.out; have := hbel.size; omega))).setCell (by simpa using hB) _
        have HO3 : Hid (∀ j, j ≠ b → j < w.heap.size → (w2.setCell ⟨b, k * 2 + 1, none⟩ (.string ⟨(mkT (K + 1)).toArray⟩)).heap[j]? = w.heap[j]?) := Lib.hid (fun j hj hl => (Below.heap_setCell _ _ _ j hj).trans ((hb2.block j (by have := HW.out; omega)).trans (HO1.out j hj hl)))
        have HS3 := Lib.hid hrow3
        have hsz3 : w.heap.size ≤ (w2.setCell ⟨b, k * 2 + 1, none⟩ (.string ⟨(mkT (K + 1)).toArray⟩)).heap.size := by simp; have := HW.out; omega
        have HZ := Lib.hid hsz3
        have HMK : Hid (mkF K = ⟨(K : Int), mkT (K + 1)⟩) := Lib.hid rfl
        clear hrow1 hrow2 hrow3 hb2 hs2 hsz3
        generalize mkT (K + 1) = T at *
        go_wp2_with (fail)
        go_roundw
        case rel =>
          refine ⟨k + 1, L1.set k ⟨L1[k].at0, T⟩, by omega, by go_num, by rw [← HE.out]; go_num, by rw [List.length_set]; exact HL1.out, ?_, HS3.out, hb3, HO3, HZ.out⟩
          rw [List.take_succ_eq_append_getElem (by rw [List.length_set, HL1.out]; exact hkl), List.take_succ_eq_append_getElem (by rw [marksF_len]; exact hkl), List.take_set_of_le (Nat.le_refl _), HT1.out, List.getElem_set_self, HKK.out, HG1.out, HMK.out]
        case measure => simp [intOf]; omega
      · have e : L = marksF k0 X.length := by
          rw [List.take_of_length_le (by omega), List.take_of_length_le (by rw [marksF_len]; omega)] at htk
          exact htk
        have HE := Lib.hid e
        have ek : k = X.length := by omega
        subst ek
        clear e h hr
        go_wp2_with (fail)
        go_ret
        refine ⟨rfl, ⟨_, _, by rw [marksF_len], .inr ⟨b, hB, hb, rfl, ?_⟩⟩, hbel, fun j hj hl => HO.out j (by omega) hl⟩
        rw [← HE.out]; exact hrow
set_option maxRecDepth 100000 in
set_option maxHeartbeats 2000000 in
theorem heldFlightS_any {w : World} {v : Value} (n : Nat) (k0 : Nat) (h : RdFl w v (marksF k0 n)) (hn : n ≤ 1048576) (h0 : 0 < k0) (h1 : k0 ≤ 1099511627776) :
    Calls Try.prog 70 #[v, .int .i64 (k0 : Int)] w fun e w' => e = .returned (.int .i64 ((k0 + 2 * n : Nat) : Int)) ∧ Below w.heap.size w w' := by
  obtain ⟨a, cap, rfl, h⟩ := h
  rw [marksF_len]
  have hnc : (n : Int) ≤ 1048576 := by omega
  go_enter Try.func70, Try.ntmps70
  go_wp2_with (fail)
  go_loopw [1, 5] (fun x i wr => ∃ k : Nat, k ≤ n ∧ i = .int .i64 (k : Int) ∧ x = .int .i64 ((k0 + 2 * k : Nat) : Int) ∧ Below w.heap.size w wr) (fun _ i _ => n - (intOf i).toNat)
  case atStart => exact ⟨0, Nat.zero_le _, rfl, by simp, Below.refl _ _⟩
  case round =>
    obtain ⟨k, hk, rfl, rfl, hbel⟩ := hrel
    have hs := hbel.size
    by_cases hkl : k < n
    · have hkm : k < (marksF k0 n).length := by rw [marksF_len]; exact hkl
      obtain ⟨b, off, rfl, hc⟩ := h.resolve_left (by intro e; rw [e] at hkm; simp at hkm)
      have c0 := hc k hkm
      rw [marksF_at] at c0
      have c := rangeKeep c0 hbel (rangeFl c0)
      have hkk : (k : Int) < (n : Int) := by omega
      obtain ⟨K, hK⟩ : ∃ K, K = k0 + 2 * k := ⟨_, rfl⟩
      have hK1 : K ≤ 1099521627776 := by omega
      have hblt := rangeFl c
      rw [← hK] at c ⊢
      have HE : Hid (K + 2 = k0 + 2 * (k + 1)) := Lib.hid (by omega)
      have hM := fun W => markText_any (K + 1) (by omega) (by omega) W
      rw [show ((K + 1 : Nat) : Int) = (K : Int) + 1 by omega] at hM
      obtain ⟨d0, d1⟩ := cellsFl c
      unfold mkF at d0 d1
      dsimp only at d0 d1
      generalize mkT (K + 1) = T at *
      clear hc c0 c h hK
      go_wp2_with (fail)
      go_region_held3 (fun w' => w'.cell? ⟨b, off + k * 2 + 1, none⟩ = some (.string ⟨T.toArray⟩)) (first | go_keep | (exact c2) | assumption)
        (first | (go_at_call 92; refine (hM _).mono ?_; rintro e w1 ⟨rfl, hb1⟩; have c2 := (hb1.cell (p := ⟨b, off + k * 2 + 1, none⟩) (by simp; omega)).trans d1; have hbel1 := (hbel.drew).trans (hb1.mono (by simp; omega))))
      go_wp2_with (fail)
      go_roundw
      case rel => exact ⟨k + 1, by omega, by go_num, by rw [← HE.out]; go_num, hbel1⟩
      case measure => simp [intOf]; omega
    · have ek : k = n := by omega
      subst ek
      go_wp2_with (fail)
      go_ret
      exact ⟨rfl, hbel⟩
/-- The marks of a wire. -/
def Wi.marked (x : Wi) (k : Nat) : List Fl := marksF k x.fls.length
set_option maxHeartbeats 1000000 in
theorem markWire_far {w : World} {lo hi : Nat} {x : Wi} {vf : Value} (h : OwnFlIn w lo hi vf x.fls) (hl : lo ≤ w.heap.size) (hn : x.fls.length ≤ 1048576) (k0 : Nat) (h0 : 0 < k0) (h1 : k0 ≤ 1048576) :
    Calls Try.prog 29 #[.agg (wiC x vf), .int .i64 (k0 : Int)] w fun e w' => e = .returned (.int .i64 ((k0 + 2 * x.fls.length : Nat) : Int)) ∧ OwnFlIn w' lo hi vf (x.marked k0) ∧ FarB lo hi w w' := by
  obtain ⟨al, cl, rfl, -⟩ := id h
  unfold wiC
  obtain ⟨W0, hW, hA, hB0, hS0⟩ := rows1 w #[.int .i64 x.seed, .int .i64 x.delay, .int .i64 x.jitter, .int .i64 x.loss, .int .i64 x.copies, .int .i64 x.damage, .int .i64 x.now, .slice al x.fls.length cl, .int .i64 x.sent, .int .i64 x.lost] 52
  have cA := rowCells hA
  have hM := markFlightS_far (h.keep hB0) hn k0 h0 (by omega)
  go_enter Try.func29, Try.ntmps29
  go_wp2_with (fail)
  try rw [hW]
  clear hW
  refine hM.mono ?_
  rintro e w1 ⟨rfl, ho, hf⟩
  go_wp2_with (fail)
  go_ret
  exact ⟨rfl, ho, (FarB.of_below hB0 hl).trans hf⟩
theorem heldWire_any {w : World} (x : Wi) {vf : Value} (k0 : Nat) (h : RdFl w vf (x.marked k0)) (hn : x.fls.length ≤ 1048576) (h0 : 0 < k0) (h1 : k0 ≤ 1048576) :
    Calls Try.prog 30 #[.agg (wiC x vf), .int .i64 (k0 : Int)] w fun e w' => e = .returned (.int .i64 ((k0 + 2 * x.fls.length : Nat) : Int)) ∧ Below w.heap.size w w' := by
  have hl : (x.marked k0).length = x.fls.length := marksF_len _ _
  obtain ⟨al, cl, rfl, -⟩ := id h
  rw [hl] at h ⊢
  unfold wiC
  obtain ⟨W0, hW, hA, hB0, hS0⟩ := rows1 w #[.int .i64 x.seed, .int .i64 x.delay, .int .i64 x.jitter, .int .i64 x.loss, .int .i64 x.copies, .int .i64 x.damage, .int .i64 x.now, .slice al x.fls.length cl, .int .i64 x.sent, .int .i64 x.lost] 52
  have cA := rowCells hA
  have hM := heldFlightS_any x.fls.length k0 (h.keep hB0) hn h0 (by omega)
  obtain ⟨m, hm⟩ : ∃ m, m = k0 + 2 * x.fls.length := ⟨_, rfl⟩
  rw [← hm] at hM ⊢
  have zm : decide ((m : Int) < 0) = false := by simp
  clear hm
  go_enter Try.func30, Try.ntmps30
  go_wp2_with (fail)
  try rw [hW]
  clear hW
  refine hM.mono ?_
  rintro e w1 ⟨rfl, hb1⟩
  go_wp2_with (fail)
  go_ret
  exact ⟨rfl, hB0.trans (hb1.mono hB0.size)⟩
end Go.Proofs.Yteafgghpkohfpab
