/-
  Texts of this proof: Mrk, Far.
-/
import Derived.Test.YtlffkcmbeolohaaGreatDoorM15
namespace Go.Proofs.YtlffkcmbeolohaaGreatDoor
open Go.RowKit
set_option linter.all false
def IntCh (B T : Nat) (w w' : World) : Prop := Below B w w' ∧ (∀ j, T ≤ j → j < w.heap.size → w'.heap[j]? = w.heap[j]?) ∧ (∀ p u, w.cell? p = some (.int .i64 u) → ∃ u', w'.cell? p = some (.int .i64 u')) ∧ (∀ p a l c, w.cell? p = some (.slice a l c) → w'.cell? p = some (.slice a l c)) ∧ ∀ p : Addr, p.block < w.heap.size → w'.frozen? p = w.frozen? p
theorem IntCh.trans {B T : Nat} {w w1 w2 : World} (h : IntCh B T w w1) (h' : IntCh B T w1 w2) : IntCh B T w w2 := by
  obtain ⟨a1, a2, a3, a4, a5⟩ := h
  obtain ⟨b1, b2, b3, b4, b5⟩ := h'
  have hs := a1.size
  refine ⟨a1.trans b1, fun j hj hl => (b2 j hj (by omega)).trans (a2 j hj hl), fun p u hp => ?_, fun p a l c hp => b4 _ _ _ _ (a4 _ _ _ _ hp), fun p hp => (b5 p (by omega)).trans (a5 p hp)⟩
  obtain ⟨u', h1⟩ := a3 p u hp
  exact b3 p u' h1
theorem IntCh.of_below {B T : Nat} {w w' : World} (hb : Below w.heap.size w w') (hB : B ≤ w.heap.size) : IntCh B T w w' :=
  ⟨hb.mono hB, fun j _ hl => hb.block j hl, fun p u hp => ⟨u, by rw [← hp]; exact hb.cell (World.block_lt_of_cell? w _ hp)⟩, fun p a l c hp => by rw [← hp]; exact hb.cell (World.block_lt_of_cell? w _ hp), fun p hp => hb.frozen hp⟩
theorem IntCh.set {B T : Nat} (w : World) {b k : Nat} {u : Int} (hc : w.cell? ⟨b, k, none⟩ = some (.int .i64 u)) (hB : B ≤ b) (hT : b < T) (n : Int) : IntCh B T w (w.setCell ⟨b, k, none⟩ (.int .i64 n)) := by
  refine ⟨(Below.refl _ _).setCell hB _, fun j hj _ => Below.heap_setCell _ _ _ j (by simp; omega), fun p u' hp => ?_, fun p a l c hp => ?_, fun p _ => World.frozen?_setCell _ _ _ _⟩
  · by_cases e : p = ⟨b, k, none⟩
    · subst e; exact ⟨n, World.cell?_setCell_same _ _ _ hc⟩
    · exact ⟨u', by rw [World.cell?_setCell_other _ _ _ _ (fun h => e h.symm)]; exact hp⟩
  · have e : ¬ (⟨b, k, none⟩ : Addr) = p := by intro e; rw [← e, hc] at hp; simp at hp
    rw [World.cell?_setCell_other _ _ _ _ e]; exact hp
theorem OwnI.ch {B T : Nat} {w w' : World} {v : Value} {xs : List Int} (h : OwnI w T v xs) (hc : IntCh B T w w') : OwnI w' T v xs := by
  obtain ⟨a, cap, hv, h⟩ := h
  refine ⟨a, cap, hv, ?_⟩
  by_cases hx : xs = []
  · exact .inl hx
  rcases h with h | ⟨b, hB, ha, hr⟩
  · exact .inl h
  · have hl := hr.lt hx
    have he := hc.2.1 b hB hl
    refine .inr ⟨b, hB, ha, fun j hj => ?_, fun j hj => ?_⟩
    · rw [World.cell?_of_block (w := w) he]; exact hr.1 j hj
    · rw [hc.2.2.2.2 _ hl]; exact hr.2 j hj
def MkI (w : World) (B T : Nat) (v : Value) (n : Nat) : Prop := ∃ a cap, v = .slice a n cap ∧ (n = 0 ∨ ∃ b, B ≤ b ∧ b < T ∧ b < w.heap.size ∧ a = some ⟨b, 0, none⟩ ∧ ∀ j, j < n → (∃ u, w.cell? ⟨b, j, none⟩ = some (.int .i64 u)) ∧ w.frozen? ⟨b, j, none⟩ = false)
theorem MkI.of_own {w : World} {B C : Nat} {v : Value} {xs : List Int} (h : OwnI w C v xs) (hB : B ≤ C) : MkI w B w.heap.size v xs.length := by
  obtain ⟨a, cap, hv, h⟩ := h
  refine ⟨a, cap, hv, ?_⟩
  by_cases hx : xs = []
  · exact .inl (by rw [hx]; rfl)
  rcases h with h | ⟨b, hC, ha, hr⟩
  · exact absurd h hx
  · have hl := hr.lt hx
    exact .inr ⟨b, by omega, hl, hl, ha, fun j hj => ⟨⟨_, hr.1 j hj⟩, hr.2 j hj⟩⟩
theorem MkI.ch {w w' : World} {B T : Nat} {v : Value} {n : Nat} (h : MkI w B T v n) (hc : IntCh B T w w') : MkI w' B T v n := by
  obtain ⟨a, cap, hv, h⟩ := h
  refine ⟨a, cap, hv, ?_⟩
  rcases h with h | ⟨b, hB, hT, hl, ha, hr⟩
  · exact .inl h
  · have hs := hc.1.size
    refine .inr ⟨b, hB, hT, by omega, ha, fun j hj => ?_⟩
    obtain ⟨⟨u, h1⟩, h2⟩ := hr j hj
    exact ⟨hc.2.2.1 _ _ h1, by rw [hc.2.2.2.2 _ hl]; exact h2⟩
theorem MkI.slice {w : World} {B T : Nat} {v : Value} {n : Nat} (h : MkI w B T v n) : ∃ a cap, v = .slice a n cap := by
  obtain ⟨a, cap, hv, -⟩ := h; exact ⟨a, cap, hv⟩
def MkR (w : World) (B T : Nat) (v : Value) (X : Rowi) : Prop := ∃ a cap, v = .slice a X.length cap ∧ (X = [] ∨ ∃ g, a = some ⟨g, 0, none⟩ ∧ ∀ j (h : j < X.length), ∃ u, w.cell? ⟨g, j, none⟩ = some u ∧ MkI w B T u X[j].length)
theorem MkR.of_wr {w : World} {B : Nat} {v : Value} {X : Rowi} (h : WrR w B v X) : MkR w B w.heap.size v X := by
  obtain ⟨a, cap, hv, h⟩ := h
  refine ⟨a, cap, hv, ?_⟩
  rcases h with h | ⟨g, hB, ha, hr⟩
  · exact .inl h
  · refine .inr ⟨g, ha, fun j hj => ?_⟩
    obtain ⟨u, h1, h2⟩ := hr.1 j hj
    exact ⟨u, h1, MkI.of_own h2 (by omega)⟩
theorem MkR.ch {w w' : World} {B T : Nat} {v : Value} {X : Rowi} (h : MkR w B T v X) (hc : IntCh B T w w') : MkR w' B T v X := by
  obtain ⟨a, cap, hv, h⟩ := h
  refine ⟨a, cap, hv, ?_⟩
  rcases h with h | ⟨g, ha, hr⟩
  · exact .inl h
  · refine .inr ⟨g, ha, fun j hj => ?_⟩
    obtain ⟨u, h1, h2⟩ := hr j hj
    obtain ⟨a', c', rfl⟩ := h2.slice
    exact ⟨_, hc.2.2.2.1 _ _ _ _ h1, h2.ch hc⟩
set_option maxHeartbeats 400000 in
theorem markIntS_ch {w : World} {B T : Nat} {v : Value} {n : Nat} (h : MkI w B T v n) (hn : n ≤ 1048576) (k0 : Int) (h0 : 0 ≤ k0) (h1 : k0 ≤ 1099511627776) :
    Calls Tryz.prog 16 #[v, .int .i64 k0] w fun e w' => e = .returned (.int .i64 (k0 + n)) ∧ IntCh B T w w' := by
  have HM := Lib.hid h
  obtain ⟨a, cap, rfl, h⟩ := h
  by_cases hx : n = 0
  · subst hx
    clear HM
    go_enter Tryz.func16, Tryz.ntmps16
    go_wp2
    refine wp_loop_once ?_
    go_wp2
    go_ret
    exact ⟨ret_int (by simp), ⟨Below.refl _ _, fun _ _ _ => rfl, fun _ u h => ⟨u, h⟩, fun _ _ _ _ h => h, fun _ _ => rfl⟩⟩
  · obtain ⟨b, hB, hT, hl, rfl, hr⟩ := h.resolve_left hx
    clear hr h
    go_enter Tryz.func16, Tryz.ntmps16
    go_wp2_with (fail)
    go_loopw [1, 5] (fun x i wr => ∃ k : Nat, k ≤ n ∧ i = .int .i64 k ∧ x = .int .i64 (k0 + k) ∧ IntCh B T w wr) (fun _ i _ => n - (intOf i).toNat)
    case atStart => exact ⟨0, Nat.zero_le _, rfl, by go_num, ⟨Below.refl _ _, fun _ _ _ => rfl, fun _ u h => ⟨u, h⟩, fun _ _ _ _ h => h, fun _ _ => rfl⟩⟩
    case round =>
      obtain ⟨k, hk, rfl, rfl, hch⟩ := hrel
      by_cases hkl : k < n
      · obtain ⟨a2, cap2, e, h2⟩ := HM.out.ch hch
        simp only [Value.slice.injEq, true_and] at e
        obtain ⟨rfl, rfl⟩ := e
        obtain ⟨b2, hB2, hT2, hl2, e, hr⟩ := h2.resolve_left hx
        simp only [Option.some.injEq, Addr.mk.injEq, and_true] at e
        subst e
        obtain ⟨⟨u, c2⟩, f2⟩ := hr k hkl
        have HS := Lib.hid (hch.trans (IntCh.set wr c2 hB2 hT2 (k0 + k)))
        have hkk : (k : Int) < (n : Int) := by omega
        clear hr h2 hch HM
        go_wp2_with (fail)
        go_roundw
        case rel => exact ⟨k + 1, by omega, by go_num, by go_num, HS.out⟩
        case measure => simp [intOf]; omega
      · have ek : k = n := by omega
        subst ek
        go_wp2_with (fail)
        go_ret
        exact ⟨rfl, hch⟩
set_option maxHeartbeats 400000 in
theorem markIntSS_ch {w : World} {B T : Nat} {v : Value} {X : Rowi} (h : MkR w B T v X) (hn : X.length ≤ 1048576) (hi : totalR X ≤ 1048576) (k0 : Int) (h0 : 0 ≤ k0) (h1 : k0 ≤ 1073741824) :
    Calls Tryz.prog 23 #[v, .int .i64 k0] w fun e w' => e = .returned (.int .i64 (k0 + (totalR X : Nat))) ∧ IntCh B T w w' := by
  have HM := Lib.hid h
  obtain ⟨a, cap, rfl, h⟩ := h
  have hid : IntCh B T w w := ⟨Below.refl _ _, fun _ _ _ => rfl, fun _ u h => ⟨u, h⟩, fun _ _ _ _ h => h, fun _ _ => rfl⟩
  by_cases hx : X = []
  · subst hx
    clear HM
    go_enter Tryz.func23, Tryz.ntmps23
    go_wp2
    refine wp_loop_once ?_
    go_wp2
    go_ret
    exact ⟨ret_int (by simp [totalR]), hid⟩
  · obtain ⟨g, rfl, -⟩ := h.resolve_left hx
    clear h
    go_enter Tryz.func23, Tryz.ntmps23
    go_wp2_with (fail)
    go_loopw [1, 5] (fun x i wr => ∃ (k : Nat) (r : Int), k ≤ X.length ∧ i = .int .i64 (k : Int) ∧ x = .int .i64 r ∧ r = k0 + (totalR (X.take k) : Nat) ∧ totalR (X.take k) ≤ totalR X ∧ IntCh B T w wr) (fun _ i _ => X.length - (intOf i).toNat)
    case atStart => exact ⟨0, k0, Nat.zero_le _, rfl, rfl, by simp [totalR], by simp [totalR], hid⟩
    case round =>
      obtain ⟨k, r, hk, rfl, rfl, hr, hle, hch⟩ := hrel
      by_cases hkl : k < X.length
      · obtain ⟨a2, cap2, e, h2⟩ := HM.out.ch hch
        simp only [Value.slice.injEq, true_and] at e
        obtain ⟨rfl, rfl⟩ := e
        obtain ⟨g2, e, hc⟩ := h2.resolve_left hx
        simp only [Option.some.injEq, Addr.mk.injEq, and_true] at e
        subst e
        obtain ⟨u, c2, hu⟩ := hc k hkl
        have hsn := totalR_snoc X k hkl
        have hle2 : totalR (X.take (k + 1)) ≤ totalR X := by
          unfold totalR
          conv => rhs; rw [← List.take_append_drop (k + 1) X]
          rw [List.map_append, List.sum_append]; omega
        have hm := markIntS_ch hu (by omega) r (by omega) (by omega)
        have hkk : (k : Int) < (X.length : Int) := by omega
        have HR := Lib.hid hr
        have HN := Lib.hid hsn
        obtain ⟨a3, cap3, rfl⟩ := hu.slice
        clear hc h2 HM hr hsn hu hid
        generalize X[k].length = n at *
        go_wp2_with (fail)
        refine hm.mono ?_
        rintro e w1 ⟨rfl, hc1⟩
        go_wp2_with (fail)
        go_roundw
        case rel => exact ⟨k + 1, _, by omega, by go_num, rfl, by have := HR.out; have := HN.out; omega, hle2, hch.trans hc1⟩
        case measure => simp [intOf]; omega
      · have ek : k = X.length := by omega
        subst ek
        rw [List.take_of_length_le (Nat.le_refl _)] at hr
        have HR := Lib.hid hr
        clear hr
        go_wp2_with (fail)
        go_ret
        exact ⟨by rw [← HR.out]; rfl, hch⟩
end Go.Proofs.YtlffkcmbeolohaaGreatDoor
namespace Go.Proofs.YtlffkcmbeolohaaGreatDoor
open Go.RowKit
set_option linter.all false
def FarB (lo hi : Nat) (w w' : World) : Prop := Below lo w w' ∧ ∀ j, hi ≤ j → j < w.heap.size → w'.heap[j]? = w.heap[j]?
theorem IntCh.farB {B T : Nat} {w w' : World} (h : IntCh B T w w') : FarB B T w w' := ⟨h.1, h.2.1⟩
theorem FarB.trans {lo hi : Nat} {w w1 w2 : World} (h : FarB lo hi w w1) (h' : FarB lo hi w1 w2) : FarB lo hi w w2 := by
  have hs := h.1.size
  exact ⟨h.1.trans h'.1, fun j hj hl => (h'.2 j hj (by omega)).trans (h.2 j hj hl)⟩
theorem FarB.wide {lo hi l h : Nat} {w w' : World} (hf : FarB l h w w') (h1 : lo ≤ l) (h2 : h ≤ hi) : FarB lo hi w w' := ⟨hf.1.mono h1, fun j hj hl => hf.2 j (by omega) hl⟩
theorem FarB.of_below {lo hi : Nat} {w w' : World} (hb : Below w.heap.size w w') (hl : lo ≤ w.heap.size) : FarB lo hi w w' := ⟨hb.mono hl, fun j _ h => hb.block j h⟩
theorem keepHeapFar {lo hi : Nat} {w w' : World} {k : Nat} {o : Obj} (hf : FarB lo hi w w') (h : w.heap[k]? = some o) (hk : k < lo ∨ hi ≤ k) : w'.heap[k]? = some o := by
  have hlt : k < w.heap.size := (Array.getElem?_eq_some_iff.1 h).1
  rcases hk with hk | hk
  · rw [hf.1.block k hk]; exact h
  · rw [hf.2 k hk hlt]; exact h
theorem blockLt {w : World} {k : Nat} {o : Obj} (h : w.heap[k]? = some o) : k < w.heap.size := (Array.getElem?_eq_some_iff.1 h).1
theorem OwnIn.keep {w w' : World} {lo hi : Nat} {v : Value} {xs : List Int} (h : OwnIn w lo hi v xs) (hb : Below w.heap.size w w') : OwnIn w' lo hi v xs := by
  obtain ⟨a, cap, rfl, h⟩ := h
  refine ⟨a, cap, rfl, ?_⟩
  by_cases hx : xs = []
  · exact .inl hx
  · obtain ⟨b, h1, h2, rfl, hr⟩ := h.resolve_left hx
    exact .inr ⟨b, h1, h2, rfl, hr.same (hb.block b (hr.lt hx))⟩
theorem OwnIn.afar {w w' : World} {lo hi l1 h1 : Nat} {v : Value} {xs : List Int} (h : OwnIn w l1 h1 v xs) (hf : FarB lo hi w w') (hle : hi ≤ l1) : OwnIn w' l1 h1 v xs := by
  obtain ⟨a, cap, rfl, h⟩ := h
  refine ⟨a, cap, rfl, ?_⟩
  by_cases hx : xs = []
  · exact .inl hx
  · obtain ⟨b, hb1, hb2, rfl, hr⟩ := h.resolve_left hx
    exact .inr ⟨b, hb1, hb2, rfl, hr.same (hf.2 b (by omega) (hr.lt hx))⟩
theorem OwnIn.apart2 {w w' : World} {lo hi l1 h1 : Nat} {v : Value} {xs : List Int} (h : OwnIn w l1 h1 v xs) (hf : FarB lo hi w w') (hd : hi ≤ l1 ∨ h1 ≤ lo) : OwnIn w' l1 h1 v xs := by
  obtain ⟨a, cap, rfl, h⟩ := h
  refine ⟨a, cap, rfl, ?_⟩
  by_cases hx : xs = []
  · exact .inl hx
  · obtain ⟨b, hb1, hb2, rfl, hr⟩ := h.resolve_left hx
    refine .inr ⟨b, hb1, hb2, rfl, hr.same ?_⟩
    rcases hd with hd | hd
    · exact hf.2 b (by omega) (hr.lt hx)
    · exact hf.1.block b (by omega)
theorem OwnIn.low {w w' : World} {lo hi B : Nat} {v : Value} {xs : List Int} (h : OwnIn w lo hi v xs) (hb : Below B w w') (hle : hi ≤ B) : OwnIn w' lo hi v xs := by
  obtain ⟨a, cap, rfl, h⟩ := h
  refine ⟨a, cap, rfl, ?_⟩
  by_cases hx : xs = []
  · exact .inl hx
  · obtain ⟨b, hb1, hb2, rfl, hr⟩ := h.resolve_left hx
    exact .inr ⟨b, hb1, hb2, rfl, hr.same (hb.block b (by omega))⟩
theorem OwnIn.rd {w : World} {lo hi : Nat} {v : Value} {xs : List Int} (h : OwnIn w lo hi v xs) : RdI w v xs := h.own.rd
theorem markIntS_far {w : World} {lo hi : Nat} {v : Value} {xs : List Int} (h : OwnIn w lo hi v xs) (hn : xs.length ≤ 1048576) (k0 : Int) (h0 : 0 ≤ k0) (h1 : k0 ≤ 1099511627776) :
    Calls Tryz.prog 16 #[v, .int .i64 k0] w fun e w' => e = .returned (.int .i64 (k0 + xs.length)) ∧ OwnIn w' lo hi v (marks k0 xs.length) ∧ FarB lo hi w w' := by
  refine (markIntS_full h hn k0 h0 h1).mono ?_
  rintro e w' ⟨rfl, ho, hb, hf⟩
  refine ⟨rfl, ho, hb, fun j hj _ => hf j ?_⟩
  obtain ⟨a, cap, rfl, h⟩ := h
  by_cases hx : xs = []
  · exact .inl hx
  · obtain ⟨b', hb1, hb2', ha, hr⟩ := h.resolve_left hx
    subst ha
    right
    intro e
    have : j = b' := by simpa [Value.ownBlock] using e
    omega
end Go.Proofs.YtlffkcmbeolohaaGreatDoor
