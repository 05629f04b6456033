/-
  Slices of ints: what is read from them, what a call owns of them; the laws' helpers toIntS, eqIntS, markIntS, heldIntS. Lists of at most 2^40 numbers.
-/
import Derived.Test.YtlffkcmbeolohaaPure
namespace Go.Proofs.Ytlffkcmbeolohaa
open Go.RowKit
set_option linter.all false

/-- The slice v reads as the numbers xs. -/
def RdI (w : World) (v : Value) (xs : List Int) : Prop :=
  ∃ a cap, v = .slice a xs.length cap ∧ (xs = [] ∨ ∃ b off, a = some ⟨b, off, none⟩ ∧ ∀ j (h : j < xs.length), w.cell? ⟨b, off + j, none⟩ = some (.int .i64 xs[j]))
/-- Block b holds the numbers xs, and they may be written. -/
def RowI (w : World) (b : Nat) (xs : List Int) : Prop := (∀ j (h : j < xs.length), w.cell? ⟨b, j, none⟩ = some (.int .i64 xs[j])) ∧ ∀ j, j < xs.length → w.frozen? ⟨b, j, none⟩ = false
/-- The slice v is the call's own, among blocks from B on, and holds the numbers xs. -/
def OwnI (w : World) (B : Nat) (v : Value) (xs : List Int) : Prop :=
  ∃ a cap, v = .slice a xs.length cap ∧ (xs = [] ∨ ∃ b, B ≤ b ∧ a = some ⟨b, 0, none⟩ ∧ RowI w b xs)
theorem OwnI.rd {w : World} {B : Nat} {v : Value} {xs : List Int} (h : OwnI w B v xs) : RdI w v xs := by
  obtain ⟨a, cap, hv, h⟩ := h
  refine ⟨a, cap, hv, ?_⟩
  rcases h with h | ⟨b, hB, ha, hr⟩
  · exact .inl h
  · exact .inr ⟨b, 0, ha, fun j hj => by rw [Nat.zero_add]; exact hr.1 j hj⟩
theorem RdI.keep {w w' : World} {v : Value} {xs : List Int} (h : RdI w v xs) (hb : Below w.heap.size w w') : RdI w' v xs := by
  obtain ⟨a, cap, hv, h⟩ := h
  refine ⟨a, cap, hv, ?_⟩
  rcases h with h | ⟨b, off, ha, hr⟩
  · exact .inl h
  · refine .inr ⟨b, off, ha, fun j hj => ?_⟩
    have := hr j hj
    rw [← this]
    exact hb.cell (World.block_lt_of_cell? w _ this)
theorem RowI.keep {w w' : World} {b : Nat} {xs : List Int} (h : RowI w b xs) (hx : xs ≠ []) {C : Nat} (hb : Below C w w') (hC : b < C) : RowI w' b xs :=
  ⟨fun j hj => by rw [← h.1 j hj]; exact hb.cell hC, fun j hj => by rw [← h.2 j hj]; exact hb.frozen hC⟩
theorem RowI.lt {w : World} {b : Nat} {xs : List Int} (h : RowI w b xs) (hx : xs ≠ []) : b < w.heap.size := by
  have : 0 < xs.length := List.length_pos_iff.2 hx
  exact World.block_lt_of_cell? w _ (h.1 0 this)
theorem OwnI.keep {w w' : World} {B : Nat} {v : Value} {xs : List Int} (h : OwnI w B v xs) (hb : Below w.heap.size w w') : OwnI w' B v xs := by
  obtain ⟨a, cap, hv, h⟩ := h
  refine ⟨a, cap, hv, ?_⟩
  by_cases hx : xs = []
  · exact .inl hx
  rcases h with h | ⟨b, hB, ha, hr⟩
  · exact .inl h
  · exact .inr ⟨b, hB, ha, hr.keep hx hb (hr.lt hx)⟩
theorem RowI.set {w : World} {b : Nat} {xs : List Int} (h : RowI w b xs) (k : Nat) (hk : k < xs.length) (x : Int) : RowI (w.setCell ⟨b, k, none⟩ (.int .i64 x)) b (xs.set k x) := by
  refine ⟨fun j hj => ?_, fun j hj => ?_⟩
  · rw [List.length_set] at hj
    by_cases e : k = j
    · subst e
      rw [List.getElem_set_self]
      exact World.cell?_setCell_same _ _ _ (h.1 k hk)
    · rw [List.getElem_set_ne e]
      rw [World.cell?_setCell_other _ _ _ _ (by simpa using e)]
      exact h.1 j hj
  · rw [List.length_set] at hj
    rw [World.frozen?_setCell]; exact h.2 j hj
theorem RowI.zeros (w : World) (n : Nat) : RowI (w.alloc (.cells (madeCells #[.int .i64 0] n) 3)) w.heap.size (List.replicate n 0) := by
  refine ⟨fun j hj => ?_, fun j hj => ?_⟩
  · rw [List.length_replicate] at hj
    rw [World.cell?_alloc_mark, List.getElem_replicate, ← Array.getElem?_toList, toList_madeCells_one]
    simp [hj]
  · rw [World.frozen?_alloc_mark]; simp
theorem RdI.of_row {w : World} {a : Option Addr} {len cap : Nat} {zs : List Int} (h : IsRow .i64 w a len cap zs) : RdI w (.slice a len cap) (zs.take len) ∧ (zs.take len).length = len ∧ ∀ n ∈ zs.take len, (Lit.int .i64 n).wf = true := by
  rcases h with ⟨rfl, rfl, rfl, rfl⟩ | ⟨x, rfl, hl, hm, hz, hc, hw⟩
  · exact ⟨⟨none, 0, rfl, .inl rfl⟩, rfl, by simp⟩
  · have hlen : (zs.take len).length = len := by rw [List.length_take]; omega
    refine ⟨⟨some x, cap, by rw [hlen], ?_⟩, hlen, fun n hn => hw n (List.mem_of_mem_take hn)⟩
    by_cases h0 : len = 0
    · subst h0; exact .inl rfl
    · obtain ⟨b, off, spot⟩ := x
      have hc0 := hc 0 (by omega)
      have hspot : spot = none := by simpa [Addr.add] using World.cell?_spot hc0
      subst hspot
      refine .inr ⟨b, off, rfl, fun j hj => ?_⟩
      rw [hlen] at hj
      have := hc j (by omega)
      rw [show (⟨b, off, none⟩ : Addr).add j = ⟨b, off + j, none⟩ by unfold Addr.add; split <;> simp_all] at this
      rw [this, List.getElem_take, List.getD_eq_getElem?_getD, List.getElem?_eq_getElem (by omega)]; rfl

def RetRd (w : World) (xs : List Int) (e : Ending) (w' : World) : Prop := ∃ v, e = .returned v ∧ RdI w' v xs ∧ Below w.heap.size w w'
theorem info_int : (Try.prog.info? 3).map (fun i => (i.zero, i.size, i.bytes)) = some (some (.int .i64 0), 1, 8) := by kernel_rfl
theorem run_make_ints (W : World) (n : Nat) (hn : n ≤ 1099511627776) : (Instr.makeSlice 27 (.int .i64 (n : Int)) (.int .i64 (n : Int))).run Try.prog W = .ok (.slice (some ⟨W.heap.size, 0, none⟩) n n) (W.alloc (.cells (madeCells #[.int .i64 0] n) 3)) := by
  obtain ⟨i0, hi, hz0, hz1, hz2⟩ := info_parts info_int
  have := run_make (P := Try.prog) W 27 3 i0 (.int .i64 0) Try.underlying27 hi hz0 .i64 .i64 n n (by omega) (Int.le_refl _) (by rw [hz2]; omega) (by omega)
  rw [this, hz1, Nat.mul_one, Int.toNat_natCast]; rfl
set_option maxHeartbeats 400000 in
theorem toIntS_any {w : World} {v : Value} {xs : List Int} (h : RdI w v xs) (hn : xs.length ≤ 1099511627776) :
    Calls Try.prog 26 #[v] w (RetRd w xs) := by
  obtain ⟨a, cap, rfl, h⟩ := h
  have hmk := fun W => run_make_ints W xs.length hn
  by_cases hx : xs = []
  · subst hx
    have hmk0 : ∀ W, (Instr.makeSlice 27 (.int .i64 0) (.int .i64 0)).run Try.prog W = .ok (.slice (some ⟨W.heap.size, 0, none⟩) 0 0) (W.alloc (.cells (madeCells #[.int .i64 0] 0) 3)) := fun W => run_make_ints W 0 (by omega)
    clear hmk
    go_enter Try.func26, Try.ntmps26
    go_wp2
    refine wp_loop_once ?_
    go_wp2
    go_ret
    exact ⟨_, rfl, ⟨_, _, rfl, .inl rfl⟩, (Below.refl _ _).alloc (Nat.le_refl _) _⟩
  · obtain ⟨b, off, rfl, hc⟩ := h.resolve_left hx
    have hpos : 0 < xs.length := List.length_pos_iff.2 hx
    have hlt := World.block_lt_of_cell? w _ (hc 0 hpos)
    go_enter Try.func26, Try.ntmps26
    go_wp2
    go_loopw [4] (fun i wr => ∃ (k : Nat) (L : List Int), k ≤ xs.length ∧ i = .int .i64 k ∧ L.length = xs.length ∧ L.take k = xs.take k ∧ RowI wr w.heap.size L ∧ Below w.heap.size w wr) (fun i _ => xs.length - (intOf i).toNat)
    case atStart =>
      exact ⟨0, _, Nat.zero_le _, rfl, List.length_replicate, rfl, RowI.zeros w _, (Below.refl _ _).alloc (Nat.le_refl _) _⟩
    case round =>
      obtain ⟨k, L, hk, rfl, hL, htk, hrow, hbel⟩ := hrel
      by_cases hkl : k < xs.length
      · have c1 : wr.cell? ⟨b, off + k, none⟩ = some (.int .i64 xs[k]) := (hbel.cell hlt).trans (hc k hkl)
        obtain ⟨u, c2⟩ : ∃ u, wr.cell? ⟨w.heap.size, k, none⟩ = some (.int .i64 u) := ⟨_, hrow.1 k (by omega)⟩
        have f2 := hrow.2 k (by omega)
        have HS := Lib.hid (hrow.set k (by omega) xs[k])
        have HL := Lib.hid hL
        have HT := Lib.hid htk
        clear hrow hL htk
        go_wp2
        go_roundw
        case rel =>
          refine ⟨k + 1, L.set k xs[k], by omega, by go_num, by rw [List.length_set]; exact HL.out, ?_, HS.out, hbel.setCell (Nat.le_refl _) _⟩
          rw [List.take_succ_eq_append_getElem (by rw [List.length_set, HL.out]; exact hkl), List.take_succ_eq_append_getElem hkl, List.take_set_of_le (Nat.le_refl _), HT.out, List.getElem_set_self]
        case measure => simp [intOf]; omega
      · have e : L = xs := by
          rw [List.take_of_length_le (by omega), List.take_of_length_le (by omega)] at htk
          exact htk
        subst e
        go_wp2
        go_ret
        exact ⟨_, rfl, ⟨_, _, rfl, .inr ⟨_, 0, rfl, fun j hj => by rw [Nat.zero_add]; exact hrow.1 j hj⟩⟩, hbel⟩
set_option maxHeartbeats 400000 in
theorem eqIntS_same {w : World} {v v' : Value} {xs : List Int} (h : RdI w v xs) (h' : RdI w v' xs) (hn : xs.length ≤ 1099511627776) :
    Calls Try.prog 27 #[v, v'] w fun e w' => e = .returned (.bool true) ∧ ∃ n, w' = w.drewN n := by
  obtain ⟨a, cap, rfl, h⟩ := h
  obtain ⟨a', cap', rfl, h'⟩ := h'
  by_cases hx : xs = []
  · subst hx
    go_enter Try.func27, Try.ntmps27
    go_wp2
    refine wp_loop_once ?_
    go_wp2
    go_ret
    exact ⟨rfl, 0, rfl⟩
  · obtain ⟨b, off, rfl, hc⟩ := h.resolve_left hx
    obtain ⟨b', off', rfl, hc'⟩ := h'.resolve_left hx
    go_enter Try.func27, Try.ntmps27
    go_wp2
    go_loopw [5] (fun i wr => ∃ k n : Nat, k ≤ xs.length ∧ i = .int .i64 k ∧ wr = w.drewN n) (fun i _ => xs.length - (intOf i).toNat)
    case atStart => exact ⟨0, 0, Nat.zero_le _, rfl, rfl⟩
    case round =>
      obtain ⟨k, n, hk, rfl, rfl⟩ := hrel
      by_cases hkl : k < xs.length
      · have c1 := hc k hkl
        have c2 := hc' k hkl
        have hl1 : (k : Int) < (xs.length : Int) := by omega
        clear h h'
        go_wp2
        go_quiet (fail)
        go_wp2
        go_roundw
        case rel => exact ⟨k + 1, _, by omega, by go_num, rfl⟩
        case measure => simp [intOf]; omega
      · go_wp2
        go_ret
        exact ⟨rfl, n, rfl⟩
def marks (k : Int) : Nat → List Int
  | 0 => []
  | n + 1 => k :: marks (k + 1) n
theorem marks_len (n : Nat) : ∀ k, (marks k n).length = n := by
  induction n with
  | zero => intro k; rfl
  | succ n ih => intro k; simp [marks, ih]
theorem marks_at (n : Nat) : ∀ k j (h : j < (marks k n).length), (marks k n)[j] = k + j := by
  induction n with
  | zero => intro k j h; simp [marks] at h
  | succ n ih =>
    intro k j h
    match j with
    | 0 => simp [marks]
    | j + 1 =>
      simp only [marks, List.getElem_cons_succ]
      rw [ih]; omega
def RetMark (w : World) (B : Nat) (v : Value) (n : Nat) (k : Int) (e : Ending) (w' : World) : Prop := e = .returned (.int .i64 (k + n)) ∧ OwnI w' B v (marks k n) ∧ Below B w w'
set_option maxHeartbeats 400000 in
theorem markIntS_any {w : World} {B : Nat} {v : Value} {xs : List Int} (h : OwnI w B v xs) (hn : xs.length ≤ 1099511627776) (k0 : Int) (h0 : 0 ≤ k0) (h1 : k0 ≤ 1099511627776) :
    Calls Try.prog 28 #[v, .int .i64 k0] w (RetMark w B v xs.length k0) := by
  obtain ⟨a, cap, rfl, h⟩ := h
  by_cases hx : xs = []
  · subst hx
    go_enter Try.func28, Try.ntmps28
    go_wp2
    refine wp_loop_once ?_
    go_wp2
    go_ret
    exact ⟨ret_int (by simp), ⟨_, _, rfl, .inl rfl⟩, Below.refl _ _⟩
  · obtain ⟨b, hB, rfl, hr⟩ := h.resolve_left hx
    go_enter Try.func28, Try.ntmps28
    go_wp2
    go_loopw [1, 5] (fun x i wr => ∃ (k : Nat) (L : List Int), k ≤ xs.length ∧ i = .int .i64 k ∧ x = .int .i64 (k0 + k) ∧ L.length = xs.length ∧ L.take k = (marks k0 xs.length).take k ∧ RowI wr b L ∧ Below B w wr) (fun _ i _ => xs.length - (intOf i).toNat)
    case atStart => exact ⟨0, xs, Nat.zero_le _, rfl, by go_num, rfl, rfl, hr, Below.refl _ _⟩
    case round =>
      obtain ⟨k, L, hk, rfl, rfl, hL, htk, hrow, hbel⟩ := hrel
      by_cases hkl : k < xs.length
      · obtain ⟨u, c2⟩ : ∃ u, wr.cell? ⟨b, k, none⟩ = some (.int .i64 u) := ⟨_, hrow.1 k (by omega)⟩
        have f2 := hrow.2 k (by omega)
        have HS := Lib.hid (hrow.set k (by omega) (k0 + k))
        have HL := Lib.hid hL
        have HT := Lib.hid htk
        clear hrow hL htk h
        go_wp2
        go_roundw
        case rel =>
          refine ⟨k + 1, L.set k (k0 + k), by omega, by go_num, by go_num, by rw [List.length_set]; exact HL.out, ?_, HS.out, hbel.setCell hB _⟩
          rw [List.take_succ_eq_append_getElem (by rw [List.length_set, HL.out]; exact hkl), List.take_succ_eq_append_getElem (by rw [marks_len]; exact hkl), List.take_set_of_le (Nat.le_refl _), HT.out, List.getElem_set_self, marks_at]
        case measure => simp [intOf]; omega
      · have e : L = marks k0 xs.length := by
          rw [List.take_of_length_le (by omega), List.take_of_length_le (by rw [marks_len]; omega)] at htk
          exact htk
        have HE := Lib.hid e
        have ek : k = xs.length := by omega
        subst ek
        clear e h
        go_wp2
        go_ret
        refine ⟨rfl, ⟨_, _, by rw [marks_len], .inr ⟨b, hB, rfl, ?_⟩⟩, hbel⟩
        rw [← HE.out]; exact hrow
set_option maxHeartbeats 400000 in
theorem heldIntS_any {w : World} {v : Value} (n : Nat) (k0 : Int) (h : RdI w v (marks k0 n)) (hn : n ≤ 1099511627776) (h0 : 0 ≤ k0) (h1 : k0 ≤ 1099511627776) :
    Calls Try.prog 29 #[v, .int .i64 k0] w fun e w' => e = .returned (.int .i64 (k0 + n)) ∧ w = w' := by
  obtain ⟨a, cap, rfl, h⟩ := h
  rw [marks_len]
  match n, hn, h with
  | 0, hn, h =>
    go_enter Try.func29, Try.ntmps29
    go_wp2
    refine wp_loop_once ?_
    go_wp2
    go_ret
    exact ⟨ret_int (by simp), rfl⟩
  | m + 1, hn, h =>
    obtain ⟨b, off, rfl, hc⟩ := h.resolve_left (by simp [marks])
    have hc' : ∀ j, j < m + 1 → w.cell? ⟨b, off + j, none⟩ = some (.int .i64 (k0 + j)) := fun j hj => by rw [hc j (by rw [marks_len]; exact hj), marks_at]
    clear hc h
    have HC := Lib.hid hc'; clear hc'
    go_enter Try.func29, Try.ntmps29
    go_wp2
    go_loop [1, 5] (fun x i => ∃ k : Nat, k ≤ m + 1 ∧ i = .int .i64 k ∧ x = .int .i64 (k0 + k)) (fun _ i => m + 1 - (intOf i).toNat)
    case atStart => exact ⟨0, Nat.zero_le _, rfl, by go_num⟩
    case round =>
      obtain ⟨k, hk, rfl, rfl⟩ := hrel
      by_cases hkl : k < m + 1
      · have c1 := HC.out k hkl
        go_wp2
        go_round
        case rel => exact ⟨k + 1, by omega, by go_num, by go_num⟩
        case measure => simp [intOf]; omega
      · have ek : k = m + 1 := by omega
        subst ek
        go_wp2
        go_ret
        exact ⟨rfl, rfl⟩
theorem OwnI.up {w : World} {B C : Nat} {v : Value} {xs : List Int} (h : OwnI w B v xs) (hC : C ≤ B) : OwnI w C v xs := by
  obtain ⟨a, cap, hv, h⟩ := h
  refine ⟨a, cap, hv, ?_⟩
  rcases h with h | ⟨b, hB, ha, hr⟩
  · exact .inl h
  · exact .inr ⟨b, by omega, ha, hr⟩
end Go.Proofs.Ytlffkcmbeolohaa
