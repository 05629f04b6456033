/-
  Slices of ints: what is read from them, what a call owns of them; the laws' helpers toIntS, eqIntS, markIntS, heldIntS. Lists of at most 2^40 numbers.
-/
import Derived.Test.YtgbdpmaajihfdaaPure
namespace Go.Proofs.Ytgbdpmaajihfdaa
open Go.RowKit
set_option linter.all false

/-- The slice v reads as the numbers xs. -/
def RdI (w : World) (v : Value) (xs : List Int) : Prop :=
  ∃ a cap, v = .slice a xs.length cap ∧ (xs = [] ∨ ∃ b off, a = some ⟨b, off, none⟩ ∧ ∀ j (h : j < xs.length), w.cell? ⟨b, off + j, none⟩ = some (.int .i64 xs[j]))
/-- Block b holds the numbers xs, and they may be written. -/
def RowI (w : World) (b : Nat) (xs : List Int) : Prop := (∀ j (h : j < xs.length), w.cell? ⟨b, j, none⟩ = some (.int .i64 xs[j])) ∧ ∀ j, j < xs.length → w.frozen? ⟨b, j, none⟩ = false
/-- The slice v is the call's own, among blocks from B on, and holds the numbers xs. -/
def OwnI (w : World) (B : Nat) (v : Value) (xs : List Int) : Prop :=
  ∃ a cap, v = .slice a xs.length cap ∧ (xs = [] ∨ ∃ b, B ≤ b ∧ a = some ⟨b, 0, none⟩ ∧ RowI w b xs)
theorem OwnI.rd {w : World} {B : Nat} {v : Value} {xs : List Int} (h : OwnI w B v xs) : RdI w v xs := by
  obtain ⟨a, cap, hv, h⟩ := h
  refine ⟨a, cap, hv, ?_⟩
  rcases h with h | ⟨b, hB, ha, hr⟩
  · exact .inl h
  · exact .inr ⟨b, 0, ha, fun j hj => by rw [Nat.zero_add]; exact hr.1 j hj⟩
theorem RdI.keep {w w' : World} {v : Value} {xs : List Int} (h : RdI w v xs) (hb : Below w.heap.size w w') : RdI w' v xs := by
  obtain ⟨a, cap, hv, h⟩ := h
  refine ⟨a, cap, hv, ?_⟩
  rcases h with h | ⟨b, off, ha, hr⟩
  · exact .inl h
  · refine .inr ⟨b, off, ha, fun j hj => ?_⟩
    have := hr j hj
    rw [← this]
    exact hb.cell (World.block_lt_of_cell? w _ this)
theorem RowI.keep {w w' : World} {b : Nat} {xs : List Int} (h : RowI w b xs) (hx : xs ≠ []) {C : Nat} (hb : Below C w w') (hC : b < C) : RowI w' b xs :=
  ⟨fun j hj => by rw [← h.1 j hj]; exact hb.cell hC, fun j hj => by rw [← h.2 j hj]; exact hb.frozen hC⟩
theorem RowI.lt {w : World} {b : Nat} {xs : List Int} (h : RowI w b xs) (hx : xs ≠ []) : b < w.heap.size := by
  have : 0 < xs.length := List.length_pos_iff.2 hx
  exact World.block_lt_of_cell? w _ (h.1 0 this)
theorem OwnI.keep {w w' : World} {B : Nat} {v : Value} {xs : List Int} (h : OwnI w B v xs) (hb : Below w.heap.size w w') : OwnI w' B v xs := by
  obtain ⟨a, cap, hv, h⟩ := h
  refine ⟨a, cap, hv, ?_⟩
  by_cases hx : xs = []
  · exact .inl hx
  rcases h with h | ⟨b, hB, ha, hr⟩
  · exact .inl h
  · exact .inr ⟨b, hB, ha, hr.keep hx hb (hr.lt hx)⟩
theorem RowI.set {w : World} {b : Nat} {xs : List Int} (h : RowI w b xs) (k : Nat) (hk : k < xs.length) (x : Int) : RowI (w.setCell ⟨b, k, none⟩ (.int .i64 x)) b (xs.set k x) := by
  refine ⟨fun j hj => ?_, fun j hj => ?_⟩
  · rw [List.length_set] at hj
    by_cases e : k = j
    · subst e
      rw [List.getElem_set_self]
      exact World.cell?_setCell_same _ _ _ (h.1 k hk)
    · rw [List.getElem_set_ne e]
      rw [World.cell?_setCell_other _ _ _ _ (by simpa using e)]
      exact h.1 j hj
  · rw [List.length_set] at hj
    rw [World.frozen?_setCell]; exact h.2 j hj
theorem RowI.zeros (w : World) (n : Nat) : RowI (w.alloc (.cells (madeCells #[.int .i64 0] n) 3)) w.heap.size (List.replicate n 0) := by
  refine ⟨fun j hj => ?_, fun j hj => ?_⟩
  · rw [List.length_replicate] at hj
    rw [World.cell?_alloc_mark, List.getElem_replicate, ← Array.getElem?_toList, toList_madeCells_one]
    simp [hj]
  · rw [World.frozen?_alloc_mark]; simp
theorem RdI.of_row {w : World} {a : Option Addr} {len cap : Nat} {zs : List Int} (h : IsRow .i64 w a len cap zs) : RdI w (.slice a len cap) (zs.take len) ∧ (zs.take len).length = len ∧ ∀ n ∈ zs.take len, (Lit.int .i64 n).wf = true := by
  rcases h with ⟨rfl, rfl, rfl, rfl⟩ | ⟨x, rfl, hl, hm, hz, hc, hw⟩
  · exact ⟨⟨none, 0, rfl, .inl rfl⟩, rfl, by simp⟩
  · have hlen : (zs.take len).length = len := by rw [List.length_take]; omega
    refine ⟨⟨some x, cap, by rw [hlen], ?_⟩, hlen, fun n hn => hw n (List.mem_of_mem_take hn)⟩
    by_cases h0 : len = 0
    · subst h0; exact .inl rfl
    · obtain ⟨b, off, spot⟩ := x
      have hc0 := hc 0 (by omega)
      have hspot : spot = none := by simpa [Addr.add] using World.cell?_spot hc0
      subst hspot
      refine .inr ⟨b, off, rfl, fun j hj => ?_⟩
      rw [hlen] at hj
      have := hc j (by omega)
      rw [show (⟨b, off, none⟩ : Addr).add j = ⟨b, off + j, none⟩ by unfold Addr.add; split <;> simp_all] at this
      rw [this, List.getElem_take, List.getD_eq_getElem?_getD, List.getElem?_eq_getElem (by omega)]; rfl

def RetRd (w : World) (xs : List Int) (e : Ending) (w' : World) : Prop := ∃ v, e = .returned v ∧ RdI w' v xs ∧ Below w.heap.size w w'
theorem info_int : (Try.prog.info? 3).map (fun i => (i.zero, i.size, i.bytes)) = some (some (.int .i64 0), 1, 8) := by kernel_rfl
theorem run_make_ints (W : World) (n : Nat) (hn : n ≤ 1099511627776) : (Instr.makeSlice 27 (.int .i64 (n : Int)) (.int .i64 (n : Int))).run Try.prog W = .ok (.slice (some ⟨W.heap.size, 0, none⟩) n n) (W.alloc (.cells (madeCells #[.int .i64 0] n) 3)) := by
  obtain ⟨i0, hi, hz0, hz1, hz2⟩ := info_parts info_int
  have := run_make (P := Try.prog) W 27 3 i0 (.int .i64 0) Try.underlying27 hi hz0 .i64 .i64 n n (by omega) (Int.le_refl _) (by rw [hz2]; omega) (by omega)
  rw [this, hz1, Nat.mul_one, Int.toNat_natCast]; rfl
def marks (k : Int) : Nat → List Int
  | 0 => []
  | n + 1 => k :: marks (k + 1) n
theorem marks_len (n : Nat) : ∀ k, (marks k n).length = n := by
  induction n with
  | zero => intro k; rfl
  | succ n ih => intro k; simp [marks, ih]
theorem marks_at (n : Nat) : ∀ k j (h : j < (marks k n).length), (marks k n)[j] = k + j := by
  induction n with
  | zero => intro k j h; simp [marks] at h
  | succ n ih =>
    intro k j h
    match j with
    | 0 => simp [marks]
    | j + 1 =>
      simp only [marks, List.getElem_cons_succ]
      rw [ih]; omega
theorem OwnI.up {w : World} {B C : Nat} {v : Value} {xs : List Int} (h : OwnI w B v xs) (hC : C ≤ B) : OwnI w C v xs := by
  obtain ⟨a, cap, hv, h⟩ := h
  refine ⟨a, cap, hv, ?_⟩
  rcases h with h | ⟨b, hB, ha, hr⟩
  · exact .inl h
  · exact .inr ⟨b, by omega, ha, hr⟩
end Go.Proofs.Ytgbdpmaajihfdaa
