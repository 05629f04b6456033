/-
  Rows of paces: read, owned, sized, copied, compared. Lists of at most 2^20.
-/
import Derived.Test.YtbjbamcpfjlllabPace
import Derived.Test.YtbjbamcpfjlllabRng
namespace Go.Proofs.Ytbjbamcpfjlllab
open Go.RowKit Go.Joins Go.ChangeShapes Go.WideShapes Go.Deep
set_option linter.all false
/-- The cells, as a list. -/
def pcL (q : Pc) : List Value := [.int .i64 q.newest, .int .i64 q.their, .int .i64 q.at0, .int .i64 q.trip, .int .i64 q.samples]
theorem pcL_len (q : Pc) : (pcL q).length = 5 := rfl
theorem pcL_one (q : Pc) : ∀ v ∈ pcL q, v.oneCell' = true := by intro v hv; simp [pcL] at hv; rcases hv with rfl | rfl | rfl | rfl | rfl <;> rfl
theorem rangePc {w : World} {b o : Nat} {q : Pc} (h : w.rangeAt b o (pcL q)) : b < w.heap.size := World.block_lt_of_cell? w _ (h 0 _ rfl)
/-- The slice v reads as the list X. -/
def RdPc (w : World) (v : Value) (X : List Pc) : Prop :=
  ∃ a cap, v = .slice a X.length cap ∧ (X = [] ∨ ∃ b off, a = some ⟨b, off, none⟩ ∧ ∀ j (h : j < X.length), w.rangeAt b (off + j * 5) (pcL X[j]))
/-- Block g holds the list X, and it may be written. -/
def RowPc (w : World) (g : Nat) (X : List Pc) : Prop := ∀ j (h : j < X.length), w.rangeAt g (j * 5) (pcL X[j]) ∧ w.there g (j * 5) 5
/-- The slice v is the call's own, among blocks from B on, and holds the list X. -/
def OwnPc (w : World) (B : Nat) (v : Value) (X : List Pc) : Prop :=
  ∃ a cap, v = .slice a X.length cap ∧ (X = [] ∨ ∃ g, B ≤ g ∧ a = some ⟨g, 0, none⟩ ∧ RowPc w g X)
theorem OwnPc.rd {w : World} {B : Nat} {v : Value} {X : List Pc} (h : OwnPc w B v X) : RdPc w v X := by
  obtain ⟨a, cap, hv, h⟩ := h
  refine ⟨a, cap, hv, ?_⟩
  rcases h with h | ⟨g, hB, ha, hr⟩
  · exact .inl h
  · exact .inr ⟨g, 0, ha, fun j hj => by rw [Nat.zero_add]; exact (hr j hj).1⟩
theorem RdPc.keep {w w' : World} {v : Value} {X : List Pc} (h : RdPc w v X) (hb : Below w.heap.size w w') : RdPc w' v X := by
  obtain ⟨a, cap, hv, h⟩ := h
  refine ⟨a, cap, hv, ?_⟩
  rcases h with h | ⟨b, off, ha, hr⟩
  · exact .inl h
  · exact .inr ⟨b, off, ha, fun j hj => rangeKeep (hr j hj) hb (rangePc (hr j hj))⟩
theorem RowPc.lt {w : World} {g : Nat} {X : List Pc} (h : RowPc w g X) (hx : X ≠ []) : g < w.heap.size := rangePc (h 0 (List.length_pos_iff.2 hx)).1
theorem RowPc.keep {w w' : World} {g : Nat} {X : List Pc} (h : RowPc w g X) {C : Nat} (hb : Below C w w') (hC : g < C) : RowPc w' g X :=
  fun j hj => ⟨rangeKeep (h j hj).1 hb hC, thereKeep (h j hj).2 hb hC⟩
theorem OwnPc.keep {w w' : World} {B : Nat} {v : Value} {X : List Pc} (h : OwnPc w B v X) (hb : Below w.heap.size w w') : OwnPc w' B v X := by
  obtain ⟨a, cap, hv, h⟩ := h
  refine ⟨a, cap, hv, ?_⟩
  by_cases hx : X = []
  · exact .inl hx
  · obtain ⟨g, hB, ha, hr⟩ := h.resolve_left hx
    exact .inr ⟨g, hB, ha, hr.keep hb (hr.lt hx)⟩
theorem OwnPc.up {w : World} {B C : Nat} {v : Value} {X : List Pc} (h : OwnPc w B v X) (hC : C ≤ B) : OwnPc w C v X := by
  obtain ⟨a, cap, hv, h⟩ := h
  refine ⟨a, cap, hv, ?_⟩
  rcases h with h | ⟨g, hB, ha, hr⟩
  · exact .inl h
  · exact .inr ⟨g, by omega, ha, hr⟩
theorem RowPc.far {w : World} {g : Nat} {X : List Pc} (h : RowPc w g X) {p : Addr} (hp : p.block ≠ g) (u : Value) : RowPc (w.setCell p u) g X :=
  fun j hj => ⟨rangeFar (h j hj).1 hp u, thereFar (h j hj).2 hp u⟩
theorem OwnPc.far {w : World} {B : Nat} {v : Value} {X : List Pc} (h : OwnPc w B v X) {p : Addr} (hp : p.block < B) (u : Value) : OwnPc (w.setCell p u) B v X := by
  obtain ⟨a, cap, hv, h⟩ := h
  refine ⟨a, cap, hv, ?_⟩
  rcases h with h | ⟨b, hB, ha, hr⟩
  · exact .inl h
  · exact .inr ⟨b, hB, ha, hr.far (by omega) u⟩
/-- A whole element is stored. -/
theorem RowPc.put {w : World} {g : Nat} {X : List Pc} (h : RowPc w g X) (k : Nat) (hk : k < X.length) (b : Pc) : RowPc (w.setCells g (k * 5) (pcL b)) g (X.set k b) := by
  intro j hj0
  have hj : j < X.length := by rw [List.length_set] at hj0; exact hj0
  refine ⟨?_, World.there_setCells (h j hj).2 _ _ _⟩
  by_cases e : k = j
  · subst e
    rw [List.getElem_set_self]
    exact World.rangeAt_setCells_same _ _ _ _ (h k hk).2
  · rw [List.getElem_set_ne e]
    exact World.rangeAt_setCells_apart (h j hj).1 _ _ _ (by rw [pcL_len, pcL_len]; omega)
def zPc : Array Value := #[.int .i64 0, .int .i64 0, .int .i64 0, .int .i64 0, .int .i64 0]
def nilPc : Pc := ⟨0, 0, 0, 0, 0⟩
theorem madePc (m : Nat) {j i : Nat} (h : j < m) {v : Value} (hv : (pcL nilPc)[i]? = some v) : (madeCells zPc (m * 5))[j * 5 + i]? = some v := by
  obtain ⟨hi, e⟩ := List.getElem?_eq_some_iff.1 hv
  rw [pcL_len] at hi
  rw [← e]
  unfold madeCells
  rw [Array.getElem?_map, Array.getElem?_range]
  rw [if_pos (by omega), Option.map_some]
  have hm : (j * 5 + i) % zPc.size = i := by
    show (j * 5 + i) % 5 = i
    omega
  rw [hm]
  match i, hi with
  | 0, _ => rfl
  | 1, _ => rfl
  | 2, _ => rfl
  | 3, _ => rfl
  | 4, _ => rfl
theorem RowPc.zeros (w : World) (n : Nat) (t : TypeId) : RowPc (w.alloc (.cells (madeCells zPc (n * 5)) t)) w.heap.size (List.replicate n nilPc) := by
  intro j hj
  rw [List.length_replicate] at hj
  refine ⟨fun i v hv => ?_, fun i hi => ?_⟩
  · rw [List.getElem_replicate] at hv
    rw [World.cell?_alloc_mark, madePc _ hj hv]
  · have hv : (pcL nilPc)[i]? = some ((pcL nilPc)[i]'(by rw [pcL_len]; exact hi)) := List.getElem?_eq_getElem _
    rw [World.cell?_alloc_mark, madePc _ hj hv, World.frozen?_alloc_mark]
    exact ⟨rfl, by simp⟩
theorem cellsPc {w : World} {b o : Nat} {x : Pc} (h : w.rangeAt b o (pcL x)) : w.cell? ⟨b, o, none⟩ = some (.int .i64 x.newest) ∧ w.cell? ⟨b, o + 1, none⟩ = some (.int .i64 x.their) ∧ w.cell? ⟨b, o + 2, none⟩ = some (.int .i64 x.at0) ∧ w.cell? ⟨b, o + 3, none⟩ = some (.int .i64 x.trip) ∧ w.cell? ⟨b, o + 4, none⟩ = some (.int .i64 x.samples) :=
  ⟨h 0 _ rfl, h 1 _ rfl, h 2 _ rfl, h 3 _ rfl, h 4 _ rfl⟩
theorem freePc {w : World} {b o : Nat} (h : w.there b o 5) : w.frozen? ⟨b, o, none⟩ = false ∧ w.frozen? ⟨b, o + 1, none⟩ = false ∧ w.frozen? ⟨b, o + 2, none⟩ = false ∧ w.frozen? ⟨b, o + 3, none⟩ = false ∧ w.frozen? ⟨b, o + 4, none⟩ = false :=
  ⟨(h 0 (by omega)).2, (h 1 (by omega)).2, (h 2 (by omega)).2, (h 3 (by omega)).2, (h 4 (by omega)).2⟩
theorem putPc (w : World) (g o : Nat) (x : Pc) : ((((w.setCell ⟨g, o, none⟩ (.int .i64 x.newest)).setCell ⟨g, o + 1, none⟩ (.int .i64 x.their)).setCell ⟨g, o + 2, none⟩ (.int .i64 x.at0)).setCell ⟨g, o + 3, none⟩ (.int .i64 x.trip)).setCell ⟨g, o + 4, none⟩ (.int .i64 x.samples) = w.setCells g o (pcL x) := rfl
def RetPcs (w : World) (X : List Pc) (e : Ending) (w' : World) : Prop := ∃ v, e = .returned v ∧ OwnPc w' w.heap.size v X ∧ CapI v ∧ Below w.heap.size w w'
end Go.Proofs.Ytbjbamcpfjlllab
