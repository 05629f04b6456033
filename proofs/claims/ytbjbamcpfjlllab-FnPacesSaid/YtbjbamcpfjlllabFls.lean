/-
  Flights, one and rows of them: read, owned, copied, compared. Lists of at most 2^20.
-/
import Derived.Test.YtbjbamcpfjlllabRng
import Derived.Test.YtbjbamcpfjlllabTrk
import Derived.Deep.RegionHeld3
import Derived.Deep.RegionWith
namespace Go.Proofs.Ytbjbamcpfjlllab
open Go.RowKit Go.Joins Go.ChangeShapes Go.WideShapes Go.Deep
set_option linter.all false
structure Fl where
  at0 : Int
  data : List UInt8
/-- The value. -/
def flV (q : Fl) : Value := .agg #[.int .i64 q.at0, .string ⟨q.data.toArray⟩]
/-- Each number fits its kind, each string its length. -/
def Fl.fits (q : Fl) : Prop := (Lit.int .i64 q.at0).wf = true ∧ q.data.length ≤ 9223372036854775807
instance : Inhabited Fl := ⟨⟨0, []⟩⟩
/-- The cells, as a list. -/
def flL (q : Fl) : List Value := [.int .i64 q.at0, .string ⟨q.data.toArray⟩]
theorem flL_len (q : Fl) : (flL q).length = 2 := rfl
theorem flL_one (q : Fl) : ∀ v ∈ flL q, v.oneCell' = true := by intro v hv; simp [flL] at hv; rcases hv with rfl | rfl <;> rfl
theorem rangeFl {w : World} {b o : Nat} {q : Fl} (h : w.rangeAt b o (flL q)) : b < w.heap.size := World.block_lt_of_cell? w _ (h 0 _ rfl)
/-- The slice v reads as the list X. -/
def RdFl (w : World) (v : Value) (X : List Fl) : Prop :=
  ∃ a cap, v = .slice a X.length cap ∧ (X = [] ∨ ∃ b off, a = some ⟨b, off, none⟩ ∧ ∀ j (h : j < X.length), w.rangeAt b (off + j * 2) (flL X[j]))
/-- Block g holds the list X, and it may be written. -/
def RowFl (w : World) (g : Nat) (X : List Fl) : Prop := ∀ j (h : j < X.length), w.rangeAt g (j * 2) (flL X[j]) ∧ w.there g (j * 2) 2
/-- The slice v is the call's own, among blocks from B on, and holds the list X. -/
def OwnFl (w : World) (B : Nat) (v : Value) (X : List Fl) : Prop :=
  ∃ a cap, v = .slice a X.length cap ∧ (X = [] ∨ ∃ g, B ≤ g ∧ a = some ⟨g, 0, none⟩ ∧ RowFl w g X)
theorem OwnFl.rd {w : World} {B : Nat} {v : Value} {X : List Fl} (h : OwnFl w B v X) : RdFl w v X := by
  obtain ⟨a, cap, hv, h⟩ := h
  refine ⟨a, cap, hv, ?_⟩
  rcases h with h | ⟨g, hB, ha, hr⟩
  · exact .inl h
  · exact .inr ⟨g, 0, ha, fun j hj => by rw [Nat.zero_add]; exact (hr j hj).1⟩
theorem RdFl.keep {w w' : World} {v : Value} {X : List Fl} (h : RdFl w v X) (hb : Below w.heap.size w w') : RdFl w' v X := by
  obtain ⟨a, cap, hv, h⟩ := h
  refine ⟨a, cap, hv, ?_⟩
  rcases h with h | ⟨b, off, ha, hr⟩
  · exact .inl h
  · exact .inr ⟨b, off, ha, fun j hj => rangeKeep (hr j hj) hb (rangeFl (hr j hj))⟩
theorem RowFl.lt {w : World} {g : Nat} {X : List Fl} (h : RowFl w g X) (hx : X ≠ []) : g < w.heap.size := rangeFl (h 0 (List.length_pos_iff.2 hx)).1
theorem RowFl.keep {w w' : World} {g : Nat} {X : List Fl} (h : RowFl w g X) {C : Nat} (hb : Below C w w') (hC : g < C) : RowFl w' g X :=
  fun j hj => ⟨rangeKeep (h j hj).1 hb hC, thereKeep (h j hj).2 hb hC⟩
theorem OwnFl.keep {w w' : World} {B : Nat} {v : Value} {X : List Fl} (h : OwnFl w B v X) (hb : Below w.heap.size w w') : OwnFl w' B v X := by
  obtain ⟨a, cap, hv, h⟩ := h
  refine ⟨a, cap, hv, ?_⟩
  by_cases hx : X = []
  · exact .inl hx
  · obtain ⟨g, hB, ha, hr⟩ := h.resolve_left hx
    exact .inr ⟨g, hB, ha, hr.keep hb (hr.lt hx)⟩
theorem OwnFl.up {w : World} {B C : Nat} {v : Value} {X : List Fl} (h : OwnFl w B v X) (hC : C ≤ B) : OwnFl w C v X := by
  obtain ⟨a, cap, hv, h⟩ := h
  refine ⟨a, cap, hv, ?_⟩
  rcases h with h | ⟨g, hB, ha, hr⟩
  · exact .inl h
  · exact .inr ⟨g, by omega, ha, hr⟩
theorem RowFl.far {w : World} {g : Nat} {X : List Fl} (h : RowFl w g X) {p : Addr} (hp : p.block ≠ g) (u : Value) : RowFl (w.setCell p u) g X :=
  fun j hj => ⟨rangeFar (h j hj).1 hp u, thereFar (h j hj).2 hp u⟩
theorem OwnFl.far {w : World} {B : Nat} {v : Value} {X : List Fl} (h : OwnFl w B v X) {p : Addr} (hp : p.block < B) (u : Value) : OwnFl (w.setCell p u) B v X := by
  obtain ⟨a, cap, hv, h⟩ := h
  refine ⟨a, cap, hv, ?_⟩
  rcases h with h | ⟨b, hB, ha, hr⟩
  · exact .inl h
  · exact .inr ⟨b, hB, ha, hr.far (by omega) u⟩
/-- A whole element is stored. -/
theorem RowFl.put {w : World} {g : Nat} {X : List Fl} (h : RowFl w g X) (k : Nat) (hk : k < X.length) (b : Fl) : RowFl (w.setCells g (k * 2) (flL b)) g (X.set k b) := by
  intro j hj0
  have hj : j < X.length := by rw [List.length_set] at hj0; exact hj0
  refine ⟨?_, World.there_setCells (h j hj).2 _ _ _⟩
  by_cases e : k = j
  · subst e
    rw [List.getElem_set_self]
    exact World.rangeAt_setCells_same _ _ _ _ (h k hk).2
  · rw [List.getElem_set_ne e]
    exact World.rangeAt_setCells_apart (h j hj).1 _ _ _ (by rw [flL_len, flL_len]; omega)
def zFl : Array Value := #[.int .i64 0, .string ⟨#[]⟩]
def nilFl : Fl := ⟨0, []⟩
theorem madeFl (m : Nat) {j i : Nat} (h : j < m) {v : Value} (hv : (flL nilFl)[i]? = some v) : (madeCells zFl (m * 2))[j * 2 + i]? = some v := by
  obtain ⟨hi, e⟩ := List.getElem?_eq_some_iff.1 hv
  rw [flL_len] at hi
  rw [← e]
  unfold madeCells
  rw [Array.getElem?_map, Array.getElem?_range]
  rw [if_pos (by omega), Option.map_some]
  have hm : (j * 2 + i) % zFl.size = i := by
    show (j * 2 + i) % 2 = i
    omega
  rw [hm]
  match i, hi with
  | 0, _ => rfl
  | 1, _ => rfl
theorem RowFl.zeros (w : World) (n : Nat) (t : TypeId) : RowFl (w.alloc (.cells (madeCells zFl (n * 2)) t)) w.heap.size (List.replicate n nilFl) := by
  intro j hj
  rw [List.length_replicate] at hj
  refine ⟨fun i v hv => ?_, fun i hi => ?_⟩
  · rw [List.getElem_replicate] at hv
    rw [World.cell?_alloc_mark, madeFl _ hj hv]
  · have hv : (flL nilFl)[i]? = some ((flL nilFl)[i]'(by rw [flL_len]; exact hi)) := List.getElem?_eq_getElem _
    rw [World.cell?_alloc_mark, madeFl _ hj hv, World.frozen?_alloc_mark]
    exact ⟨rfl, by simp⟩
theorem cellsFl {w : World} {b o : Nat} {x : Fl} (h : w.rangeAt b o (flL x)) : w.cell? ⟨b, o, none⟩ = some (.int .i64 x.at0) ∧ w.cell? ⟨b, o + 1, none⟩ = some (.string ⟨x.data.toArray⟩) :=
  ⟨h 0 _ rfl, h 1 _ rfl⟩
theorem freeFl {w : World} {b o : Nat} (h : w.there b o 2) : w.frozen? ⟨b, o, none⟩ = false ∧ w.frozen? ⟨b, o + 1, none⟩ = false :=
  ⟨(h 0 (by omega)).2, (h 1 (by omega)).2⟩
theorem putFl (w : World) (g o : Nat) (x : Fl) : (w.setCell ⟨g, o, none⟩ (.int .i64 x.at0)).setCell ⟨g, o + 1, none⟩ (.string ⟨x.data.toArray⟩) = w.setCells g o (flL x) := rfl
def RetFls (w : World) (X : List Fl) (e : Ending) (w' : World) : Prop := ∃ v, e = .returned v ∧ OwnFl w' w.heap.size v X ∧ CapI v ∧ Below w.heap.size w w'
end Go.Proofs.Ytbjbamcpfjlllab
