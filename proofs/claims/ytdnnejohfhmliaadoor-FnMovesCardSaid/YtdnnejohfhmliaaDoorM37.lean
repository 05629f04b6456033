/-
  Texts of this proof: SpotI, TkW6, TkW7.
-/
import Derived.Test.YtdnnejohfhmliaaDoorM33
import Derived.Test.YtdnnejohfhmliaaDoorM36
import Derived.Test.YtdnnejohfhmliaaDoorM15
import Derived.Test.YtdnnejohfhmliaaDoorM00
import Derived.Deep.CutRange
import Derived.Test.YtdnnejohfhmliaaDoorM25
import Derived.Test.YtdnnejohfhmliaaDoorM26
import Derived.Test.YtdnnejohfhmliaaDoorM23
namespace Go.Proofs.YtdnnejohfhmliaaDoor
open Go.RowKit
set_option linter.all false
def RetP (w : World) (ps : Pairs) (e : Ending) (w' : World) : Prop := ∃ v, e = .returned v ∧ OwnP w' w.heap.size v ps ∧ Below w.heap.size w w'
theorem heapUp2 {B : Nat} {W W' : World} {k : Nat} {o : Obj} (hb : Below B W W') (hk : k < B) (h : W.heap[k]? = some o) : W'.heap[k]? = some o := by rw [hb.block k hk]; exact h
theorem OwnP.up {w : World} {B C : Nat} {v : Value} {ps : Pairs} (h : OwnP w B v ps) (hC : C ≤ B) : OwnP w C v ps := by
  obtain ⟨bs, hi, h1, h2⟩ := h
  refine ⟨bs, ⟨hi.1, hi.2.1, fun b hb => ⟨by have := (hi.2.2.1 b hb).1; omega, (hi.2.2.1 b hb).2⟩, hi.2.2.2⟩, h1, ?_⟩
  rcases h2 with h2 | ⟨g, cap, cur, e, hB, r⟩
  · exact .inl h2
  · exact .inr ⟨g, cap, cur, e, by omega, r⟩
set_option maxRecDepth 100000 in
set_option maxHeartbeats 4000000 in
theorem spotsOf_spec {w : World} {v : Value} {L : Rowz} (h : RdS w v L) (hs : Sane L) :
    Calls Tryd.prog 81 #[.agg #[v]] w (RetP w (spotsP L)) := by
  obtain ⟨a, cap, rfl, h0⟩ := id h
  obtain ⟨W1, hW, hA1, hA2, hb1⟩ : ∃ W1, (w.alloc (.cells #[.slice a L.length cap] 26)).alloc (.cells #[] 27) = W1 ∧ W1.heap[w.heap.size]? = some (.cells #[.slice a L.length cap] 26 (0, 0)) ∧ OwnP W1 (w.heap.size + 1) (.slice (some ⟨w.heap.size + 1, 0, none⟩) 0 0) [] ∧ Below w.heap.size w W1 := ⟨_, rfl, keepHeap (below1 _ _) (heap_alloc_new w _), by have := OwnP.made (w.alloc (.cells #[.slice a L.length cap] 26)) (w.heap.size + 1) (by simp); simpa using this, below2 _ _ _⟩
  have cA1 := rowCells hA1
  have hs1 := hb1.size
  have hlt1 : w.heap.size < W1.heap.size := (Array.getElem?_eq_some_iff.1 hA1).1
  go_enter Tryd.func81, Tryd.ntmps81
  go_wp2_with (fail)
  clear hW
  have r1 := h.keep hb1
  cases hl : levelB L with
  | false =>
    have HF := Lib.hid (show spotsP L = [] by unfold spotsP; rw [hl]; rfl)
    refine wp_loop_once ?_
    by_cases he : L.length = 0
    · have z0 : decide ((0 : Int) < (L.length : Int)) = false := decide_eq_false (by omega)
      have z0n : ¬ 0 < L.length := by omega
      clear hl
      go_wp2_with (fail)
      go_ret
      exact ⟨_, rfl, by rw [HF.out]; exact hA2.up (by omega), hb1⟩
    · have z0 : decide ((0 : Int) < (L.length : Int)) = true := by simp; omega
      have z0n : 0 < L.length := by omega
      have hC := levelOk_spec r1 hs
      rw [hl] at hC
      clear hl
      go_wp2_with (go_at_call 71; refine hC.mono ?_; rintro e w2 ⟨rfl, hb2⟩)
      go_ret
      exact ⟨_, rfl, by rw [HF.out]; exact (hA2.of_below hb2 (Nat.le_refl _)).up (by omega), hb1.trans (hb2.mono hs1)⟩
  | true =>
    have hg : Good L := levelB_facts hl
    obtain ⟨hn3, hn12, hw4, hw20, -⟩ := id hg
    obtain ⟨b, off, rfl, hc⟩ := h0.resolve_left (by intro e; rw [e] at hn3; simp at hn3)
    have hlt := World.block_lt_of_cell? w _ (hc 0 (by omega))
    have HC := Lib.hid hc
    have hnc : (L.length : Int) ≤ 12 := by omega
    have HF := Lib.hid (show spotsP L = spL L 0 by unfold spotsP; rw [hl]; rfl)
    have HQ := Lib.hid hl
    clear hl h0 hc cA1
    go_loopw [3, 4] (fun v i wr => ∃ (r : Nat) (acc : Pairs), r ≤ L.length ∧ i = .int .i64 (r : Int) ∧ SpRow L r acc ∧ OwnP wr (w.heap.size + 1) v acc ∧ Below w.heap.size w wr ∧ wr.heap[w.heap.size]? = some (.cells #[.slice (some ⟨b, off, none⟩) L.length cap] 26 (0, 0))) (fun _ i _ => L.length - (intOf i).toNat)
    case atStart => exact ⟨0, [], Nat.zero_le _, rfl, SpRow.zero L, hA2, hb1, hA1⟩
    case round =>
      obtain ⟨r, acc, hr, rfl, hat, hown, hbel, hAr⟩ := hrel
      have hsz := hbel.size
      have cAr := rowCells hAr
      have hltr : w.heap.size < wr.heap.size := (Array.getElem?_eq_some_iff.1 hAr).1
      by_cases hrl : r < L.length
      · have z0 : decide ((r : Int) < (L.length : Int)) = true := by simp; omega
        have hrl' : (r : Int) < (L.length : Int) := by omega
        have hC := levelOk_spec (h.keep hbel) hs
        rw [HQ.out] at hC
        obtain ⟨row, hrow⟩ : ∃ x, x = L[r] := ⟨_, rfl⟩
        have hrw : row.length ≤ 20 := by have := hg.row hrl; rw [← hrow] at this; omega
        have H1 := Lib.hid (hat.at_ hrl)
        have HRW := Lib.hid hrow
        clear hat hrow
        have hrwc : (row.length : Int) ≤ 20 := by omega
        go_wp2_with (go_at_call 71; refine hC.mono ?_; rintro e w2 ⟨rfl, hb2⟩)
        have hbel2 := hbel.trans (hb2.mono hsz)
        have hA3 := keepHeap hb2 hAr
        have hown2 := hown.of_below hb2 (Nat.le_refl _)
        clear cAr
        go_loopw [3, 5] (fun v j wr => ∃ (c : Nat) (acc : Pairs), c ≤ row.length ∧ j = .int .i64 (c : Int) ∧ SpAt L r c acc ∧ OwnP wr (w.heap.size + 1) v acc ∧ Below w.heap.size w wr ∧ wr.heap[w.heap.size]? = some (.cells #[.slice (some ⟨b, off, none⟩) L.length cap] 26 (0, 0))) (fun _ j _ => row.length - (intOf j).toNat)
        case atStart => exact ⟨0, acc, Nat.zero_le _, rfl, H1.out, hown2, hbel2, hA3⟩
        case round =>
          obtain ⟨c, acc2, hcl, rfl, hat2, hown4, hbel4, hA4⟩ := hrel
          have hsz4 := hbel4.size
          have hlt4 : w.heap.size < wr.heap.size := (Array.getElem?_eq_some_iff.1 hA4).1
          have cA4 := rowCells hA4
          have cr0 := (hbel4.cell (p := ⟨b, off + r, none⟩) hlt).trans (HC.out r hrl)
          rw [← HRW.out] at cr0
          by_cases hcr : c < row.length
          · have z1 : decide ((c : Int) < (row.length : Int)) = true := by simp; omega
            have hcr' : (c : Int) < (row.length : Int) := by omega
            obtain ⟨ch, hch⟩ : ∃ x, x = row[c] := ⟨_, rfl⟩
            have hix : (ByteArray.mk row.toArray)[c]'hcr = ch := hch.symm
            have hidx : ∀ W, (Instr.index 9 (.string ⟨row.toArray⟩) (.int .i64 (c : Int))).run Tryd.prog W = .ok (.int .u8 (ch.toNat : Int)) W := fun W => run_at W hcr hix
            have hcrL : c < L[r].length := by rw [← HRW.out]; exact hcr
            have hchL : L[r][c] = ch := by rw [hch]; simp only [HRW.out]
            by_cases h1 : ch.toNat = 111
            · have HN := Lib.hid (hat2.hit hrl hcrL (by rw [hchL]; exact h1))
              have z3 : ((ch.toNat : Int) == 111) = true := by simp; omega
              have hal := hat2.2
              have hao : acc2.length + 1 ≤ 1000000000 := by omega
              clear hat2 hix hch hchL h1
              have HO := Lib.hid hown4
              go_wp2_with (at_builtin; refine app_pair rfl _ _ rfl (w.heap.size + 1) _ acc2 rfl HO.out (spotP r c) rfl hao hlt4 ?_; intro v1 w1 hown1 hb1)
              go_roundw
              case rel => exact ⟨c + 1, _, by omega, rfl, HN.out, hown1, hbel4.trans (hb1.mono (by omega)), heapUp2 hb1 (by omega) hA4⟩
              case measure => simp [intOf]; omega
            · have HN := Lib.hid (hat2.miss hrl hcrL (by rw [hchL]; exact h1))
              have z3 : ((ch.toNat : Int) == 111) = false := by simp; omega
              clear hat2 hix hch hchL h1
              go_wp2_with (fail)
              go_roundw
              case rel => exact ⟨c + 1, acc2, by omega, rfl, HN.out, hown4, hbel4, hA4⟩
              case measure => simp [intOf]; omega
          · have e : c = row.length := by omega
            subst e
            have H2 := Lib.hid (SpAt.done hrl (by rw [← HRW.out]; exact hrw) (by rw [← HRW.out]; exact hat2))
            clear hat2
            have z1 : decide ((row.length : Int) < (row.length : Int)) = false := by simp
            go_wp2_with (fail)
            go_roundw
            case rel => exact ⟨r + 1, acc2, by omega, rfl, H2.out, hown4, hbel4, hA4⟩
            case measure => simp [intOf]; omega
      · have e : r = L.length := by omega
        subst e
        have z0 : decide ((L.length : Int) < (L.length : Int)) = false := by simp
        have HE := Lib.hid hat.done
        clear hat
        go_wp2_with (fail)
        go_ret
        exact ⟨_, rfl, by rw [HF.out, ← HE.out]; exact hown.up (by omega), hbel⟩
end Go.Proofs.YtdnnejohfhmliaaDoor
namespace Go.Proofs.YtdnnejohfhmliaaDoor
open Go.RowKit
set_option linter.all false
theorem OwnP.at {w : World} {B : Nat} {v : Value} {ps : Pairs} (h : OwnP w B v ps) {i : Nat} (hi : i < ps.length) :
    ∃ (g cap b : Nat) (cur : Array Value), v = .slice (some ⟨g, 0, none⟩) ps.length cap ∧ w.heap[g]? = some (.cells cur 27 (0, 0)) ∧ cur[i]? = some (.slice (some ⟨b, 0, none⟩) 2 2) ∧ w.heap[b]? = some (.cells #[.int .i64 ps[i].1, .int .i64 ps[i].2] 3 (0, 0)) := by
  obtain ⟨bs, ⟨h1, -, -, h4⟩, h5, h6⟩ := h
  rcases h6 with ⟨-, h0⟩ | ⟨g, cap, cur, rfl, hB, hg, hn, hc, hcs, htk⟩
  · omega
  · have hib : i < bs.length := by omega
    refine ⟨g, cap, bs[i], cur, rfl, hg, ?_, h4 i hib hi⟩
    have e : (cur.toList.take (ps.length * 1))[i]? = (bs.map innV)[i]? := by rw [htk]
    rw [List.getElem?_take, if_pos (by omega), List.getElem?_map, List.getElem?_eq_getElem hib] at e
    simpa [innV] using e
theorem OwnP.len {w : World} {B : Nat} {v : Value} {ps : Pairs} (h : OwnP w B v ps) : ∃ a cap, v = .slice a ps.length cap := by
  obtain ⟨bs, -, -, h6⟩ := h
  rcases h6 with ⟨rfl, h0⟩ | ⟨g, cap, cur, rfl, -⟩
  · exact ⟨none, 0, by rw [h0]⟩
  · exact ⟨_, cap, rfl⟩
def brX (x : Wd) : Wd := ⟨x.rows, x.tick, (bring x.rows x.seed x.bods).1, x.scores, (bring x.rows x.seed x.bods).2⟩
theorem lies_snoc {p : Int × Int} {X : List Bd} {k : Nat} (hk : k < X.length) : lies p (X.take (k + 1)) = (lies p (X.take k) || (decide (X[k].kind = 2) && (decide (X[k].x = p.1) && decide (X[k].y = p.2)))) := by
  unfold lies
  rw [List.take_succ_eq_append_getElem hk, List.any_append]; simp
theorem lies_hit {p : Int × Int} {X : List Bd} {k : Nat} (hk : k < X.length) (h : (decide (X[k].kind = 2) && (decide (X[k].x = p.1) && decide (X[k].y = p.2))) = true) : lies p X = true := by
  unfold lies; rw [List.any_eq_true]; exact ⟨_, List.getElem_mem hk, h⟩
theorem spR_le (r : Nat) : ∀ (l : List UInt8) (c : Nat), (spR r l c).length ≤ l.length
  | [], _ => Nat.le_refl _
  | ch :: l, c => by
    have := spR_le r l (c + 1)
    rw [spR]
    split
    · simp; omega
    · simp; omega
theorem spL_le : ∀ (L : Rowz) (r : Nat), (∀ row ∈ L, row.length ≤ 20) → (spL L r).length ≤ 20 * L.length
  | [], _, _ => Nat.le_refl _
  | row :: L, r, h => by
    have h1 := spR_le r row 0
    have h2 := spL_le L (r + 1) (fun x hx => h x (by simp [hx]))
    have h3 := h row (by simp)
    rw [spL, List.length_append, List.length_cons]
    omega
theorem spL_good {L : Rowz} (hg : Good L) : (spL L 0).length ≤ 240 := by
  obtain ⟨-, h12, -, h20, hr⟩ := id hg
  have := spL_le L 0 (fun row hrow => by rw [hr row hrow]; exact h20)
  omega
end Go.Proofs.YtdnnejohfhmliaaDoor
namespace Go.Proofs.YtdnnejohfhmliaaDoor
open Go.RowKit
set_option linter.all false
def RetStW (w : World) (x : Wd) (e : Ending) (w' : World) : Prop := ∃ vl vs vb, e = .returned (.agg (wdC x vl vs vb)) ∧ OwnWIn w' w.heap.size w'.heap.size x vl vs vb ∧ CapW vl vs vb ∧ Below w.heap.size w w'
theorem ownW_of {w : World} {lo T : Nat} {vl vs vb : Value} {x : Wd} (hl : lo ≤ T) (hT : T ≤ w.heap.size) (wl : WrS w lo vl x.rows) (lw : LowS T vl x.rows) (hs : OwnR w T vs x.scores) (hb : OwnRB w T vb x.bods) : OwnWIn w lo w.heap.size x vl vs vb := by
  rcases oin_of hs with ⟨g, e, h1, h2, h3⟩ | h3
  · rcases obd_of hb with ⟨g', e', h1', h2', h3'⟩ | h3'
    · have hne : g ≠ g' := fun hh => twoRows hs hb e (by rw [hh]; exact e')
      exact ⟨lo, T, g, g + 1, g', g' + 1, ⟨by omega, by omega, by omega⟩, ⟨by omega, by omega, by omega⟩, ⟨by omega, by omega, by omega⟩, .inl (by omega), .inl (by omega), by omega, wl, lw, h3, h3'⟩
    · exact ⟨lo, T, g, g + 1, T, T, ⟨by omega, by omega, by omega⟩, ⟨by omega, by omega, by omega⟩, ⟨by omega, by omega, by omega⟩, .inl (by omega), .inl (by omega), .inr (by omega), wl, lw, h3, h3'⟩
  · rcases obd_of hb with ⟨g', e', h1', h2', h3'⟩ | h3'
    · exact ⟨lo, T, T, T, g', g' + 1, ⟨by omega, by omega, by omega⟩, ⟨by omega, by omega, by omega⟩, ⟨by omega, by omega, by omega⟩, .inl (by omega), .inl (by omega), .inl (by omega), wl, lw, h3, h3'⟩
    · exact ⟨lo, T, T, T, T, T, ⟨by omega, by omega, by omega⟩, ⟨by omega, by omega, by omega⟩, ⟨by omega, by omega, by omega⟩, .inl (by omega), .inl (by omega), .inl (by omega), wl, lw, h3, h3'⟩
theorem step_no {x : Wd} {row : List Int} (h : stepOk x row = false) : stepW x row = x := by unfold stepW; rw [h]; rfl
theorem step_go {x : Wd} {row : List Int} (h : stepOk x row = true) : stepW x row = stepV x row := by unfold stepW; rw [h]; rfl
theorem sok_w {x : Wd} {row : List Int} (h : worldB x = false) : stepOk x row = false := by unfold stepOk; rw [h]; rfl
theorem sok_t {x : Wd} {row : List Int} (h : x.tick = 100000) : stepOk x row = false := by unfold stepOk; rw [decide_eq_false (by omega)]; simp
theorem sok_r {x : Wd} {row : List Int} (h : rokB (x.scores.length : Int) row = false) : stepOk x row = false := by unfold stepOk; rw [h]; simp
theorem sok_ok {x : Wd} {row : List Int} (h : worldB x = true) (h2 : ¬ x.tick = 100000) (h3 : rokB (x.scores.length : Int) row = true) : stepOk x row = true := by unfold stepOk; rw [h, decide_eq_true h2, h3]; rfl
end Go.Proofs.YtdnnejohfhmliaaDoor
