/-
  FnPaces.
-/
import Derived.Test.YtbjbamcpfjlllabPvg
import Derived.Test.YtbjbamcpfjlllabPacP
import Derived.Test.YtbjbamcpfjlllabPace
import Derived.Test.YtbjbamcpfjlllabHear
import Derived.Test.YtbjbamcpfjlllabStamp
import Derived.Test.YtbjbamcpfjlllabWait
import Derived.Test.YtbjbamcpfjlllabCode
import Derived.StillTailTactics
namespace Go.Proofs.Ytbjbamcpfjlllab
open Go.RowKit
set_option linter.all false
theorem RowPk.shape {w : World} {B n : Nat} {v : Value} {X : List Pk} {r1 r2 : Option Nat} (h : RowPk w B v X r1 r2) (hv : v.ownBlock ≠ none) (hl : X.length = n) : ∃ g c, v = .slice (some ⟨g, 0, none⟩) n c ∧ g < w.heap.size := by
  obtain ⟨Qs, h1, h2, -⟩ := h
  rcases h1.2 with ⟨rfl, -⟩ | ⟨g, cap, cur, rfl, hB, hg, hn, hc, -⟩
  · exact absurd rfl hv
  · exact ⟨g, cap, by rw [h2, hl], (Array.getElem?_eq_some_iff.1 hg).1⟩
theorem RowPk.elem {w : World} {B g m c : Nat} {X : List Pk} {r1 r2 : Option Nat} (h : RowPk w B (.slice (some ⟨g, 0, none⟩) m c) X r1 r2) {j : Nat} (hj : j < X.length) : ∃ q, w.rangeAt g (j * 9) (pvL q) ∧ LikePk w q X[j] := by
  obtain ⟨g', cap, q, e, hr, hl⟩ := h.at hj
  cases e
  exact ⟨q, hr, hl⟩
theorem RowPk.swap {w : World} {B : Nat} {v : Value} {X : List Pk} {r1 r2 : Option Nat} (h : RowPk w B v X r1 r2) : RowPk w B v X r2 r1 := by
  obtain ⟨Qs, h1, h2, h3⟩ := h
  exact ⟨Qs, h1, h2, fun j hj1 hj2 => ⟨(h3 j hj1 hj2).1, (h3 j hj1 hj2).2.2, (h3 j hj1 hj2).2.1⟩⟩
theorem RowPk.box {w : World} {B c : Nat} {v : Value} {X : List Pk} {r1 r2 : Option Nat} (h : RowPk w B v X r1 r2) (hc : c < B) (q : Pc) : RowPk (boxPc w c q) B v X r1 r2 := by
  unfold boxPc
  repeat (refine RowPk.aside ?_ (by show c < B; exact hc) _)
  exact h
theorem boxPc_size (w : World) (c : Nat) (q : Pc) : (boxPc w c q).heap.size = w.heap.size := by unfold boxPc; simp
theorem LikePk.spell {w : World} {q : Pv} {p : Pk} (h : LikePk w q p) : pkC p (.slice q.ins q.insN q.insC) (.slice q.acks q.acksN q.acksC) = #[.int .i64 q.fr, .int .i64 q.tick, .int .i64 q.first, .slice q.ins q.insN q.insC, .slice q.acks q.acksN q.acksC, .int .i64 q.sumTick, .int .i64 q.sum, .int .i64 q.time, .int .i64 q.echo] := by
  rw [← Array.toArray_toList (xs := pkC p (.slice q.ins q.insN q.insC) (.slice q.acks q.acksN q.acksC)), ← h.1]; rfl
theorem OffI.of {w : World} {lo hi B n c : Nat} {a : Option Addr} {xs : List Int} {row : Option Nat} (h : OwnIn w lo hi (.slice a n c) xs) (hB : B ≤ lo) (hr : ∀ g, row = some g → g < lo) : OffI a xs B hi row := by
  intro hx p hp
  obtain ⟨a', cap, e, h⟩ := h
  obtain ⟨rfl, -, -⟩ := Value.slice.inj e
  obtain ⟨b, h1, h2, h3, -⟩ := h.resolve_left hx
  rw [hp] at h3
  have := Option.some.inj h3
  subst this
  refine ⟨Nat.le_trans hB h1, h2, fun e => ?_⟩
  have := hr _ e.symm
  have h1 : lo ≤ b := h1
  have : b < lo := this
  omega
/-- A packet of a call's own is appended to the row v of a world with other rows. -/
theorem RowPk.sent {w w' : World} {B : Nat} {v v' : Value} {X : List Pk} {r2 : Option Nat} {Qs : List Pv} {q : Pv} {p : Pk} {o : Obj} (h2 : Qs.length = X.length)
    (h3 : ∀ j (h1 : j < Qs.length) (h2 : j < X.length), LikePk w Qs[j] X[j] ∧ OffP Qs[j] X[j] B w.heap.size v.ownBlock ∧ OffP Qs[j] X[j] B w.heap.size r2)
    (hq : LikePk w q p) (o1 : OffP q p B w.heap.size v.ownBlock) (o2 : OffP q p B w.heap.size r2) (hg : (w.alloc o).grownBy w' v.ownBlock) (hr : v'.ownBlock = v.ownBlock ∨ v'.ownBlock = some (w.heap.size + 1))
    (hown : GrowPv w' B v' (Qs ++ [q])) : RowPk w' B v' (X ++ [p]) v'.ownBlock r2 := by
  have hb := below1 w o
  have hs : (w.alloc o).heap.size = w.heap.size + 1 := by simp
  have up : ∀ {q : Pv} {p : Pk} {r : Option Nat}, OffP q p B w.heap.size r → OffP q p B (w.alloc o).heap.size r := fun h => ⟨h.1.next (by omega) (.inl rfl), h.2.next (by omega) (.inl rfl)⟩
  have hsz := hg.size
  refine RowPk.more (w := w.alloc o) h2 (fun j h1 h2 => ⟨(h3 j h1 h2).1.keep hb, up (h3 j h1 h2).2.1, up (h3 j h1 h2).2.2⟩) (hq.keep hb) (up o1) (up o2) hg hsz ?_ hown
  rcases hr with h | h
  · exact .inl h
  · exact .inr ⟨_, h, by omega⟩
theorem play_sane (d e : Nat) : ∀ n, (∀ p ∈ (play d e n).ta, p.sane) ∧ (∀ p ∈ (play d e n).tb, p.sane)
  | 0 => ⟨fun p h => (by cases h), fun p h => (by cases h)⟩
  | n + 1 => by
    have ih := play_sane d e n
    have hx : ∀ (f m k : Int) (q : Pc), (stampX (pk0 f m) q k).sane := by
      intro f m k q
      unfold stampX
      split <;> exact ⟨by show (0 : Nat) ≤ _; omega, by show (2 : Nat) ≤ _; omega⟩
    constructor
    · intro p hp
      rcases List.mem_append.1 hp with h | h
      · exact ih.1 p h
      · rw [List.mem_singleton.1 h]; exact hx _ _ _ _
    · intro p hp
      rcases List.mem_append.1 hp with h | h
      · exact ih.2 p h
      · rw [List.mem_singleton.1 h]; exact hx _ _ _ _
theorem rdPc_two (w : World) (a b : Pc) : RdPc (w.alloc (.cells #[.int .i64 a.newest, .int .i64 a.their, .int .i64 a.at0, .int .i64 a.trip, .int .i64 a.samples, .int .i64 b.newest, .int .i64 b.their, .int .i64 b.at0, .int .i64 b.trip, .int .i64 b.samples] 26)) (.slice (some ⟨w.heap.size, 0, none⟩) 2 2) [a, b] := by
  have hC := rowCells (heap_alloc_new w (.cells #[.int .i64 a.newest, .int .i64 a.their, .int .i64 a.at0, .int .i64 a.trip, .int .i64 a.samples, .int .i64 b.newest, .int .i64 b.their, .int .i64 b.at0, .int .i64 b.trip, .int .i64 b.samples] 26))
  refine ⟨_, _, rfl, .inr ⟨_, _, rfl, fun j hj i u hu => ?_⟩⟩
  have hi : i < 5 := (List.getElem?_eq_some_iff.1 hu).1
  match j, hj with
  | 0, _ =>
    match i, hi with
    | 0, _ => exact (hC _).trans hu
    | 1, _ => exact (hC _).trans hu
    | 2, _ => exact (hC _).trans hu
    | 3, _ => exact (hC _).trans hu
    | 4, _ => exact (hC _).trans hu
  | 1, _ =>
    match i, hi with
    | 0, _ => exact (hC _).trans hu
    | 1, _ => exact (hC _).trans hu
    | 2, _ => exact (hC _).trans hu
    | 3, _ => exact (hC _).trans hu
    | 4, _ => exact (hC _).trans hu
theorem rdI_nil (w : World) : RdI w (.slice none 0 0) [] := ⟨_, _, rfl, .inl rfl⟩
theorem rdI_00 (w : World) : RdI (w.alloc (.cells #[.int .i64 0, .int .i64 0] 3)) (.slice (some ⟨w.heap.size, 0, none⟩) 2 2) [0, 0] := by
  have hC := rowCells (heap_alloc_new w (.cells #[.int .i64 0, .int .i64 0] 3))
  refine ⟨_, _, rfl, .inr ⟨_, _, rfl, fun j hj => ?_⟩⟩
  match j, hj with
  | 0, _ => exact hC _
  | 1, _ => exact hC _
theorem rem_8 (y : Nat) : ∃ m : Nat, (y : Int) % 8 = (m : Int) ∧ (y : Int).tmod 8 = (m : Int) ∧ m ≤ 7 := by
  have e : (y : Int) % 8 = ((y % 8 : Nat) : Int) := (Int.natCast_emod y 8).symm
  exact ⟨y % 8, e, by rw [Int.tmod_eq_emod_of_nonneg (by omega)]; exact e, by omega⟩
/-- What stands at the loop's head behind n rounds: v7 holds what was sent to b, v8 what was sent to a. -/
def PlRel (w : World) (d e n : Nat) (v7 v8 : Value) (wr : World) : Prop :=
  wr.heap[w.heap.size]? = some (.cells #[.int .i64 (play d e n).a.newest, .int .i64 (play d e n).a.their, .int .i64 (play d e n).a.at0, .int .i64 (play d e n).a.trip, .int .i64 (play d e n).a.samples] 26 (0, 0)) ∧
  wr.heap[w.heap.size + 1]? = some (.cells #[.int .i64 (play d e n).b.newest, .int .i64 (play d e n).b.their, .int .i64 (play d e n).b.at0, .int .i64 (play d e n).b.trip, .int .i64 (play d e n).b.samples] 26 (0, 0)) ∧
  RowPk wr (w.heap.size + 2) v7 (play d e n).tb v7.ownBlock v8.ownBlock ∧ RowPk wr (w.heap.size + 2) v8 (play d e n).ta v8.ownBlock v7.ownBlock ∧ v7.ownBlock ≠ v8.ownBlock ∧
  v7.ownBlock ≠ none ∧ v8.ownBlock ≠ none ∧ Below w.heap.size w wr ∧ w.heap.size + 4 ≤ wr.heap.size
theorem plRel_start (w : World) (d e : Nat) : ∃ W, (((w.alloc (.cells #[.int .i64 0, .int .i64 0, .int .i64 0, .int .i64 0, .int .i64 0] 26)).alloc (.cells #[.int .i64 0, .int .i64 0, .int .i64 0, .int .i64 0, .int .i64 0] 26)).alloc (.cells #[] 31)).alloc (.cells #[] 31) = W ∧
    PlRel w d e 0 (.slice (some ⟨w.heap.size + 1 + 1, 0, none⟩) 0 0) (.slice (some ⟨w.heap.size + 1 + 1 + 1, 0, none⟩) 0 0) W := by
  obtain ⟨W1, hW1⟩ : ∃ W, W = w.alloc (.cells #[.int .i64 0, .int .i64 0, .int .i64 0, .int .i64 0, .int .i64 0] 26) := ⟨_, rfl⟩
  obtain ⟨W2, hW2⟩ : ∃ W, W = W1.alloc (.cells #[.int .i64 0, .int .i64 0, .int .i64 0, .int .i64 0, .int .i64 0] 26) := ⟨_, rfl⟩
  have b1 : Below w.heap.size w W1 := by rw [hW1]; exact below1 _ _
  have b2 : Below W1.heap.size W1 W2 := by rw [hW2]; exact below1 _ _
  have s1 : W1.heap.size = w.heap.size + 1 := by rw [hW1]; simp
  have s2 : W2.heap.size = w.heap.size + 2 := by rw [hW2]; simp; omega
  have h1 : W1.heap[w.heap.size]? = some (.cells #[.int .i64 0, .int .i64 0, .int .i64 0, .int .i64 0, .int .i64 0] 26 (0, 0)) := by rw [hW1]; exact heap_alloc_new _ _
  have h2 : W2.heap[W1.heap.size]? = some (.cells #[.int .i64 0, .int .i64 0, .int .i64 0, .int .i64 0, .int .i64 0] 26 (0, 0)) := by rw [hW2]; exact heap_alloc_new _ _
  have h1' := keepHeap b2 h1
  rw [s1] at h2
  have b3 := below1 W2 (.cells #[] 31)
  have b4 := below1 (W2.alloc (.cells #[] 31)) (.cells #[] 31)
  have r1 := (RowPk.made (w := W2) (B := w.heap.size + 2) (by omega) (some (w.heap.size + 1 + 1 + 1))).keep b4 (Nat.le_refl _)
  have s3 : (W2.alloc (.cells #[] 31)).heap.size = w.heap.size + 1 + 1 + 1 := by simp; omega
  have r2 := RowPk.made (w := W2.alloc (.cells #[] 31)) (B := w.heap.size + 2) (by omega) (some (w.heap.size + 1 + 1))
  rw [s3] at r2
  rw [s2] at r1
  refine ⟨_, by rw [← hW1, ← hW2], keepHeap b4 (keepHeap b3 h1'), keepHeap b4 (keepHeap b3 h2), r1, r2, ?_, ?_, ?_, ?_, ?_⟩
  · intro e; have := Option.some.inj e; have : w.heap.size + 1 + 1 = w.heap.size + 1 + 1 + 1 := this; omega
  · intro e; cases e
  · intro e; cases e
  · exact b1.trans ((b2.mono b1.size).trans ((b3.mono (by omega)).trans (b4.mono (by omega))))
  · simp; omega
set_option maxRecDepth 100000 in
set_option maxHeartbeats 8000000 in
theorem lawPaces (a : Option Addr) (len cap : Nat) (zs : List Int) (w : World) (hr : IsRow .u8 w a len cap zs) :
    Calls Try.prog 3 #[.slice a len cap] w fun e w' => e = .returned (.bool true) ∧ Below w.heap.size w w' := by
  obtain ⟨hrd, hl⟩ := RdC.of_row hr
  clear hr
  by_cases h : 1048576 < (len : Int)
  · have b1 : decide (1048576 < (len : Int)) = true := by simpa using h
    go_enter Try.func3, Try.ntmps3
    go_wp2_with (go_at_call 5; refine (big_any hrd hl).mono ?_; rintro e w' ⟨rfl, rfl⟩)
    go_ret
    exact ⟨rfl, Below.refl _ _⟩
  have b1 : decide (1048576 < (len : Int)) = false := by simpa using h
  go_enter Try.func3, Try.ntmps3
  go_wp2_with (go_at_call 5; refine (big_any hrd hl).mono ?_; rintro e w' ⟨rfl, rfl⟩)
  refine (at_any hrd hl 0 (by omega) (by omega)).mono ?_
  rintro e w1 ⟨y0, hy0, rfl, rfl⟩
  obtain ⟨m0, e0, e0', hm0⟩ := rem_8 y0
  have u0 : IntKind.i64.wrap (m0 : Int) = m0 := IntWalk.i64_in _ (by omega)
  have u0' : IntKind.i64.wrap (1 + (m0 : Int)) = 1 + m0 := IntWalk.i64_in _ (by omega)
  go_wp2_with (fail)
  refine (at_any hrd hl 1 (by omega) (by omega)).mono ?_
  rintro e w1 ⟨y1, hy1, rfl, rfl⟩
  obtain ⟨m1, e1, e1', hm1⟩ := rem_8 y1
  have u1 : IntKind.i64.wrap (m1 : Int) = m1 := IntWalk.i64_in _ (by omega)
  have u1' : IntKind.i64.wrap (1 + (m1 : Int)) = 1 + m1 := IntWalk.i64_in _ (by omega)
  go_upto_region 9 with (fail)
  obtain ⟨d, hd⟩ : ∃ d : Nat, d = 1 + m0 := ⟨_, rfl⟩
  obtain ⟨e, he⟩ : ∃ e : Nat, e = 1 + m1 := ⟨_, rfl⟩
  rw [show (1 : Int) + (m0 : Int) = (d : Int) by omega, show (1 : Int) + (m1 : Int) = (e : Int) by omega]
  have hd1 : 1 ≤ d ∧ d ≤ 8 := by omega
  have he1 : 1 ≤ e ∧ e ≤ 8 := by omega
  clear u0 u0' u1 u1' e0 e0' e1 e1' hd he
  obtain ⟨W, hW, hrel0⟩ := plRel_start w d e
  try rw [hW]
  clear hW
  go_wp2_with (fail)
  go_loopw [7, 8, 9] (fun v7 v8 i wr => ∃ n : Nat, n ≤ 60 ∧ i = .int .i64 (n : Int) ∧ PlRel w d e n v7 v8 wr) (fun _ _ i _ => 60 - (intOf i).toNat)
  case atStart => exact ⟨0, by omega, rfl, hrel0⟩
  case round =>
    obtain ⟨n, hn, rfl, hA, hB, rb, ra, hne, nb, na, hbel, hsz⟩ := hrel
    by_cases h60 : n < 60
    · obtain ⟨lt1, lt2⟩ := play_ta d e n
      obtain ⟨sn1, sn2⟩ := play_sane d e n
      have hstep : play d e (n + 1) = stepPl d e n (play d e n) := rfl
      generalize play d e n = s at hA hB rb ra lt1 lt2 sn1 sn2 hstep
      have HS := Lib.hid hstep
      clear hstep hrel0
      obtain ⟨sa, hsa⟩ : ∃ x, s.a = x := ⟨_, rfl⟩
      obtain ⟨sb, hsb⟩ : ∃ x, s.b = x := ⟨_, rfl⟩
      obtain ⟨ta, hta⟩ : ∃ x, s.ta = x := ⟨_, rfl⟩
      obtain ⟨tb, htb⟩ : ∃ x, s.tb = x := ⟨_, rfl⟩
      rw [hsa] at hA
      rw [hsb] at hB
      rw [htb] at rb lt2 sn2
      rw [hta] at ra lt1 sn1
      have HSA := Lib.hid hsa
      have HSB := Lib.hid hsb
      have HTA := Lib.hid hta
      have HTB := Lib.hid htb
      clear hsa hsb hta htb
      obtain ⟨g7, c7, rfl, hg7⟩ := rb.shape nb lt2
      obtain ⟨g8, c8, rfl, hg8⟩ := ra.shape na lt1
      have hg78 : g7 ≠ g8 := fun e => hne (by rw [e]; rfl)
      have HL1 := Lib.hid lt1
      have HL2 := Lib.hid lt2
      clear lt1 lt2 hne na nb
      have h60' : (n : Int) < 60 := by omega
      by_cases hen : e ≤ n
      focus
        obtain ⟨j, hj⟩ : ∃ j, j + e = n := ⟨n - e, by omega⟩
        have hjl : j < ta.length := by have := HL1.out; omega
        obtain ⟨q, hrq, hlk⟩ := ra.elem hjl
        obtain ⟨d0, d1, d2, d3, d4, d5, d6, d7, d8⟩ := cellsPv hrq
        have hsp := hlk.spell
        obtain ⟨qa, hq⟩ : ∃ q, hearR sa ta[j] (n : Int) = q := ⟨_, rfl⟩
        have hH := fun {W : World} (hb : Below wr.heap.size wr W) => hear_impl sa (hlk.2.keep hb) (sn1 _ (List.getElem_mem hjl)) (n : Int)
        simp only [hsp, hq] at hH
        unfold pcV at hH
        have HQA : Hid (heardA d e n s = qa) := Lib.hid (by unfold heardA; rw [if_pos hen, HSA.out, HTA.out, show n - e = j by omega, List.getD_eq_getElem?_getD, List.getElem?_eq_getElem hjl]; exact hq)
        clear hsp hq hlk hrq
        have hjn : (j : Int) < (n : Int) := by omega
        have hx : (e : Int) ≤ (n : Int) := by omega
        have z1 : decide ((e : Int) ≤ (n : Int)) = true := by simpa using hx
        have HJ := Lib.hid hj
        have cX := rowCells hA
        have u1 : IntKind.i64.wrap ((n : Int) - (e : Int)) = (j : Int) := by rw [show (n : Int) - (e : Int) = (j : Int) by omega]; exact IntWalk.i64_in _ (by omega)
        clear hj
        go_upto_region 13 with (fail)
        go_still_tail 8, (by kernel_rfl)
        change wpList _ _ _ _ _ wr.drew
        go_wp2_with (fail)
        refine (hH (belowDrew wr 1)).mono ?_
        rintro e_x w1 ⟨rfl, hb1⟩
        have hb1 := (belowDrew wr 1).trans hb1
        have hX1 := keepHeap hb1 hA
        have cX1 := rowCells hX1
        have fX1 := fun j => frozenHeap hX1 j
        have hsz1 := hb1.size
        clear u1 hH d0 d1 d2 d3 d4 d5 d6 d7 d8 cX
        go_upto_region 14 with (fail)
        obtain ⟨W2, hW⟩ : ∃ W, boxPc w1 w.heap.size qa = W := ⟨_, rfl⟩
        have hs2 : wr.heap.size ≤ W2.heap.size := by rw [← hW, boxPc_size]; exact hsz1
        have hA2 : W2.heap[w.heap.size]? = some (.cells #[.int .i64 qa.newest, .int .i64 qa.their, .int .i64 qa.at0, .int .i64 qa.trip, .int .i64 qa.samples] 26 (0, 0)) := by rw [← hW]; exact boxPc_heap hX1 rfl qa
        have hB2 : W2.heap[w.heap.size + 1]? = some (.cells #[.int .i64 sb.newest, .int .i64 sb.their, .int .i64 sb.at0, .int .i64 sb.trip, .int .i64 sb.samples] 26 (0, 0)) := by rw [← hW]; exact boxPc_far (keepHeap hb1 hB) (by omega) qa
        have rb2 := (rb.keep hb1 (Nat.le_refl _)).box (c := w.heap.size) (by omega) qa
        have ra2 := (ra.keep hb1 (Nat.le_refl _)).box (c := w.heap.size) (by omega) qa
        rw [hW] at rb2 ra2
        have hbel2 : Below w.heap.size w W2 := by rw [← hW]; exact boxPc_below (hbel.trans (hb1.mono (by omega))) (by omega) qa
        unfold boxPc at hW
        try rw [hW]
        clear hW hX1 cX1 fX1 hb1 hsz1 z1 hx hjn hjl HJ hen
      rotate_left
      focus
        have hx : (n : Int) < (e : Int) := by omega
        have z1 : decide ((e : Int) ≤ (n : Int)) = false := by simpa using hx
        have HQA : Hid (heardA d e n s = sa) := Lib.hid (by unfold heardA; rw [if_neg hen]; exact HSA.out)
        go_upto_region 14 with (fail)
        obtain ⟨qa, hq⟩ : ∃ q, q = sa := ⟨_, rfl⟩
        rw [← hq] at HQA hA
        obtain ⟨W2, hW⟩ : ∃ W, W = wr := ⟨_, rfl⟩
        have hs2 : wr.heap.size ≤ W2.heap.size := by rw [hW]; exact Nat.le_refl _
        have hA2 := hA
        have hB2 := hB
        have rb2 := rb
        have ra2 := ra
        have hbel2 := hbel
        rw [← hW] at hA2 hB2 rb2 ra2 hbel2
        try rw [← hW]
        clear hW hq z1 hx hen
      all_goals
        by_cases hdn : d ≤ n
        focus
          obtain ⟨j, hj⟩ : ∃ j, j + d = n := ⟨n - d, by omega⟩
          have hjl : j < tb.length := by have := HL2.out; omega
          obtain ⟨q, hrq, hlk⟩ := rb2.elem hjl
          obtain ⟨d0, d1, d2, d3, d4, d5, d6, d7, d8⟩ := cellsPv hrq
          have hsp := hlk.spell
          obtain ⟨qb, hq⟩ : ∃ q, hearR sb tb[j] (n : Int) = q := ⟨_, rfl⟩
          have hH := fun {W : World} (hb : Below W2.heap.size W2 W) => hear_impl sb (hlk.2.keep hb) (sn2 _ (List.getElem_mem hjl)) (n : Int)
          simp only [hsp, hq] at hH
          unfold pcV at hH
          have HQB : Hid (heardB d e n s = qb) := Lib.hid (by unfold heardB; rw [if_pos hdn, HSB.out, HTB.out, show n - d = j by omega, List.getD_eq_getElem?_getD, List.getElem?_eq_getElem hjl]; exact hq)
          clear hsp hq hlk hrq
          have hjn : (j : Int) < (n : Int) := by omega
          have hx : (d : Int) ≤ (n : Int) := by omega
          have z1 : decide ((d : Int) ≤ (n : Int)) = true := by simpa using hx
          have HJ := Lib.hid hj
          have cX := rowCells hB2
          have u1 : IntKind.i64.wrap ((n : Int) - (d : Int)) = (j : Int) := by rw [show (n : Int) - (d : Int) = (j : Int) by omega]; exact IntWalk.i64_in _ (by omega)
          clear hj
          go_upto_region 15 with (fail)
          go_still_tail 8, (by kernel_rfl)
          change wpList _ _ _ _ _ W2.drew
          go_wp2_with (fail)
          refine (hH (belowDrew W2 1)).mono ?_
          rintro e_x w1 ⟨rfl, hb1⟩
          have hb1 := (belowDrew W2 1).trans hb1
          have hX1 := keepHeap hb1 hB2
          have cX1 := rowCells hX1
          have fX1 := fun j => frozenHeap hX1 j
          have hsz1 := hb1.size
          clear u1 hH d0 d1 d2 d3 d4 d5 d6 d7 d8 cX
          go_upto_region 16 with (fail)
          obtain ⟨W3, hW⟩ : ∃ W, boxPc w1 (w.heap.size + 1) qb = W := ⟨_, rfl⟩
          have hs3 : W2.heap.size ≤ W3.heap.size := by rw [← hW, boxPc_size]; exact hsz1
          have hA3 : W3.heap[w.heap.size]? = some (.cells #[.int .i64 qa.newest, .int .i64 qa.their, .int .i64 qa.at0, .int .i64 qa.trip, .int .i64 qa.samples] 26 (0, 0)) := by rw [← hW]; exact boxPc_far (keepHeap hb1 hA2) (by omega) qb
          have hB3 : W3.heap[w.heap.size + 1]? = some (.cells #[.int .i64 qb.newest, .int .i64 qb.their, .int .i64 qb.at0, .int .i64 qb.trip, .int .i64 qb.samples] 26 (0, 0)) := by rw [← hW]; exact boxPc_heap hX1 rfl qb
          have rb3 := (rb2.keep hb1 (Nat.le_refl _)).box (c := (w.heap.size + 1)) (by omega) qb
          have ra3 := (ra2.keep hb1 (Nat.le_refl _)).box (c := (w.heap.size + 1)) (by omega) qb
          rw [hW] at rb3 ra3
          have hbel3 : Below w.heap.size w W3 := by rw [← hW]; exact boxPc_below (hbel2.trans (hb1.mono (by omega))) (by omega) qb
          unfold boxPc at hW
          try rw [hW]
          clear hW hX1 cX1 fX1 hb1 hsz1 z1 hx hjn hjl HJ hdn
        rotate_left
        focus
          have hx : (n : Int) < (d : Int) := by omega
          have z1 : decide ((d : Int) ≤ (n : Int)) = false := by simpa using hx
          have HQB : Hid (heardB d e n s = sb) := Lib.hid (by unfold heardB; rw [if_neg hdn]; exact HSB.out)
          go_upto_region 16 with (fail)
          obtain ⟨qb, hq⟩ : ∃ q, q = sb := ⟨_, rfl⟩
          rw [← hq] at HQB hB2
          obtain ⟨W3, hW⟩ : ∃ W, W = W2 := ⟨_, rfl⟩
          have hs3 : W2.heap.size ≤ W3.heap.size := by rw [hW]; exact Nat.le_refl _
          have hA3 := hA2
          have hB3 := hB2
          have rb3 := rb2
          have ra3 := ra2
          have hbel3 := hbel2
          rw [← hW] at hA3 hB3 rb3 ra3 hbel3
          try rw [← hW]
          clear hW hq z1 hx hdn
        all_goals
          clear HSA HSB sn1 sn2
          have cc4 : ∀ j, (W3.alloc (.cells #[.int .i64 0, .int .i64 0] 3)).cell? ⟨w.heap.size, j, none⟩ = #[.int .i64 qa.newest, .int .i64 qa.their, .int .i64 qa.at0, .int .i64 qa.trip, .int .i64 qa.samples][j]? := rowCells (keepHeap (below1 W3 _) hA3)
          have cd4 := rowCells hA3
          obtain ⟨px, hp⟩ : ∃ p, stampX (pk0 0 n) qa n = p := ⟨_, rfl⟩
          have hI : RdI (W3.alloc (.cells #[.int .i64 0, .int .i64 0] 3)) (.slice (some ⟨W3.heap.size, 0, none⟩) 2 2) [0, 0] := rdI_00 W3
          have hSt : Calls Try.prog 8 #[.agg #[.int .i64 0, .int .i64 (n : Int), .int .i64 0, .slice none 0 0, .slice (some ⟨W3.heap.size, 0, none⟩) 2 2, .int .i64 0, .int .i64 0, .int .i64 0, .int .i64 0], .agg #[.int .i64 qa.newest, .int .i64 qa.their, .int .i64 qa.at0, .int .i64 qa.trip, .int .i64 qa.samples], .int .i64 (n : Int)] (W3.alloc (.cells #[.int .i64 0, .int .i64 0] 3)) (RetPkIn (W3.alloc (.cells #[.int .i64 0, .int .i64 0] 3)) px) := by
            have h := stamp_impl (p := pk0 0 n) (vi := .slice none 0 0) (va := .slice (some ⟨W3.heap.size, 0, none⟩) 2 2) ⟨rdI_nil _, hI⟩ ⟨by show (0 : Nat) ≤ _; omega, by show (2 : Nat) ≤ _; omega⟩ qa (n : Int)
            rw [hp] at h
            exact h
          have HP4 := Lib.hid hp
          clear hp hI
          have h4 := below1 W3 (.cells #[.int .i64 0, .int .i64 0] 3)
          have hz4 : (W3.alloc (.cells #[.int .i64 0, .int .i64 0] 3)).heap.size = W3.heap.size + 1 := by simp
          have HZ4 := Lib.hid hz4
          clear hz4
          go_wp2_with (fail)
          refine hSt.mono ?_
          rintro e_x w5 ⟨vi, va, rfl, ho, -, -, hb5⟩
          have hb5 := h4.trans (hb5.mono h4.size)
          obtain ⟨a1, b1, a2, b2, l1, l2, -, oi, oa⟩ := ho
          have oi := oi.wide l1.1 l1.2.2
          have oa := oa.wide l2.1 l2.2.2
          rw [HZ4.out] at oi oa
          obtain ⟨ai, ci, rfl, -⟩ := id oi
          obtain ⟨aa, ca, rfl, -⟩ := id oa
          clear hSt cc4 cd4 h4 l1 l2
          have hb5s := hb5.size
          have hA5 := keepHeap hb5 hA3
          have hB5 := keepHeap hb5 hB3
          have ra5 := ((ra3.keep hb5 (Nat.le_refl _)).keep (below1 w5 (.cells #[.int .i64 px.fr, .int .i64 px.tick, .int .i64 px.first, .slice ai px.ins.length ci, .slice aa px.acks.length ca, .int .i64 px.sumTick, .int .i64 px.sum, .int .i64 px.time, .int .i64 px.echo] 31)) (Nat.le_refl _))
          obtain ⟨Qs, hg5, hq1, hq2⟩ := rb3.keep hb5 (Nat.le_refl _)
          have hQn : Qs.length + 1 ≤ 1048576 := by have := HL2.out; omega
          have hlk : LikePk w5 ⟨px.fr, px.tick, px.first, ai, px.ins.length, ci, aa, px.acks.length, ca, px.sumTick, px.sum, px.time, px.echo⟩ px := ⟨rfl, oi.rd, oa.rd⟩
          have off1 : OffP ⟨px.fr, px.tick, px.first, ai, px.ins.length, ci, aa, px.acks.length, ca, px.sumTick, px.sum, px.time, px.echo⟩ px (w.heap.size + 2) w5.heap.size (some g7) := ⟨OffI.of oi (by omega) (fun g e => by cases e; omega), OffI.of oa (by omega) (fun g e => by cases e; omega)⟩
          have off2 : OffP ⟨px.fr, px.tick, px.first, ai, px.ins.length, ci, aa, px.acks.length, ca, px.sumTick, px.sum, px.time, px.echo⟩ px (w.heap.size + 2) w5.heap.size (some g8) := ⟨OffI.of oi (by omega) (fun g e => by cases e; omega), OffI.of oa (by omega) (fun g e => by cases e; omega)⟩
          unfold pkC
          go_upto_region 17 with (at_builtin; refine app_PvG rfl _ _ rfl (w.heap.size + 2) (.slice (some ⟨g7, 0, none⟩) n c7) Qs rfl hg5 ⟨px.fr, px.tick, px.first, ai, px.ins.length, ci, aa, px.acks.length, ca, px.sumTick, px.sum, px.time, px.echo⟩ rfl hQn (by omega) ?_; intro v6 w6 hown hb6 hgr hob)
          have hsz6 := hb6.size
          have rb6 := RowPk.sent hq1 hq2 hlk off1 off2 hgr hob hown
          have hal : (w5.alloc (.cells #[.int .i64 px.fr, .int .i64 px.tick, .int .i64 px.first, .slice ai px.ins.length ci, .slice aa px.acks.length ca, .int .i64 px.sumTick, .int .i64 px.sum, .int .i64 px.time, .int .i64 px.echo] 31)).heap.size = w5.heap.size + 1 := by simp
          have ra6 := (ra5.swap.other hgr (by intro e; have : g8 = g7 := Option.some.inj e; omega) hgr.size (r1' := v6.ownBlock) (by rcases hob with h | h; exact .inl h; exact .inr ⟨_, h, by omega⟩)).swap
          have hnn6 : v6.ownBlock ≠ none := by rcases hob with h | h <;> rw [h] <;> intro e <;> cases e
          have hA6 := (hb6.block w.heap.size (by omega)).trans hA5
          have hB6 := (hb6.block (w.heap.size + 1) (by omega)).trans hB5
          have hbel6 := (hbel3.trans (hb5.mono (by omega))).trans (hb6.mono (by omega))
          have HLL6 : Hid ((tb ++ [px]).length = n + 1) := Lib.hid (by rw [List.length_append, HL2.out]; rfl)
          obtain ⟨g6, c6, rfl, hg6⟩ := rb6.shape hnn6 HLL6.out
          have hd6 : g6 ≠ g8 := by
            intro e
            rcases hob with h | h
            · have := Option.some.inj h; have : g6 = g7 := this; omega
            · have := Option.some.inj h; have : g6 = w5.heap.size + 1 := this; omega
          clear hob hgr hown off1 off2 hlk hq1 hq2 hg5 ra5 hal hQn oi oa
          have cc7 : ∀ j, (w6.alloc (.cells #[.int .i64 0, .int .i64 0] 3)).cell? ⟨w.heap.size + 1, j, none⟩ = #[.int .i64 qb.newest, .int .i64 qb.their, .int .i64 qb.at0, .int .i64 qb.trip, .int .i64 qb.samples][j]? := rowCells (keepHeap (below1 w6 _) hB6)
          have cd7 := rowCells hB6
          obtain ⟨py, hp⟩ : ∃ p, stampX (pk0 1 n) qb n = p := ⟨_, rfl⟩
          have hI : RdI (w6.alloc (.cells #[.int .i64 0, .int .i64 0] 3)) (.slice (some ⟨w6.heap.size, 0, none⟩) 2 2) [0, 0] := rdI_00 w6
          have hSt : Calls Try.prog 8 #[.agg #[.int .i64 1, .int .i64 (n : Int), .int .i64 0, .slice none 0 0, .slice (some ⟨w6.heap.size, 0, none⟩) 2 2, .int .i64 0, .int .i64 0, .int .i64 0, .int .i64 0], .agg #[.int .i64 qb.newest, .int .i64 qb.their, .int .i64 qb.at0, .int .i64 qb.trip, .int .i64 qb.samples], .int .i64 (n : Int)] (w6.alloc (.cells #[.int .i64 0, .int .i64 0] 3)) (RetPkIn (w6.alloc (.cells #[.int .i64 0, .int .i64 0] 3)) py) := by
            have h := stamp_impl (p := pk0 1 n) (vi := .slice none 0 0) (va := .slice (some ⟨w6.heap.size, 0, none⟩) 2 2) ⟨rdI_nil _, hI⟩ ⟨by show (0 : Nat) ≤ _; omega, by show (2 : Nat) ≤ _; omega⟩ qb (n : Int)
            rw [hp] at h
            exact h
          have HP7 := Lib.hid hp
          clear hp hI
          have h7 := below1 w6 (.cells #[.int .i64 0, .int .i64 0] 3)
          have hz7 : (w6.alloc (.cells #[.int .i64 0, .int .i64 0] 3)).heap.size = w6.heap.size + 1 := by simp
          have HZ7 := Lib.hid hz7
          clear hz7
          go_wp2_with (fail)
          refine hSt.mono ?_
          rintro e_x w8 ⟨vi, va, rfl, ho, -, -, hb8⟩
          have hb8 := h7.trans (hb8.mono h7.size)
          obtain ⟨a1, b1, a2, b2, l1, l2, -, oi, oa⟩ := ho
          have oi := oi.wide l1.1 l1.2.2
          have oa := oa.wide l2.1 l2.2.2
          rw [HZ7.out] at oi oa
          obtain ⟨ai, ci, rfl, -⟩ := id oi
          obtain ⟨aa, ca, rfl, -⟩ := id oa
          clear hSt cc7 cd7 h7 l1 l2
          have hb8s := hb8.size
          have hA8 := keepHeap hb8 hA6
          have hB8 := keepHeap hb8 hB6
          have rb8 := ((rb6.keep hb8 (Nat.le_refl _)).keep (below1 w8 (.cells #[.int .i64 py.fr, .int .i64 py.tick, .int .i64 py.first, .slice ai py.ins.length ci, .slice aa py.acks.length ca, .int .i64 py.sumTick, .int .i64 py.sum, .int .i64 py.time, .int .i64 py.echo] 31)) (Nat.le_refl _))
          obtain ⟨Qs, hg8, hq1, hq2⟩ := ra6.keep hb8 (Nat.le_refl _)
          have hQn : Qs.length + 1 ≤ 1048576 := by have := HL1.out; omega
          have hlk : LikePk w8 ⟨py.fr, py.tick, py.first, ai, py.ins.length, ci, aa, py.acks.length, ca, py.sumTick, py.sum, py.time, py.echo⟩ py := ⟨rfl, oi.rd, oa.rd⟩
          have off1 : OffP ⟨py.fr, py.tick, py.first, ai, py.ins.length, ci, aa, py.acks.length, ca, py.sumTick, py.sum, py.time, py.echo⟩ py (w.heap.size + 2) w8.heap.size (some g8) := ⟨OffI.of oi (by omega) (fun g e => by cases e; omega), OffI.of oa (by omega) (fun g e => by cases e; omega)⟩
          have off2 : OffP ⟨py.fr, py.tick, py.first, ai, py.ins.length, ci, aa, py.acks.length, ca, py.sumTick, py.sum, py.time, py.echo⟩ py (w.heap.size + 2) w8.heap.size (some g6) := ⟨OffI.of oi (by omega) (fun g e => by cases e; omega), OffI.of oa (by omega) (fun g e => by cases e; omega)⟩
          unfold pkC
          go_wp2_with (at_builtin; refine app_PvG rfl _ _ rfl (w.heap.size + 2) (.slice (some ⟨g8, 0, none⟩) n c8) Qs rfl hg8 ⟨py.fr, py.tick, py.first, ai, py.ins.length, ci, aa, py.acks.length, ca, py.sumTick, py.sum, py.time, py.echo⟩ rfl hQn (by omega) ?_; intro v9 w9 hown hb9 hgr hob)
          have hsz9 := hb9.size
          have ra9 := RowPk.sent hq1 hq2 hlk off1 off2 hgr hob hown
          have hal : (w8.alloc (.cells #[.int .i64 py.fr, .int .i64 py.tick, .int .i64 py.first, .slice ai py.ins.length ci, .slice aa py.acks.length ca, .int .i64 py.sumTick, .int .i64 py.sum, .int .i64 py.time, .int .i64 py.echo] 31)).heap.size = w8.heap.size + 1 := by simp
          have rb9 := (rb8.swap.other hgr (by intro e; have : g6 = g8 := Option.some.inj e; omega) hgr.size (r1' := v9.ownBlock) (by rcases hob with h | h; exact .inl h; exact .inr ⟨_, h, by omega⟩)).swap
          have hnn9 : v9.ownBlock ≠ none := by rcases hob with h | h <;> rw [h] <;> intro e <;> cases e
          have hA9 := (hb9.block w.heap.size (by omega)).trans hA8
          have hB9 := (hb9.block (w.heap.size + 1) (by omega)).trans hB8
          have hbel9 := (hbel6.trans (hb8.mono (by omega))).trans (hb9.mono (by omega))
          have HLL9 : Hid ((ta ++ [py]).length = n + 1) := Lib.hid (by rw [List.length_append, HL1.out]; rfl)
          obtain ⟨g9, c9, rfl, hg9⟩ := ra9.shape hnn9 HLL9.out
          have hd9 : g9 ≠ g6 := by
            intro e
            rcases hob with h | h
            · have := Option.some.inj h; have : g9 = g8 := this; omega
            · have := Option.some.inj h; have : g9 = w8.heap.size + 1 := this; omega
          clear hob hgr hown off1 off2 hlk hq1 hq2 hg8 rb8 hal hQn oi oa
          go_wp2_with (fail)
          go_roundw
          case measure => simp [intOf]; omega
          refine ⟨n + 1, by omega, by go_num, ?_⟩
          unfold PlRel
          rw [HS.out]
          unfold stepPl
          dsimp only
          rw [HQA.out, HQB.out, HTB.out, HTA.out, HP4.out, HP7.out]
          exact ⟨hA9, hB9, rb9, ra9, (fun e => hd9 (Option.some.inj e).symm), (fun e => by cases e), (fun e => by cases e), hbel9, by omega⟩
    · have h60n : n = 60 := by omega
      have hn60 : (60 : Int) ≤ (n : Int) := by omega
      have z0 : decide ((n : Int) < 60) = false := by simp; omega
      rw [h60n] at hA hB
      clear rb ra hne nb na hrel0 h60n h60 hn
      have hok := okPl_all hd1.1 hd1.2 he1.1 he1.2
      unfold okPl at hok
      simp only [Bool.and_eq_true, decide_eq_true_eq, beq_iff_eq] at hok
      obtain ⟨k1, k2, k3, k4, k5, k6, k7⟩ := hok
      generalize play d e 60 = s at hA hB k1 k2 k3 k4 k5 k6 k7
      obtain ⟨⟨a1, a2, a3, a4, a5⟩, ⟨b1', b2, b3, b4, b5⟩, tb, ta⟩ := s
      dsimp only at hA hB k1 k2 k3 k4 k5 k6 k7
      subst k1 k2 k3 k4
      obtain ⟨H, hH⟩ : ∃ H : Nat, ((d : Int) + (e : Int)) / 2 = (H : Int) := ⟨(d + e) / 2, by omega⟩
      have hH' : ((d : Int) + (e : Int)).tdiv 2 = (H : Int) := by rw [Int.tdiv_eq_ediv_of_nonneg (by omega)]; exact hH
      have hH8 : H ≤ 8 := by omega
      rw [hH] at k5 k7
      obtain ⟨G, hG⟩ : ∃ G : Int, 59 - (d : Int) + (H : Int) = G := ⟨_, rfl⟩
      rw [hG] at k5
      rw [k5] at k6 k7
      obtain ⟨D, hD⟩ : ∃ D : Int, 59 - G = D := ⟨_, rfl⟩
      rw [hD] at k6 k7
      obtain ⟨E2, hE2⟩ : ∃ E2 : Int, (e : Int) - (H : Int) = E2 := ⟨_, rfl⟩
      rw [hE2] at k7
      have hGu := fun W => guess_impl ⟨b1', 59 - (d : Int), b3, (d : Int) + (e : Int), b5⟩ 59 W
      have hAd := fun W => adv_impl ⟨b1', 59 - (d : Int), b3, (d : Int) + (e : Int), b5⟩ 59 59 W
      have hWt := fun W => wait_impl (rdPc_two W ⟨a1, 59 - (e : Int), a3, (d : Int) + (e : Int), a5⟩ ⟨b1', 59 - (d : Int), b3, (d : Int) + (e : Int), b5⟩) (by show (2 : Nat) ≤ _; omega) 59 59
      unfold pcV at hGu hAd
      simp only [k5] at hGu
      simp only [k6] at hAd
      simp only [k7] at hWt
      have cA := rowCells hA
      have cB := rowCells hB
      have u1 : IntKind.i64.wrap ((d : Int) + (e : Int)) = (d : Int) + (e : Int) := IntWalk.i64_in _ (by omega)
      have u2 : IntKind.i64.wrap (59 - (e : Int)) = 59 - (e : Int) := IntWalk.i64_in _ (by omega)
      have u3 : IntKind.i64.wrap (59 - (d : Int)) = 59 - (d : Int) := IntWalk.i64_in _ (by omega)
      have u4 : IntKind.i64.wrap (H : Int) = (H : Int) := IntWalk.i64_in _ (by omega)
      have u5 : IntKind.i64.wrap (59 - (d : Int) + (H : Int)) = G := by rw [hG]; exact IntWalk.i64_in _ (by omega)
      have u6 : IntKind.i64.wrap (59 - G) = D := by rw [hD]; exact IntWalk.i64_in _ (by omega)
      have u7 : IntKind.i64.wrap ((e : Int) - (H : Int)) = E2 := by rw [hE2]; exact IntWalk.i64_in _ (by omega)
      have hGr : 0 ≤ G ∧ G ≤ 100 := by omega
      have hDr : -100 ≤ D ∧ D ≤ 100 := by omega
      have hEr : -100 ≤ E2 ∧ E2 ≤ 100 := by omega
      clear hG hD hE2 k5 k6 k7 hH
      by_cases hD2 : 2 ≤ D <;> by_cases hE2 : 2 ≤ E2
      all_goals
        simp only [hD2, hE2, decide_true, decide_false, Bool.or_true, Bool.true_or, Bool.or_false, Bool.false_or] at hWt
        go_wp2_with (fail)
        refine (hGu _).mono ?_
        rintro e_x w1 ⟨rfl, hb1⟩
        have hA1 := keepHeap hb1 hA
        have hB1 := keepHeap hb1 hB
        have cA1 := rowCells hA1
        have cB1 := rowCells hB1
        have hbel1 := hbel.trans (hb1.mono hbel.size)
        go_wp2_with (fail)
        refine (hAd _).mono ?_
        rintro e_x w2 ⟨rfl, hb2⟩
        have hA2 := keepHeap hb2 hA1
        have hB2 := keepHeap hb2 hB1
        have cA2 := rowCells hA2
        have cB2 := rowCells hB2
        have hbel2 := hbel1.trans (hb2.mono hbel1.size)
        go_wp2_with (fail)
        refine (hWt _).mono ?_
        rintro e_x w3 ⟨rfl, hb3⟩
        have hb3' := (below1 w2 _).trans (hb3.mono (below1 w2 _).size)
        have hbel3 := hbel2.trans (hb3'.mono hbel2.size)
        go_wp2_with (fail)
        go_ret
        refine ⟨?_, hbel3⟩
        first | rfl | (show Ending.returned (.bool (!decide (2 ≤ D) && !decide (2 ≤ E2))) = _; rw [decide_eq_false (show ¬ 2 ≤ D by omega), decide_eq_false (show ¬ 2 ≤ E2 by omega)]; rfl)
end Go.Proofs.Ytbjbamcpfjlllab
