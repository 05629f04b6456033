/-
  FirstWrong: the model, the program, the law; RowAt's contracts as in XRat. No condition.
-/
import Derived.Test.YtiidocjpeepheaaGreatDoorPrO
import Derived.Test.YtiidocjpeepheaaGreatDoorTrL
import Derived.Deep.RegionHeld3
import Derived.Deep.WholeRow
import Derived.Great.Walk
namespace Go.Proofs.YtiidocjpeepheaaGreatDoor
open Go.RowKit Go.Great
set_option linter.all false
theorem exec_load_row {P : Program} {o : Oper} {a : Act} {w : World} (ty : TypeId) (x : Operand) (ho : o.op = .load ty x)
    (g : Nat) (hx : a.eval x = .pointer (some ⟨g, 0, none⟩)) (t : TypeId) (cs : Array Value) (fr : Nat × Nat) (d : TypeDesc) (hg : w.heap[g]? = some (.cells cs t fr))
    (hu : P.underlying ty = some d) (hd : (match d with | .struct _ | .array _ _ => true | _ => false) = true) (hi : (P.info? ty).map (·.size) = some cs.size) :
    (execOp a.eval o).run P w = .ok (.value (.agg cs)) w := by
  unfold execOp
  simp only [ho, hx, Instr.loadAt, Instr.sureAddr, Sem.run_bind, Sem.run_pure, Result.andThen_ok, run_loadVar_row w g t ty cs fr d hg hu hd hi]
def rowL (X : Rowi) (t : Int) : List Int := X.map fun x => prdI x t
def rowS (X : Rowi) (t : Int) : List Int := X.map fun x => predT x t
theorem rowL_len (X : Rowi) (t : Int) : (rowL X t).length = X.length := by unfold rowL; simp
theorem rowS_len (X : Rowi) (t : Int) : (rowS X t).length = X.length := by unfold rowS; simp
theorem rowL_at {X : Rowi} {t : Int} {k : Nat} (h : k < X.length) : (rowL X t)[k]'(by rw [rowL_len]; exact h) = prdI X[k] t := by unfold rowL; simp
theorem rowS_at {X : Rowi} {t : Int} {k : Nat} (h : k < X.length) : (rowS X t)[k]'(by rw [rowS_len]; exact h) = predT X[k] t := by unfold rowS; simp
theorem rowS_eq {X : Rowi} {t : Nat} (h : trksB X = true) : rowS X (t : Int) = rowL X (t : Int) := by
  unfold rowS rowL
  refine List.map_congr_left fun x hx => ?_
  exact predT_good ((trksB_facts h).2.2 x hx)
def ratOk (X : Rowi) (t : Int) : Bool := trksB X && decide (0 ≤ t)
def ratL (X : Rowi) (t : Int) : List Int := if ratOk X t then rowL X t else []
def ratB (X : Rowi) (t : Int) : Bool := if ratOk X t then decide (t < knownI X) else false
theorem rat_no {X : Rowi} {t : Int} (h : trksB X = false ∨ t < 0) : ratL X t = [] ∧ ratB X t = false := by
  have : ratOk X t = false := by unfold ratOk; rcases h with h | h; · rw [h]; rfl
                                 · rw [show decide (0 ≤ t) = false by simp; exact h]; simp
  unfold ratL ratB; rw [this]; exact ⟨rfl, rfl⟩
theorem rat_yes {X : Rowi} {t : Nat} (h : trksB X = true) : ratL X (t : Int) = rowL X (t : Int) ∧ ratB X (t : Int) = decide ((t : Int) < knownI X) := by
  have : ratOk X (t : Int) = true := by unfold ratOk; rw [h]; simp
  unfold ratL ratB; rw [this]; exact ⟨rfl, rfl⟩
def RetOwnB (w : World) (xs : List Int) (b : Bool) (e : Ending) (w' : World) : Prop := ∃ v, e = .returned (.tuple #[v, .bool b]) ∧ OwnI w' w.heap.size v xs ∧ Below w.heap.size w w'
theorem OwnI.nil (w : World) (B : Nat) : OwnI w B (.slice none 0 0) [] := ⟨none, 0, rfl, .inl rfl⟩
set_option maxHeartbeats 1000000 in
theorem rowIn_impl {w : World} {v : Value} {X : Rowi} (h : RdR w v X) (hf : Few X) (t : Nat) :
    Calls Tryz.prog 76 #[v, .int .i64 (t : Int)] w (RetOwn w (rowL X (t : Int))) := by
  obtain ⟨a, cap, rfl, h⟩ := h
  obtain ⟨hn, hi⟩ := hf
  have hmk := fun W => run_make_cap W X.length (by omega)
  have hown0 := OwnR.capped w X.length (by omega)
  go_enter Tryz.func76, Tryz.ntmps76
  go_wp2_with (fail)
  go_loopw [5, 13] (fun c i wr => ∃ k : Nat, k ≤ X.length ∧ i = .int .i64 (k : Int) ∧ OwnR wr w.heap.size c ((rowL X (t : Int)).take k) ∧ Below w.heap.size w wr) (fun _ i _ => X.length - (intOf i).toNat)
  case atStart => exact ⟨0, Nat.zero_le _, rfl, hown0, below1 _ _⟩
  case round =>
    obtain ⟨k, hk, rfl, hown, hbel⟩ := hrel
    by_cases hkl : k < X.length
    · obtain ⟨b, off, rfl, hc⟩ := h.resolve_left (by intro e; rw [e] at hkl; simp at hkl)
      obtain ⟨u, c0, r0⟩ := hc k hkl
      have c1 : wr.cell? ⟨b, off + k, none⟩ = some u := (hbel.cell (World.block_lt_of_cell? w _ c0)).trans c0
      have hkl2 : k < (rowL X (t : Int)).length := by rw [rowL_len]; exact hkl
      have HT := Lib.hid (List.take_succ_eq_append_getElem hkl2)
      rw [rowL_at hkl] at HT
      have htl : ((rowL X (t : Int)).take k).length = k := by rw [List.length_take]; omega
      have hl1 : (k : Int) < (X.length : Int) := by omega
      have hsz := hbel.size
      have hxl := hi X[k] (List.getElem_mem _)
      have R := r0.keep hbel
      obtain ⟨ax, cx, rfl, -⟩ := id r0
      generalize X[k] = x at *
      clear hc h c0 r0
      obtain ⟨W1, hW1, hA1, hb1, hS1⟩ := rows1 wr #[.slice ax x.length cx] 66
      have cA := rowCells hA1
      have hown1 := hown.keep hb1 (Nat.le_refl _)
      have hbel1 := hbel.trans (hb1.mono hsz)
      have hP := predictIn_impl (R.keep hb1) (by omega) t
      have HTL := Lib.hid htl
      clear htl hown R
      generalize (rowL X (t : Int)).take k = acc at *
      go_wp2_with (fail)
      try clear hW1
      refine hP.mono ?_
      rintro e w2 ⟨rfl, hb2⟩
      have hown2 := hown1.keep hb2 (Nat.le_refl _)
      have hbel2 := hbel1.trans (hb2.mono hbel1.size)
      have hs2 := hbel2.size
      generalize prdI x (t : Int) = y at *
      go_wp2_with (at_builtin; refine app_int rfl _ _ rfl w.heap.size _ acc rfl hown2 _ rfl (by rw [HTL.out]; omega) hs2 ?_; intro v' w4 hown' hb')
      go_roundw
      case rel => exact ⟨k + 1, by omega, by go_num, by rw [HT.out]; exact hown', hbel2.trans hb'⟩
      case measure => simp [intOf]; omega
    · have e : (rowL X (t : Int)).take k = rowL X (t : Int) := List.take_of_length_le (by rw [rowL_len]; omega)
      rw [e] at hown
      clear e
      go_wp2_with (fail)
      go_ret
      exact ⟨_, rfl, hown.own, hbel⟩
set_option maxHeartbeats 2000000 in
theorem rowAt_spec {w : World} {v : Value} {X : Rowi} (h : RdR w v X) (hf : Few X) (t : Int) :
    Calls Tryz.prog 44 #[v, .int .i64 t] w (RetOwnB w (ratL X t) (ratB X t)) := by
  have hbm : Below w.heap.size w (w.alloc (.cells #[] 3)) := below1 _ _
  have hT := tracksOk_spec (h.keep hbm) hf
  have hown0 := OwnR.made w #[] w.heap.size (Nat.le_refl _) (by unfold maxLen; decide)
  have hv := h
  obtain ⟨a, cap, rfl, h0⟩ := h
  cases hq : trksB X with
  | false =>
    rw [hq] at hT
    obtain ⟨e1, e2⟩ := rat_no (t := t) (.inl hq)
    rw [e1, e2]
    clear hq e1 e2
    go_enter Tryz.func44, Tryz.ntmps44
    go_wp2_with (fail)
    refine hT.mono ?_
    rintro e w1 ⟨rfl, hb1⟩
    go_wp2_with (fail)
    go_ret2
    exact ⟨_, rfl, ((hown0.keep hb1 (Nat.le_refl _)).own), hbm.trans (hb1.mono hbm.size)⟩
  | true =>
    rw [hq] at hT
    by_cases ht : t < 0
    · obtain ⟨e1, e2⟩ := rat_no (X := X) (.inr ht)
      rw [e1, e2]
      have z1 : decide (t < 0) = true := by simpa using ht
      clear hq e1 e2
      go_enter Tryz.func44, Tryz.ntmps44
      go_wp2_with (fail)
      refine hT.mono ?_
      rintro e w1 ⟨rfl, hb1⟩
      go_wp2_with (fail)
      go_ret2
      exact ⟨_, rfl, ((hown0.keep hb1 (Nat.le_refl _)).own), hbm.trans (hb1.mono hbm.size)⟩
    · obtain ⟨t, rfl⟩ := Int.eq_ofNat_of_zero_le (show 0 ≤ t by omega)
      obtain ⟨e1, e2⟩ := rat_yes (t := t) hq
      rw [e1, e2, ← rowS_eq hq]
      have z1 : decide ((t : Int) < 0) = false := by simp
      clear hq e1 e2 ht
      obtain ⟨hn, hi⟩ := id hf
      go_enter Tryz.func44, Tryz.ntmps44
      go_wp2_with (fail)
      refine hT.mono ?_
      rintro e w1 ⟨rfl, hb1⟩
      have hown1 := hown0.keep hb1 (Nat.le_refl _)
      have hb01 := hbm.trans (hb1.mono hbm.size)
      go_wp2_with (fail)
      go_loopw [6, 7] (fun c i wr => ∃ k : Nat, k ≤ X.length ∧ i = .int .i64 (k : Int) ∧ OwnR wr w.heap.size c ((rowS X (t : Int)).take k) ∧ Below w.heap.size w wr) (fun _ i _ => X.length - (intOf i).toNat)
      case atStart => exact ⟨0, Nat.zero_le _, rfl, hown1, hb01⟩
      case round =>
        obtain ⟨k, hk, rfl, hown, hbel⟩ := hrel
        by_cases hkl : k < X.length
        · obtain ⟨b, off, rfl, hc⟩ := h0.resolve_left (by intro e; rw [e] at hkl; simp at hkl)
          obtain ⟨u, c0, r0⟩ := hc k hkl
          have c1 : wr.cell? ⟨b, off + k, none⟩ = some u := (hbel.cell (World.block_lt_of_cell? w _ c0)).trans c0
          have hkl2 : k < (rowS X (t : Int)).length := by rw [rowS_len]; exact hkl
          have HT := Lib.hid (List.take_succ_eq_append_getElem hkl2)
          rw [rowS_at hkl] at HT
          have htl : ((rowS X (t : Int)).take k).length = k := by rw [List.length_take]; omega
          have hl1 : (k : Int) < (X.length : Int) := by omega
          have hsz := hbel.size
          have hxl := hi X[k] (List.getElem_mem _)
          have R := r0.keep hbel
          obtain ⟨ax, cx, rfl, -⟩ := id r0
          generalize X[k] = x at *
          clear hc h0 c0 r0 hown0 hown1
          have hP := predict_spec R (by omega) (t : Int)
          have HTL := Lib.hid htl
          clear htl R
          generalize (rowS X (t : Int)).take k = acc at *
          go_wp2_with (fail)
          refine hP.mono ?_
          rintro e w2 ⟨rfl, hb2⟩
          have hown2 := hown.keep hb2 (Nat.le_refl _)
          have hbel2 := hbel.trans (hb2.mono hsz)
          have hs2 := hbel2.size
          generalize predT x (t : Int) = y at *
          go_wp2_with (at_builtin; refine app_int rfl _ _ rfl w.heap.size _ acc rfl hown2 _ rfl (by rw [HTL.out]; omega) hs2 ?_; intro v' w4 hown' hb')
          go_roundw
          case rel => exact ⟨k + 1, by omega, by go_num, by rw [HT.out]; exact hown', hbel2.trans hb'⟩
          case measure => simp [intOf]; omega
        · have e : (rowS X (t : Int)).take k = rowS X (t : Int) := List.take_of_length_le (by rw [rowS_len]; omega)
          rw [e] at hown
          clear e
          have hK := knownTicks_spec (hv.keep hbel) hf
          go_wp2_with (fail)
          refine hK.mono ?_
          rintro e w3 ⟨rfl, hb3⟩
          go_wp2_with (fail)
          go_ret2
          exact ⟨_, rfl, ((hown.keep hb3 (Nat.le_refl _)).own), hbel.trans (hb3.mono hbel.size)⟩
/-- Row k is what RowAt answers. -/
def diffAt (p : Pr) (k : Nat) : Bool := sameB (p.used.getD k []) (rowL p.tracks (p.base.tick + (k : Int)))
def wrongI (p : Pr) : Int := match (List.range p.used.length).find? (fun k => !diffAt p k) with | some k => p.base.tick + (k : Int) | none => -1
def firstI (p : Pr) : Int := if peerB p then wrongI p else -1
theorem sameB_comm (xs ys : List Int) : sameB xs ys = sameB ys xs := by unfold sameB; exact decide_eq_decide.2 eq_comm
theorem wr_hit {p : Pr} {k : Nat} (hk : k < p.used.length) (ha : ∀ j : Nat, j < k → diffAt p j = true) (hd : diffAt p k = false) : wrongI p = p.base.tick + (k : Int) := by
  have : (List.range p.used.length).find? (fun k => !diffAt p k) = some k := by
    rw [List.find?_range_eq_some]
    refine ⟨by rw [hd]; rfl, by rw [List.mem_range]; exact hk, fun j hj => by rw [ha j hj]; rfl⟩
  unfold wrongI; rw [this]
theorem wr_none {p : Pr} (ha : ∀ j : Nat, j < p.used.length → diffAt p j = true) : wrongI p = -1 := by
  have : (List.range p.used.length).find? (fun k => !diffAt p k) = none := by
    rw [List.find?_range_eq_none]
    intro j hj; rw [ha j hj]; rfl
  unfold wrongI; rw [this]
theorem diff_at {p : Pr} {k : Nat} (hk : k < p.used.length) : diffAt p k = sameB p.used[k] (rowL p.tracks (p.base.tick + (k : Int))) := by
  unfold diffAt; rw [List.getD_eq_getElem?_getD, List.getElem?_eq_getElem hk, Option.getD_some]
theorem peer_tick {p : Pr} (h : peerB p = true) : trksB p.tracks = true ∧ 0 ≤ p.base.tick ∧ p.base.tick ≤ 100000 := by
  obtain ⟨h1, h2, -⟩ := pr_facts h
  exact ⟨h1, (inR_iff _ _ _).1 (wd_facts h2).2.1⟩
set_option maxRecDepth 100000 in
set_option maxHeartbeats 4000000 in
theorem wrongIn_impl {w : World} {p : Pr} {vt bl bs bb nl ns nb vu vv vs : Value} {B : Nat} (hB : w.heap[B]? = some (.cells (prC p vt bl bs bb nl ns nb vu vv vs) 46 (0, 0))) (h : RdPr w p vt bl bs bb nl ns nb vu vv vs) (hn : p.few) (hbt : 0 ≤ p.base.tick ∧ p.base.tick ≤ 100000) :
    Calls Tryz.prog 46 #[.pointer (some ⟨B, 0, none⟩)] w fun e w' => e = .returned (.int .i64 (wrongI p)) ∧ Below w.heap.size w w' := by
  have h0 := h
  obtain ⟨a7, c7, rfl, -⟩ := id h.2.2.2.1
  obtain ⟨t0, ht⟩ : ∃ t0 : Nat, p.base.tick = (t0 : Int) := ⟨p.base.tick.toNat, by omega⟩
  have HT0 := Lib.hid ht
  unfold prC at hB
  have cB := rowCells hB
  obtain ⟨⟨f1, f2⟩, -, -, ⟨f5, f6⟩, -⟩ := hn
  obtain ⟨vt', evt⟩ : ∃ v, v = vt := ⟨_, rfl⟩
  clear evt vt'
  clear ht
  go_enter Tryz.func46, Tryz.ntmps46
  go_wp2_with (fail)
  go_loopw [11] (fun i wr => ∃ k : Nat, k ≤ p.used.length ∧ i = .int .i64 (k : Int) ∧ Below w.heap.size w wr ∧ Hid (∀ j : Nat, j < k → diffAt p j = true)) (fun i _ => p.used.length - (intOf i).toNat)
  case atStart => exact ⟨0, Nat.zero_le _, rfl, Below.refl _ _, Lib.hid (fun j hl => by omega)⟩
  case round =>
    obtain ⟨k, hk, rfl, hbel, HA⟩ := hrel
    have hBr := keepHeap hbel hB
    have cBr := rowCells hBr
    have hr := h0.keep hbel
    clear cB
    by_cases hkl : k < p.used.length
    · have ht := HT0.out
      have hl1 : (k : Int) < (p.used.length : Int) := by omega
      obtain ⟨x1, x2, ex, hus⟩ := hr.2.2.2.1
      obtain ⟨rfl, -, rfl⟩ := Value.slice.inj ex
      obtain ⟨b, off, rfl, hc⟩ := hus.resolve_left (by intro e; rw [e] at hkl; simp at hkl)
      obtain ⟨u, c1, r1⟩ := hc k hkl
      have hx3 := f6 p.used[k] (List.getElem_mem _)
      obtain ⟨ax, cx, rfl, -⟩ := id r1
      have d15 : wr.cell? ⟨B, 15, none⟩ = some (.slice (some ⟨b, off, none⟩) p.used.length c7) := cBr 15
      have hnn : ((t0 + k : Nat) : Int) = p.base.tick + (k : Int) := by rw [ht]; omega
      have hRI : Calls Tryz.prog 76 #[vt, .int .i64 (p.base.tick + (k : Int))] wr (RetOwn wr (rowL p.tracks (p.base.tick + (k : Int)))) := by
        have := rowIn_impl hr.1 ⟨f1, f2⟩ (t0 + k)
        rw [hnn] at this; exact this
      have hrl : (rowL p.tracks (p.base.tick + (k : Int))).length ≤ 9223372036854775807 := by rw [rowL_len]; omega
      have hEq : ∀ {W : World} {v' : Value} (hb : Below wr.heap.size wr W) (h2 : RdI W v' (rowL p.tracks (p.base.tick + (k : Int)))), Calls Tryz.prog 75 #[.slice ax p.used[k].length cx, v'] W fun e w' => e = .returned (.bool (diffAt p k)) ∧ Below W.heap.size W w' := fun hb h2 => by
        rw [diff_at hkl]; exact equalI_any (r1.keep hb) h2 (by omega) hrl
      have HH := Lib.hid (fun hd => wr_hit hkl HA.out hd)
      have HN := Lib.hid hnn
      generalize rowL p.tracks (p.base.tick + (k : Int)) = R at hRI hEq
      generalize p.used[k].length = m1 at c1 hEq
      clear hc hx3 r1 hus ex hrl hnn
      clear ht
      cases hd : diffAt p k with
      | true =>
        rw [hd] at hEq
        have HD := Lib.hid hd
        clear hd HH
        go_wp2_with (fail)
        refine hRI.mono ?_
        rintro e w1 ⟨v1, rfl, o1, hb1⟩
        go_wp2_with (fail)
        refine (hEq hb1 o1.rd).mono ?_
        rintro e w2 ⟨rfl, hb2⟩
        have hq2 := hbel.trans ((hb1.trans (hb2.mono hb1.size)).mono hbel.size)
        go_wp2_with (fail)
        go_roundw
        case rel =>
          refine ⟨k + 1, by omega, by go_num, hq2, Lib.hid (fun j hjk => ?_)⟩
          by_cases e : j = k
          · subst e; exact HD.out
          · exact HA.out j (by omega)
        case measure => simp [intOf]; omega
      | false =>
        rw [hd] at hEq
        have HF := Lib.hid (HH.out hd)
        clear hd HH
        go_wp2_with (fail)
        refine hRI.mono ?_
        rintro e w1 ⟨v1, rfl, o1, hb1⟩
        go_wp2_with (fail)
        refine (hEq hb1 o1.rd).mono ?_
        rintro e w2 ⟨rfl, hb2⟩
        have hq2 := hbel.trans ((hb1.trans (hb2.mono hb1.size)).mono hbel.size)
        go_wp2_with (fail)
        go_ret
        exact ⟨by rw [HF.out]; rfl, hq2⟩
    · have hl1 : ¬ (k : Int) < (p.used.length : Int) := by omega
      have HF := Lib.hid (wr_none (p := p) (fun j hj => HA.out j (by omega)))
      go_wp2_with (fail)
      go_ret
      exact ⟨by rw [HF.out]; rfl, hbel⟩
set_option maxRecDepth 100000 in
set_option maxHeartbeats 4000000 in
theorem firstWrong_impl {w : World} {p : Pr} {vt bl bs bb nl ns nb vu vv vs : Value} (h : RdPr w p vt bl bs bb nl ns nb vu vv vs) (hs : p.sane) (hn : p.few) :
    Calls Tryz.prog 16 #[.agg (prC p vt bl bs bb nl ns nb vu vv vs)] w fun e w' => e = .returned (.int .i64 (firstI p)) ∧ Below w.heap.size w w' := by
  have h0 := h
  obtain ⟨W0, hW, A_0, q_0, -⟩ := rows1 w #[Value.int .i64 p.me, .int .i64 p.delay, .int .i64 p.ahead, .int .i64 p.seed, vt, bl, .int .i64 p.base.tick, .int .i64 p.base.seed, bs, bb, nl, .int .i64 p.now.tick, .int .i64 p.now.seed, ns, nb, vu, vv, vs, .int .i64 p.fault.tick, .int .i64 p.fault.player, .int .i64 p.fault.add, .int .i64 p.rolls, .int .i64 p.again] 46
  have hp := fun {W : World} (h1 : RdPr W p vt bl bs bb nl ns nb vu vv vs) => peerOk_impl h1 hs hn
  have hm := fun {W : World} (hA : W.heap[w.heap.size]? = some (.cells #[Value.int .i64 p.me, .int .i64 p.delay, .int .i64 p.ahead, .int .i64 p.seed, vt, bl, .int .i64 p.base.tick, .int .i64 p.base.seed, bs, bb, nl, .int .i64 p.now.tick, .int .i64 p.now.seed, ns, nb, vu, vv, vs, .int .i64 p.fault.tick, .int .i64 p.fault.player, .int .i64 p.fault.add, .int .i64 p.rolls, .int .i64 p.again] 46 (0, 0))) (h1 : RdPr W p vt bl bs bb nl ns nb vu vv vs) (h2 : peerB p = true) => wrongIn_impl hA h1 hn (peer_tick h2).2
  unfold prC at hp ⊢
  go_enter Tryz.func16, Tryz.ntmps16
  go_upto_region 1 with (fail)
  try rw [hW]
  clear hW
  refine wp_region_lit ?_
  refine wpList_load_row rfl 46 _ rfl (w.heap.size) rfl 46 _ (0, 0) _ A_0 Tryz.underlying46 rfl (by kernel_rfl) ?_
  go_wp2_with (fail)
  refine (hp (h0.keep q_0)).mono ?_
  rintro e w_1 ⟨rfl, hb⟩
  have q_1 := q_0.trans (hb.mono q_0.size)
  have A_1 := keepHeap hb A_0
  clear A_0 q_0 hb hp
  cases hq : peerB p with
  | false =>
    have HF := Lib.hid (show firstI p = -1 by unfold firstI; rw [hq]; rfl)
    clear hq hm
    go_wp2_with (fail)
    go_ret
    exact ⟨by rw [HF.out]; rfl, q_1⟩
  | true =>
    have HF := Lib.hid (show firstI p = wrongI p by unfold firstI; rw [hq]; rfl)
    have hm1 := hm A_1 (h0.keep q_1) hq
    clear hq hm
    go_wp2_with (fail)
    refine hm1.mono ?_
    rintro e w_2 ⟨rfl, hb2⟩
    have q_2 := q_1.trans (hb2.mono q_1.size)
    generalize wrongI p = t at HF ⊢
    go_wp2_with (fail)
    go_ret
    exact ⟨by rw [HF.out]; rfl, q_2⟩
set_option maxRecDepth 100000 in
set_option maxHeartbeats 4000000 in
theorem firstWrong_spec {w : World} {p : Pr} {vt bl bs bb nl ns nb vu vv vs : Value} (h : RdPr w p vt bl bs bb nl ns nb vu vv vs) (hs : p.sane) (hn : p.few) :
    Calls Tryz.prog 15 #[.agg (prC p vt bl bs bb nl ns nb vu vv vs)] w fun e w' => e = .returned (.int .i64 (firstI p)) ∧ Below w.heap.size w w' := by
  have h0 := h
  obtain ⟨a7, c7, rfl, -⟩ := id h.2.2.2.1
  obtain ⟨W0, hW, A_0, q_0, -⟩ := rows1 w #[Value.int .i64 p.me, .int .i64 p.delay, .int .i64 p.ahead, .int .i64 p.seed, vt, bl, .int .i64 p.base.tick, .int .i64 p.base.seed, bs, bb, nl, .int .i64 p.now.tick, .int .i64 p.now.seed, ns, nb, (.slice a7 p.used.length c7), vv, vs, .int .i64 p.fault.tick, .int .i64 p.fault.player, .int .i64 p.fault.add, .int .i64 p.rolls, .int .i64 p.again] 46
  have hp := fun {W : World} (h1 : RdPr W p vt bl bs bb nl ns nb (.slice a7 p.used.length c7) vv vs) => peerOk_spec h1 hs hn
  unfold prC at hp ⊢
  obtain ⟨⟨f1, f2⟩, -, -, ⟨f5, f6⟩, -⟩ := hn
  go_enter Tryz.func15, Tryz.ntmps15
  go_upto_region 1 with (fail)
  try rw [hW]
  clear hW
  refine wp_region_lit ?_
  refine wpList_load_row rfl 46 _ rfl (w.heap.size) rfl 46 _ (0, 0) _ A_0 Tryz.underlying46 rfl (by kernel_rfl) ?_
  go_wp2_with (fail)
  refine (hp (h0.keep q_0)).mono ?_
  rintro e w_1 ⟨rfl, hb⟩
  have q_1 := q_0.trans (hb.mono q_0.size)
  have hB := keepHeap hb A_0
  clear A_0 q_0 hb hp
  cases hq : peerB p with
  | false =>
    have HF := Lib.hid (show firstI p = -1 by unfold firstI; rw [hq]; rfl)
    clear hq
    go_wp2_with (fail)
    go_ret
    exact ⟨by rw [HF.out]; rfl, q_1⟩
  | true =>
    have HFI := Lib.hid (show firstI p = wrongI p by unfold firstI; rw [hq]; rfl)
    obtain ⟨hT0, hbt⟩ := peer_tick hq
    have hT := Lib.hid hT0
    obtain ⟨t0, ht⟩ : ∃ t0 : Nat, p.base.tick = (t0 : Int) := ⟨p.base.tick.toNat, by omega⟩
    have HT0 := Lib.hid ht
    clear hq hT0 ht
    have cB := rowCells hB
    go_wp2_with (fail)
    go_loopw [3] (fun i wr => ∃ k : Nat, k ≤ p.used.length ∧ i = .int .i64 (k : Int) ∧ Below w_1.heap.size w_1 wr ∧ Hid (∀ j : Nat, j < k → diffAt p j = true)) (fun i _ => p.used.length - (intOf i).toNat)
    case atStart => exact ⟨0, Nat.zero_le _, rfl, Below.refl _ _, Lib.hid (fun j hl => by omega)⟩
    case round =>
      obtain ⟨k, hk, rfl, hbel, HA⟩ := hrel
      have hBr := keepHeap hbel hB
      have cBr := rowCells hBr
      have hr := (h0.keep q_1).keep hbel
      clear cB
      by_cases hkl : k < p.used.length
      · have ht := HT0.out
        have hl1 : (k : Int) < (p.used.length : Int) := by omega
        obtain ⟨x1, x2, ex, hus⟩ := hr.2.2.2.1
        obtain ⟨rfl, -, rfl⟩ := Value.slice.inj ex
        obtain ⟨b, off, rfl, hc⟩ := hus.resolve_left (by intro e; rw [e] at hkl; simp at hkl)
        obtain ⟨u, c1, r1⟩ := hc k hkl
        have hx3 := f6 p.used[k] (List.getElem_mem _)
        obtain ⟨ax, cx, rfl, -⟩ := id r1
        have d15 : wr.cell? ⟨w.heap.size, 15, none⟩ = some (.slice (some ⟨b, off, none⟩) p.used.length c7) := cBr 15
        have hnn : ((t0 + k : Nat) : Int) = p.base.tick + (k : Int) := by rw [ht]; omega
        have hRI : Calls Tryz.prog 44 #[vt, .int .i64 (p.base.tick + (k : Int))] wr (RetOwnB wr (rowL p.tracks (p.base.tick + (k : Int))) (ratB p.tracks (p.base.tick + (k : Int)))) := by
          have := rowAt_spec hr.1 ⟨f1, f2⟩ ((t0 + k : Nat) : Int)
          rw [(rat_yes hT.out).1, hnn] at this; exact this
        generalize ratB p.tracks (p.base.tick + (k : Int)) = rb at hRI
        have hrl : (rowL p.tracks (p.base.tick + (k : Int))).length ≤ 9223372036854775807 := by rw [rowL_len]; omega
        have hEq : ∀ {W : World} {v' : Value} (hb : Below wr.heap.size wr W) (h2 : RdI W v' (rowL p.tracks (p.base.tick + (k : Int)))), Calls Tryz.prog 45 #[v', .slice ax p.used[k].length cx] W fun e w' => e = .returned (.bool (diffAt p k)) ∧ Below W.heap.size W w' := fun hb h2 => by
          rw [diff_at hkl, sameB_comm]; exact l02Ints_any h2 (r1.keep hb) hrl (by omega)
        have HH := Lib.hid (fun hd => wr_hit hkl HA.out hd)
        have HN := Lib.hid hnn
        generalize rowL p.tracks (p.base.tick + (k : Int)) = R at hRI hEq
        generalize p.used[k].length = m1 at c1 hEq
        clear hc hx3 r1 hus ex hrl hnn
        clear ht
        cases hd : diffAt p k with
        | true =>
          rw [hd] at hEq
          have HD := Lib.hid hd
          clear hd HH
          go_wp2_with (fail)
          refine hRI.mono ?_
          rintro e w1 ⟨v1, rfl, o1, hb1⟩
          have c1' := (hb1.cell (World.block_lt_of_cell? _ _ c1)).trans c1
          have cB1 := rowCells (keepHeap hb1 hBr)
          go_wp2_with (fail)
          refine (hEq hb1 o1.rd).mono ?_
          rintro e w2 ⟨rfl, hb2⟩
          have hq2 := hbel.trans ((hb1.trans (hb2.mono hb1.size)).mono hbel.size)
          go_wp2_with (fail)
          go_roundw
          case rel =>
            refine ⟨k + 1, by omega, by go_num, hq2, Lib.hid (fun j hjk => ?_)⟩
            by_cases e : j = k
            · subst e; exact HD.out
            · exact HA.out j (by omega)
          case measure => simp [intOf]; omega
        | false =>
          rw [hd] at hEq
          have HF := Lib.hid (HFI.out.trans (HH.out hd))
          clear hd HH
          go_wp2_with (fail)
          refine hRI.mono ?_
          rintro e w1 ⟨v1, rfl, o1, hb1⟩
          have c1' := (hb1.cell (World.block_lt_of_cell? _ _ c1)).trans c1
          have cB1 := rowCells (keepHeap hb1 hBr)
          go_wp2_with (fail)
          refine (hEq hb1 o1.rd).mono ?_
          rintro e w2 ⟨rfl, hb2⟩
          have hq2 := hbel.trans ((hb1.trans (hb2.mono hb1.size)).mono hbel.size)
          have cB2 := rowCells (keepHeap hb2 (keepHeap hb1 hBr))
          go_wp2_with (fail)
          go_ret
          exact ⟨by rw [HF.out]; rfl, q_1.trans (hq2.mono q_1.size)⟩
      · have hl1 : ¬ (k : Int) < (p.used.length : Int) := by omega
        have HF := Lib.hid (HFI.out.trans (wr_none (p := p) (fun j hj => HA.out j (by omega))))
        go_wp2_with (fail)
        go_ret
        exact ⟨by rw [HF.out]; rfl, q_1.trans (hbel.mono q_1.size)⟩
set_option maxRecDepth 100000 in
set_option maxHeartbeats 8000000 in
theorem lawFirstWrong {w : World} (p : Pr) (vt bl bs bb nl ns nb vu vv vs : Value) (h : RdPr w p vt bl bs bb nl ns nb vu vv vs) (hs : p.sane) :
    Calls Tryz.prog 5 #[.agg (prC p vt bl bs bb nl ns nb vu vv vs)] w fun e w' => e = .returned (.bool true) ∧ Below w.heap.size w w' := by
  have h0 := h
  obtain ⟨a0, c0, rfl, -⟩ := id h.1
  obtain ⟨a1, c1, rfl, -⟩ := id h.2.1.1
  obtain ⟨a2, c2, rfl, -⟩ := id h.2.1.2.1
  obtain ⟨a3, c3, rfl, -⟩ := id h.2.1.2.2
  obtain ⟨a4, c4, rfl, -⟩ := id h.2.2.1.1
  obtain ⟨a5, c5, rfl, -⟩ := id h.2.2.1.2.1
  obtain ⟨a6, c6, rfl, -⟩ := id h.2.2.1.2.2
  obtain ⟨a7, c7, rfl, -⟩ := id h.2.2.2.1
  obtain ⟨a8, c8, rfl, -⟩ := id h.2.2.2.2.1
  obtain ⟨a9, c9, rfl, -⟩ := id h.2.2.2.2.2
  obtain ⟨w_1, hW, A_1, q0_1, -⟩ := rows1 w #[Value.int .i64 p.me, .int .i64 p.delay, .int .i64 p.ahead, .int .i64 p.seed, (.slice a0 p.tracks.length c0), (.slice a1 p.base.rows.length c1), .int .i64 p.base.tick, .int .i64 p.base.seed, (.slice a2 p.base.scores.length c2), (.slice a3 p.base.bods.length c3), (.slice a4 p.now.rows.length c4), .int .i64 p.now.tick, .int .i64 p.now.seed, (.slice a5 p.now.scores.length c5), (.slice a6 p.now.bods.length c6), (.slice a7 p.used.length c7), (.slice a8 p.saves.length c8), (.slice a9 p.sums.length c9), .int .i64 p.fault.tick, .int .i64 p.fault.player, .int .i64 p.fault.add, .int .i64 p.rolls, .int .i64 p.again] 35
  unfold prC
  go_enter Tryz.func5, Tryz.ntmps5
  go_upto_region 2 with (fail)
  try rw [hW]
  clear hW
  refine wp_region_lit ?_
  refine wpList_load_row rfl 35 _ rfl (w.heap.size) rfl 35 _ (0, 0) _ A_1 Tryz.underlying35 rfl (by kernel_rfl) ?_
  go_wp2_with (fail)
  refine (szPeer_any (h0.keep q0_1) hs 1048576 (by omega) (by omega)).mono ?_
  rintro e w_2 ⟨r, rfl, hr, hb_2⟩
  have q0_2 := q0_1.trans (hb_2.mono q0_1.size)
  have A_2 := keepHeap hb_2 A_1
  clear q0_1 A_1 hb_2
  rcases hr with rfl | ⟨hr0, -, hn⟩
  · go_wp2_with (fail)
    go_ret
    exact ⟨rfl, q0_2⟩
  have zr : decide (r < 0) = false := by simpa using hr0
  have hspec := fun {W : World} {vt bl bs bb nl ns nb vu vv vs : Value} (h1 : RdPr W p vt bl bs bb nl ns nb vu vv vs) => firstWrong_spec h1 hs hn
  have himpl := fun {W : World} {vt bl bs bb nl ns nb vu vv vs : Value} (h1 : RdPr W p vt bl bs bb nl ns nb vu vv vs) => firstWrong_impl h1 hs hn
  have heq := fun {W : World} {vt bl bs bb nl ns nb vu vv vs vt' bl' bs' bb' nl' ns' nb' vu' vv' vs' : Value} (h1 : RdPr W p vt bl bs bb nl ns nb vu vv vs) (h2 : RdPr W p vt' bl' bs' bb' nl' ns' nb' vu' vv' vs') => eqPeer_same h1 h2 hn
  have hto := fun {W : World} (h1 : RdPr W p (.slice a0 p.tracks.length c0) (.slice a1 p.base.rows.length c1) (.slice a2 p.base.scores.length c2) (.slice a3 p.base.bods.length c3) (.slice a4 p.now.rows.length c4) (.slice a5 p.now.scores.length c5) (.slice a6 p.now.bods.length c6) (.slice a7 p.used.length c7) (.slice a8 p.saves.length c8) (.slice a9 p.sums.length c9)) => toPeer_any h1 hn
  unfold prC at hspec himpl heq hto
  generalize firstI p = t at hspec himpl
  go_upto_region 5 with (fail)
  refine wp_region_lit ?_
  refine wpList_load_row rfl 35 _ rfl (w.heap.size) rfl 35 _ (0, 0) _ A_2 Tryz.underlying35 rfl (by kernel_rfl) ?_
  go_wp2_with (fail)
  refine (hto (h0.keep q0_2)).mono ?_
  rintro e w_3 ⟨u0, u1, u2, u3, u4, u5, u6, u7, u8, u9, rfl, o1, hb_3⟩
  have q0_3 := q0_2.trans (hb_3.mono q0_2.size)
  have A_3 := keepHeap hb_3 A_2
  clear q0_2 A_2 hb_3
  have rd1 := o1
  obtain ⟨a01, c01, rfl, -⟩ := id rd1.1
  obtain ⟨a11, c11, rfl, -⟩ := id rd1.2.1.1
  obtain ⟨a21, c21, rfl, -⟩ := id rd1.2.1.2.1
  obtain ⟨a31, c31, rfl, -⟩ := id rd1.2.1.2.2
  obtain ⟨a41, c41, rfl, -⟩ := id rd1.2.2.1.1
  obtain ⟨a51, c51, rfl, -⟩ := id rd1.2.2.1.2.1
  obtain ⟨a61, c61, rfl, -⟩ := id rd1.2.2.1.2.2
  obtain ⟨a71, c71, rfl, -⟩ := id rd1.2.2.2.1
  obtain ⟨a81, c81, rfl, -⟩ := id rd1.2.2.2.2.1
  obtain ⟨a91, c91, rfl, -⟩ := id rd1.2.2.2.2.2
  clear rd1
  unfold prC
  go_wp2_with (fail)
  refine (hspec o1).mono ?_
  rintro e w_4 ⟨rfl, hb_4⟩
  have q0_4 := q0_3.trans (hb_4.mono q0_3.size)
  have A_4 := keepHeap hb_4 A_3
  clear q0_3 A_3 hb_4 o1
  go_upto_region 6 with (fail)
  refine wp_region_lit ?_
  refine wpList_load_row rfl 35 _ rfl (w.heap.size) rfl 35 _ (0, 0) _ A_4 Tryz.underlying35 rfl (by kernel_rfl) ?_
  go_wp2_with (fail)
  rename_i hK6
  refine (hto (h0.keep q0_4)).mono ?_
  rintro e w_5 ⟨u0, u1, u2, u3, u4, u5, u6, u7, u8, u9, rfl, o2, hb_5⟩
  have q0_5 := q0_4.trans (hb_5.mono q0_4.size)
  have A_5 := keepHeap hb_5 A_4
  clear q0_4 A_4 hb_5
  have rd2 := o2
  obtain ⟨a02, c02, rfl, -⟩ := id rd2.1
  obtain ⟨a12, c12, rfl, -⟩ := id rd2.2.1.1
  obtain ⟨a22, c22, rfl, -⟩ := id rd2.2.1.2.1
  obtain ⟨a32, c32, rfl, -⟩ := id rd2.2.1.2.2
  obtain ⟨a42, c42, rfl, -⟩ := id rd2.2.2.1.1
  obtain ⟨a52, c52, rfl, -⟩ := id rd2.2.2.1.2.1
  obtain ⟨a62, c62, rfl, -⟩ := id rd2.2.2.1.2.2
  obtain ⟨a72, c72, rfl, -⟩ := id rd2.2.2.2.1
  obtain ⟨a82, c82, rfl, -⟩ := id rd2.2.2.2.2.1
  obtain ⟨a92, c92, rfl, -⟩ := id rd2.2.2.2.2.2
  clear rd2
  unfold prC
  obtain ⟨w_6, hw_6, X_6, hb_6⟩ : ∃ W, w_5.alloc (.cells #[Value.int .i64 p.me, .int .i64 p.delay, .int .i64 p.ahead, .int .i64 p.seed, (.slice a02 p.tracks.length c02), (.slice a12 p.base.rows.length c12), .int .i64 p.base.tick, .int .i64 p.base.seed, (.slice a22 p.base.scores.length c22), (.slice a32 p.base.bods.length c32), (.slice a42 p.now.rows.length c42), .int .i64 p.now.tick, .int .i64 p.now.seed, (.slice a52 p.now.scores.length c52), (.slice a62 p.now.bods.length c62), (.slice a72 p.used.length c72), (.slice a82 p.saves.length c82), (.slice a92 p.sums.length c92), .int .i64 p.fault.tick, .int .i64 p.fault.player, .int .i64 p.fault.add, .int .i64 p.rolls, .int .i64 p.again] 46) = W ∧ W.heap[w_5.heap.size]? = some (.cells #[Value.int .i64 p.me, .int .i64 p.delay, .int .i64 p.ahead, .int .i64 p.seed, (.slice a02 p.tracks.length c02), (.slice a12 p.base.rows.length c12), .int .i64 p.base.tick, .int .i64 p.base.seed, (.slice a22 p.base.scores.length c22), (.slice a32 p.base.bods.length c32), (.slice a42 p.now.rows.length c42), .int .i64 p.now.tick, .int .i64 p.now.seed, (.slice a52 p.now.scores.length c52), (.slice a62 p.now.bods.length c62), (.slice a72 p.used.length c72), (.slice a82 p.saves.length c82), (.slice a92 p.sums.length c92), .int .i64 p.fault.tick, .int .i64 p.fault.player, .int .i64 p.fault.add, .int .i64 p.rolls, .int .i64 p.again] 46 (0, 0)) ∧ Below w_5.heap.size w_5 W := ⟨_, rfl, heap_alloc_new _ _, below1 _ _⟩
  have q0_6 := q0_5.trans (hb_6.mono q0_5.size)
  have o2 := o2.keep hb_6
  have A_6 := keepHeap hb_6 A_5
  clear q0_5 A_5 hb_6
  refine hK6 _ _ ?_
  clear hK6
  refine wpList_runTo rfl _ rfl (.pointer (some ⟨w_5.heap.size, 0, none⟩)) (w_5.alloc (.cells #[Value.int .i64 0, .int .i64 0, .int .i64 0, .int .i64 0, (.slice none 0 0), (.slice none 0 0), .int .i64 0, .int .i64 0, (.slice none 0 0), (.slice none 0 0), (.slice none 0 0), .int .i64 0, .int .i64 0, (.slice none 0 0), (.slice none 0 0), (.slice none 0 0), (.slice none 0 0), (.slice none 0 0), .int .i64 0, .int .i64 0, .int .i64 0, .int .i64 0, .int .i64 0] 46)) (by kernel_rfl) ?_
  refine wpList_store_row rfl 46 _ _ rfl w_5.heap.size #[Value.int .i64 p.me, .int .i64 p.delay, .int .i64 p.ahead, .int .i64 p.seed, (.slice a02 p.tracks.length c02), (.slice a12 p.base.rows.length c12), .int .i64 p.base.tick, .int .i64 p.base.seed, (.slice a22 p.base.scores.length c22), (.slice a32 p.base.bods.length c32), (.slice a42 p.now.rows.length c42), .int .i64 p.now.tick, .int .i64 p.now.seed, (.slice a52 p.now.scores.length c52), (.slice a62 p.now.bods.length c62), (.slice a72 p.used.length c72), (.slice a82 p.saves.length c82), (.slice a92 p.sums.length c92), .int .i64 p.fault.tick, .int .i64 p.fault.player, .int .i64 p.fault.add, .int .i64 p.rolls, .int .i64 p.again] rfl rfl 46 _ (heap_alloc_new _ _) (by kernel_rfl) rfl (by simp [Value.oneCell']) ?_
  rw [World.setRow_alloc_new, hw_6]
  clear hw_6
  go_upto_region 7 with (fail)
  refine wp_region_lit ?_
  refine wpList_load_row rfl 46 _ rfl (w_5.heap.size) rfl 46 _ (0, 0) _ X_6 Tryz.underlying46 rfl (by kernel_rfl) ?_
  go_wp2_with (fail)
  refine (himpl o2).mono ?_
  rintro e w_7 ⟨rfl, hb_7⟩
  have q0_7 := q0_6.trans (hb_7.mono q0_6.size)
  have o2 := o2.keep hb_7
  have A_7 := keepHeap hb_7 A_6
  have X_7 := keepHeap hb_7 X_6
  clear q0_6 A_6 X_6 hb_7
  go_upto_region 10 with (fail)
  have ra := h0.keep q0_7
  have bs_0 : Below w_7.heap.size w_7 w_7.drew := belowDrew w_7 1
  refine wp_region_held_drew (S := fun w' => w'.heap[w.heap.size]? = some (.cells #[Value.int .i64 p.me, .int .i64 p.delay, .int .i64 p.ahead, .int .i64 p.seed, (.slice a0 p.tracks.length c0), (.slice a1 p.base.rows.length c1), .int .i64 p.base.tick, .int .i64 p.base.seed, (.slice a2 p.base.scores.length c2), (.slice a3 p.base.bods.length c3), (.slice a4 p.now.rows.length c4), .int .i64 p.now.tick, .int .i64 p.now.seed, (.slice a5 p.now.scores.length c5), (.slice a6 p.now.bods.length c6), (.slice a7 p.used.length c7), (.slice a8 p.saves.length c8), (.slice a9 p.sums.length c9), .int .i64 p.fault.tick, .int .i64 p.fault.player, .int .i64 p.fault.add, .int .i64 p.rolls, .int .i64 p.again] 35 (0, 0)) ∧ w'.heap[w_5.heap.size]? = some (.cells #[Value.int .i64 p.me, .int .i64 p.delay, .int .i64 p.ahead, .int .i64 p.seed, (.slice a02 p.tracks.length c02), (.slice a12 p.base.rows.length c12), .int .i64 p.base.tick, .int .i64 p.base.seed, (.slice a22 p.base.scores.length c22), (.slice a32 p.base.bods.length c32), (.slice a42 p.now.rows.length c42), .int .i64 p.now.tick, .int .i64 p.now.seed, (.slice a52 p.now.scores.length c52), (.slice a62 p.now.bods.length c62), (.slice a72 p.used.length c72), (.slice a82 p.saves.length c82), (.slice a92 p.sums.length c92), .int .i64 p.fault.tick, .int .i64 p.fault.player, .int .i64 p.fault.add, .int .i64 p.rolls, .int .i64 p.again] 46 (0, 0))) (by kernel_rfl) ?_ (fun hHeld => ?_)
  · exact ⟨keepHeap bs_0 A_7, keepHeap bs_0 X_7⟩
  refine take_on (i := 0) (v := .agg #[Value.int .i64 p.me, .int .i64 p.delay, .int .i64 p.ahead, .int .i64 p.seed, (.slice a02 p.tracks.length c02), (.slice a12 p.base.rows.length c12), .int .i64 p.base.tick, .int .i64 p.base.seed, (.slice a22 p.base.scores.length c22), (.slice a32 p.base.bods.length c32), (.slice a42 p.now.rows.length c42), .int .i64 p.now.tick, .int .i64 p.now.seed, (.slice a52 p.now.scores.length c52), (.slice a62 p.now.bods.length c62), (.slice a72 p.used.length c72), (.slice a82 p.saves.length c82), (.slice a92 p.sums.length c92), .int .i64 p.fault.tick, .int .i64 p.fault.player, .int .i64 p.fault.add, .int .i64 p.rolls, .int .i64 p.again]) (some 22) rfl (by kernel_rfl) (by kernel_rfl) (by kernel_rfl) rfl (fun _ _ _ h => h) (by rfl) (fun W hW => exec_load_row 46 _ rfl (w_5.heap.size) rfl 46 _ (0, 0) _ hW.2 Tryz.underlying46 rfl (by kernel_rfl)) (by assumption) ?_
  (try simp only [Act.put, List.setIfInBounds_toArray, List.set_cons_zero, List.set_cons_succ])
  refine take_on (i := 1) (v := .agg #[Value.int .i64 p.me, .int .i64 p.delay, .int .i64 p.ahead, .int .i64 p.seed, (.slice a0 p.tracks.length c0), (.slice a1 p.base.rows.length c1), .int .i64 p.base.tick, .int .i64 p.base.seed, (.slice a2 p.base.scores.length c2), (.slice a3 p.base.bods.length c3), (.slice a4 p.now.rows.length c4), .int .i64 p.now.tick, .int .i64 p.now.seed, (.slice a5 p.now.scores.length c5), (.slice a6 p.now.bods.length c6), (.slice a7 p.used.length c7), (.slice a8 p.saves.length c8), (.slice a9 p.sums.length c9), .int .i64 p.fault.tick, .int .i64 p.fault.player, .int .i64 p.fault.add, .int .i64 p.rolls, .int .i64 p.again]) (some 23) rfl (by kernel_rfl) (by kernel_rfl) (by kernel_rfl) rfl (fun _ _ _ h => h) (by rfl) (fun W hW => exec_load_row 35 _ rfl (w.heap.size) rfl 35 _ (0, 0) _ hW.1 Tryz.underlying35 rfl (by kernel_rfl)) (by assumption) ?_
  (try simp only [Act.put, List.setIfInBounds_toArray, List.set_cons_zero, List.set_cons_succ])
  refine wpAnyH_ready (rs := [2]) (by kernel_rfl) (by simp) ?_
  refine AllReadyH.cons rfl (fun K hK => ?_) AllReadyH.nil
  go_simp
  refine (hto (ra.keep bs_0)).mono ?_
  rintro e w_8 ⟨u0, u1, u2, u3, u4, u5, u6, u7, u8, u9, rfl, o8, hb_8⟩
  have bs_1 := bs_0.trans (hb_8.mono bs_0.size)
  have rd8 := o8
  obtain ⟨a08, c08, rfl, -⟩ := id rd8.1
  obtain ⟨a18, c18, rfl, -⟩ := id rd8.2.1.1
  obtain ⟨a28, c28, rfl, -⟩ := id rd8.2.1.2.1
  obtain ⟨a38, c38, rfl, -⟩ := id rd8.2.1.2.2
  obtain ⟨a48, c48, rfl, -⟩ := id rd8.2.2.1.1
  obtain ⟨a58, c58, rfl, -⟩ := id rd8.2.2.1.2.1
  obtain ⟨a68, c68, rfl, -⟩ := id rd8.2.2.1.2.2
  obtain ⟨a78, c78, rfl, -⟩ := id rd8.2.2.2.1
  obtain ⟨a88, c88, rfl, -⟩ := id rd8.2.2.2.2.1
  obtain ⟨a98, c98, rfl, -⟩ := id rd8.2.2.2.2.2
  clear rd8
  unfold prC
  (try go_wp2_with (fail))
  refine hK.out _ _ ?_ (fun hHeld => ?_)
  · exact ⟨keepHeap bs_1 A_7, keepHeap bs_1 X_7⟩
  clear hK K
  (try simp only [Act.put, List.setIfInBounds_toArray, List.set_cons_zero, List.set_cons_succ])
  refine wpAnyH_ready (rs := [3]) (by kernel_rfl) (by simp) ?_
  refine AllReadyH.cons rfl (fun K hK => ?_) AllReadyH.nil
  go_simp
  refine (heq (o2.keep bs_1) o8).mono ?_
  rintro e w_9 ⟨rfl, hb_9⟩
  have bs_2 := bs_1.trans (hb_9.mono bs_1.size)
  (try go_wp2_with (fail))
  refine hK.out _ _ ?_ (fun hHeld => ?_)
  · exact ⟨keepHeap bs_2 A_7, keepHeap bs_2 X_7⟩
  clear hK K
  (try simp only [Act.put, List.setIfInBounds_toArray, List.set_cons_zero, List.set_cons_succ])
  refine take_on (i := 4) (v := ?_) (some 26) rfl (by kernel_rfl) (by kernel_rfl) (by kernel_rfl) rfl (fun _ _ _ h => h) (by rfl) ?_ (by assumption) ?_
  rotate_left
  · intro w hSw; (try dsimp only at hSw); go_simp; (try with_reducible rfl)
  (try simp only [Act.put, List.setIfInBounds_toArray, List.set_cons_zero, List.set_cons_succ])
  refine wpAnyH_done (by kernel_rfl) ?_ _
  have hend := q0_7.trans (bs_2.mono q0_7.size)
  go_wp2_with (fail)
  go_ret
  exact ⟨rfl, hend⟩
end Go.Proofs.YtiidocjpeepheaaGreatDoor
