/-
  ScriptRows: the contracts of the model and of the program. Lists of at most 2^20 scripts and numbers.
-/
import Derived.Test.YtlffkcmbeolohaaScr
import Derived.Test.YtlffkcmbeolohaaRof
namespace Go.Proofs.Ytlffkcmbeolohaa
open Go.RowKit
set_option linter.all false
def vOk (x : List Int) (d : Int) : Bool := decide (x.length ≠ 0) && trkB x && inR d 0 5
theorem scr_v {x : List Int} {d : Int} {t : Nat} (h : vOk x d = true) : scrI x d (t : Int) = scrV x d (t : Int) := by
  unfold scrI scrOk; unfold vOk at h; rw [h]; simp
theorem scr_nv {x : List Int} {d : Int} (t : Int) (h : vOk x d = false) : scrI x d t = -1 := by
  unfold scrI scrOk; unfold vOk at h; rw [h]; rfl
theorem vOk_facts {x : List Int} {d : Int} (h : vOk x d = true) : x.length ≠ 0 ∧ x.length ≤ 400 ∧ 0 ≤ d ∧ ∀ t : Nat, 0 ≤ scrV x d (t : Int) := by
  unfold vOk at h
  rw [Bool.and_eq_true, Bool.and_eq_true, decide_eq_true_eq] at h
  obtain ⟨⟨h1, h2⟩, h3⟩ := h
  obtain ⟨h4, h5⟩ := trkB_facts h2
  refine ⟨h1, h4, ((inR_iff _ _ _).1 h3).1, fun t => ?_⟩
  unfold scrV; split
  · omega
  · have hlt : ((t : Int) - d).toNat % x.length < x.length := Nat.mod_lt _ (by omega)
    rw [List.getD_eq_getElem?_getD, List.getElem?_eq_getElem hlt]
    exact (h5 _ hlt).1
def srRow (S : Rowi) (d t : Int) : List Int := S.map fun x => scrV x d t
def srF (S : Rowi) (d : Int) (n : Nat) : Rowi := (List.range n).map fun (t : Nat) => srRow S d (t : Int)
def srOk (S : Rowi) (d n : Int) : Bool := inR (S.length : Int) 1 4 && inR n 0 400 && S.all fun x => vOk x d
def srR (S : Rowi) (d n : Int) : Rowi := if srOk S d n then srF S d n.toNat else []
theorem sr_len {S : Rowi} {d n : Int} (h : inR (S.length : Int) 1 4 = false) : srR S d n = [] := by unfold srR srOk; rw [h]; rfl
theorem sr_n {S : Rowi} {d n : Int} (h : inR n 0 400 = false) : srR S d n = [] := by unfold srR srOk; rw [h]; simp
theorem sr_bad {S : Rowi} {d n : Int} {k : Nat} (hk : k < S.length) (h : vOk S[k] d = false) : srR S d n = [] := by
  have : (S.all fun x => vOk x d) = false := by rw [List.all_eq_false]; exact ⟨_, List.getElem_mem hk, by rw [h]; simp⟩
  unfold srR srOk; rw [this]; simp
theorem sr_ok {S : Rowi} {d n : Int} (h1 : inR (S.length : Int) 1 4 = true) (h2 : inR n 0 400 = true) (h3 : ∀ k (hk : k < S.length), vOk S[k] d = true) : srR S d n = srF S d n.toNat := by
  have : (S.all fun x => vOk x d) = true := by
    rw [List.all_eq_true]; intro x hx
    obtain ⟨i, hi, rfl⟩ := List.getElem_of_mem hx
    exact h3 i hi
  unfold srR srOk; rw [h1, h2, this]; rfl
theorem srR_zero (S : Rowi) (d : Int) : srR S d 0 = [] := by unfold srR; split <;> simp [srF]
theorem srF_len (S : Rowi) (d : Int) (n : Nat) : (srF S d n).length = n := by unfold srF; simp
theorem srF_at {S : Rowi} {d : Int} {n k : Nat} (h : k < (srF S d n).length) : (srF S d n)[k] = srRow S d (k : Int) := by simp [srF]
theorem srRow_len (S : Rowi) (d t : Int) : (srRow S d t).length = S.length := by unfold srRow; simp
theorem srRow_at {S : Rowi} {d t : Int} {k : Nat} (h : k < S.length) : (srRow S d t)[k]'(by rw [srRow_len]; exact h) = scrV S[k] d t := by unfold srRow; simp
theorem srR_facts (S : Rowi) (d n : Int) : (srR S d n).length ≤ 400 ∧ (∀ x ∈ srR S d n, x.length ≤ 4) := by
  unfold srR
  split
  · rename_i h
    unfold srOk at h
    rw [Bool.and_eq_true, Bool.and_eq_true, inR_iff, inR_iff] at h
    refine ⟨by rw [srF_len]; omega, fun x hx => ?_⟩
    unfold srF at hx
    rw [List.mem_map] at hx
    obtain ⟨i, _, rfl⟩ := hx
    rw [srRow_len]; omega
  · exact ⟨by simp, fun x hx => by simp at hx⟩
theorem run_make_rows (W : World) (n : Nat) (hn : n ≤ 1048576) : (Instr.makeSlice 26 (.int .i64 0) (.int .i64 (n : Int))).run Try.prog W = .ok (.slice (some ⟨W.heap.size, 0, none⟩) 0 n) (W.alloc (.cells (madeCells #[.slice none 0 0] n) 27)) := by
  obtain ⟨i0, hi, hz0, hz1, hz2⟩ := info_parts info_IntSS
  have := run_make (P := Try.prog) W 26 27 i0 (.slice none 0 0) Try.underlying26 hi hz0 .i64 .i64 0 n (by omega) (by omega) (by rw [hz2]; omega) (by omega)
  rw [this, hz1, Nat.mul_one, Int.toNat_natCast]; rfl
theorem OwnRR.capped (w : World) (B n : Nat) (hB : B ≤ w.heap.size) (hn : n ≤ 1048576) : OwnRR (w.alloc (.cells (madeCells #[.slice none 0 0] n) 27)) B (w.alloc (.cells (madeCells #[.slice none 0 0] n) 27)).heap.size (.slice (some ⟨w.heap.size, 0, none⟩) 0 n) [] := by
  have hsz : (madeCells #[Value.slice none 0 0] n).size = n := by simp [madeCells]
  have := OwnRR.made w B (madeCells #[.slice none 0 0] n) hB (by rw [hsz]; unfold maxLen; omega)
  rwa [hsz] at this
theorem OwnR.cappedB (w : World) (B n : Nat) (hB : B ≤ w.heap.size) (hn : n ≤ 1099511627776) : OwnR (w.alloc (.cells (madeCells #[.int .i64 0] n) 3)) B (.slice (some ⟨w.heap.size, 0, none⟩) 0 n) [] := by
  have hsz : (madeCells #[Value.int .i64 0] n).size = n := by simp [madeCells]
  have := OwnR.made w (madeCells #[.int .i64 0] n) B hB (by rw [hsz]; unfold maxLen; omega)
  rwa [hsz] at this
def sokS (S : Rowi) (d : Int) : Bool := inR (S.length : Int) 1 4 && S.all fun x => vOk x d
theorem sokS_bad {S : Rowi} {d : Int} {k : Nat} (hk : k < S.length) (h : vOk S[k] d = false) : sokS S d = false := by
  have : (S.all fun x => vOk x d) = false := by rw [List.all_eq_false]; exact ⟨_, List.getElem_mem hk, by rw [h]; simp⟩
  unfold sokS; rw [this]; simp
theorem sokS_ok {S : Rowi} {d : Int} (h3 : ∀ k (hk : k < S.length), vOk S[k] d = true) : sokS S d = inR (S.length : Int) 1 4 := by
  have : (S.all fun x => vOk x d) = true := by
    rw [List.all_eq_true]; intro x hx
    obtain ⟨i, hi, rfl⟩ := List.getElem_of_mem hx
    exact h3 i hi
  unfold sokS; rw [this]; simp
theorem sokS_facts {S : Rowi} {d : Int} (h : sokS S d = true) : inR (S.length : Int) 1 4 = true ∧ ∀ k (hk : k < S.length), vOk S[k] d = true := by
  unfold sokS at h
  rw [Bool.and_eq_true, List.all_eq_true] at h
  exact ⟨h.1, fun k hk => h.2 _ (List.getElem_mem hk)⟩
theorem sr_not {S : Rowi} {d n : Int} (h : sokS S d = false) : srR S d n = [] := by
  unfold srR srOk
  rw [show (inR (S.length : Int) 1 4 && inR n 0 400 && S.all fun x => vOk x d) = (sokS S d && inR n 0 400) by unfold sokS; cases inR (S.length : Int) 1 4 <;> cases inR n 0 400 <;> simp, h]; rfl
set_option maxRecDepth 100000 in
set_option maxHeartbeats 4000000 in
theorem scriptsOk_impl {w : World} {v : Value} {S : Rowi} (h : RdR w v S) (hf : Few S) (d : Int) :
    Calls Try.prog 19 #[v, .int .i64 d] w fun e w' => e = .returned (.bool (sokS S d)) ∧ Below w.heap.size w w' := by
  obtain ⟨hn, hi⟩ := hf
  obtain ⟨a, cap, rfl, h⟩ := h
  have HOK := Lib.hid (fun (h3 : ∀ k (hk : k < S.length), vOk S[k] d = true) => sokS_ok h3)
  have HBAD := Lib.hid (fun k hk h => sokS_bad (S := S) (d := d) (k := k) hk h)
  generalize sokS S d = Y at *
  go_enter Try.func19, Try.ntmps19
  go_wp2_with (fail)
  go_loopw [9] (fun i wr => ∃ k : Nat, k ≤ S.length ∧ i = .int .i64 (k : Int) ∧ (∀ j (hj : j < S.length), j < k → vOk S[j] d = true) ∧ Below w.heap.size w wr) (fun i _ => S.length - (intOf i).toNat)
  case atStart => exact ⟨0, Nat.zero_le _, rfl, fun _ _ h => by omega, Below.refl _ _⟩
  case round =>
    obtain ⟨k, hk, rfl, hat, hbelA⟩ := hrel
    have HA := Lib.hid hat
    clear hat
    by_cases hkl : k < S.length
    · obtain ⟨b, off, rfl, hc⟩ := h.resolve_left (by intro e; rw [e] at hkl; simp at hkl)
      obtain ⟨u, c0, r0⟩ := hc k hkl
      have c1 : wr.cell? ⟨b, off + k, none⟩ = some u := (hbelA.cell (World.block_lt_of_cell? w _ c0)).trans c0
      have R := r0.keep hbelA
      have hxl := hi S[k] (List.getElem_mem _)
      have HB1 := Lib.hid (HBAD.out k hkl)
      have hl1 : (k : Int) < (S.length : Int) := by omega
      obtain ⟨x, hx⟩ : ∃ x, x = S[k] := ⟨_, rfl⟩
      rw [← hx] at R hxl HB1
      have HX := Lib.hid hx
      have hC := scriptInput_impl R (by omega) d 0 ⟨by omega, by omega⟩
      obtain ⟨ax, cx, rfl, -⟩ := id R
      clear hc h c0 r0 hx HBAD HOK
      cases hv : vOk x d with
      | true =>
        rw [show (0 : Int) = ((0 : Nat) : Int) from rfl, scr_v (t := 0) hv] at hC
        have hnn := (vOk_facts hv).2.2.2 0
        have HV : Hid (vOk S[k] d = true) := Lib.hid (by rw [← HX.out]; exact hv)
        generalize scrV x d ((0 : Nat) : Int) = q at hC hnn
        have zq : decide (q < 0) = false := by simp; omega
        clear hv HB1
        go_wp2_with (fail)
        refine hC.mono ?_
        rintro e w1 ⟨rfl, hb1⟩
        go_wp2_with (fail)
        go_roundw
        case rel =>
          refine ⟨k + 1, by omega, by go_num, fun j hj hjk => ?_, hbelA.trans (hb1.mono hbelA.size)⟩
          by_cases e : j = k
          · subst e; exact HV.out
          · exact HA.out j hj (by omega)
        case measure => simp [intOf]; omega
      | false =>
        rw [scr_nv _ hv] at hC
        have HY := Lib.hid (HB1.out hv)
        clear hv HB1
        go_wp2_with (fail)
        refine hC.mono ?_
        rintro e w1 ⟨rfl, hb1⟩
        have hb01 := hbelA.trans (hb1.mono hbelA.size)
        go_wp2_with (fail)
        go_ret
        exact ⟨by rw [HY.out]; rfl, hb01⟩
    · have hall : ∀ j (hj : j < S.length), vOk S[j] d = true := fun j hj => HA.out j hj (by omega)
      have HY := Lib.hid (HOK.out hall)
      clear hall HOK HBAD HA
      go_wp2_with (fail)
      refine (within_impl _ _ _ _).mono ?_
      rintro e w1 ⟨rfl, rfl⟩
      go_wp2_with (fail)
      go_ret
      exact ⟨by rw [HY.out]; rfl, hbelA⟩
set_option maxRecDepth 100000 in
set_option maxHeartbeats 4000000 in
theorem scriptRows_impl {w : World} {v : Value} {S : Rowi} (h : RdR w v S) (hf : Few S) (d n : Int) :
    Calls Try.prog 8 #[v, .int .i64 d, .int .i64 n] w (RetRR w (srR S d n)) := by
  have h00 := h
  have hso := scriptsOk_impl h hf d
  obtain ⟨hn, hi⟩ := hf
  obtain ⟨a, cap, rfl, h⟩ := h
  cases hq : sokS S d with
  | false =>
    rw [sr_not hq]
    rw [hq] at hso
    clear hq
    go_enter Try.func8, Try.ntmps8
    go_wp2_with (fail)
    refine hso.mono ?_
    rintro e w1 ⟨rfl, hb1⟩
    go_wp2_with (fail)
    go_ret
    exact ⟨_, rfl, OwnRR.nil _ _ hb1.size, hb1⟩
  | true =>
    rw [hq] at hso
    obtain ⟨hq0, hall⟩ := sokS_facts hq
    have hS4 := (inR_iff _ _ _).1 hq0
    cases hq2 : inR n 0 400 with
    | false =>
      rw [sr_n (S := S) (d := d) hq2]
      have Q2 := Lib.hid hq2
      clear hq hq2 hq0 hall
      go_enter Try.func8, Try.ntmps8
      go_wp2_with (fail)
      refine hso.mono ?_
      rintro e w1 ⟨rfl, hb1⟩
      go_wp2_with (fail)
      refine (within_impl _ _ _ _).mono ?_
      rintro e w2 ⟨rfl, rfl⟩
      rw [Q2.out]
      go_wp2_with (fail)
      go_ret
      exact ⟨_, rfl, OwnRR.nil _ _ hb1.size, hb1⟩
    | true =>
      have Q2 := Lib.hid hq2
      have hn4 := (inR_iff _ _ _).1 hq2
      have HY0 := Lib.hid (sr_ok (n := n) hq0 hq2 hall)
      have HALL := Lib.hid hall
      obtain ⟨m, rfl⟩ := Int.eq_ofNat_of_zero_le hn4.1
      have hm4 : m ≤ 400 := by omega
      clear hq hq2 hq0 hall
      generalize srR S d (m : Int) = Y at *
      go_enter Try.func8, Try.ntmps8
      go_wp2_with (fail)
      refine hso.mono ?_
      rintro e wr ⟨rfl, hbelA⟩
      go_wp2_with (fail)
      refine (within_impl _ _ _ _).mono ?_
      rintro e w2 ⟨rfl, rfl⟩
      rw [Q2.out]
      have HY := HY0.out
      rw [Int.toNat_natCast] at HY
      subst HY
      clear HY0 hso
      have hFl := srF_len S d m
      have HFA := Lib.hid (fun k (h : k < (srF S d m).length) => srF_at h)
      generalize srF S d m = F at *
      have hsz0 := hbelA.size
      have hmk := fun W => run_make_rows W m (by omega)
      have hown0 := OwnRR.capped wr w.heap.size m hsz0 (by omega)
      have hbel0 := hbelA.trans ((below1 wr (.cells (madeCells #[.slice none 0 0] m) 27)).mono hsz0)
      have hmk2 := fun W => run_make_cap W S.length (by omega)
      
      go_wp2_with (fail)
      go_loopw [7, 24] (fun c i wr => ∃ k : Nat, k ≤ m ∧ i = .int .i64 (k : Int) ∧ OwnRR wr w.heap.size wr.heap.size c (F.take k) ∧ Below w.heap.size w wr) (fun _ i _ => m - (intOf i).toNat)
      case atStart => exact ⟨0, Nat.zero_le _, rfl, hown0, hbel0⟩
      case round =>
        clear hown0 hbel0 hbelA hsz0
        obtain ⟨t, ht, rfl, hown, hbel⟩ := hrel
        by_cases htm : t < m
        · have hkF : t < F.length := by omega
          have hsz := hbel.size
          have htl : (F.take t).length = t := by rw [List.length_take]; omega
          have HT := Lib.hid (List.take_succ_eq_append_getElem hkF)
          rw [HFA.out t hkF] at HT
          have HTL := Lib.hid htl
          have htm' : (t : Int) < (m : Int) := by omega
          have hrow0 := OwnR.cappedB wr wr.heap.size S.length (Nat.le_refl _) (by omega)
          have hb1 := below1 wr (.cells (madeCells #[.int .i64 0] S.length) 3)
          clear htl
          generalize F.take t = acc at *
          go_wp2_with (fail)
          go_loopw [9, 32] (fun c i wj => ∃ k : Nat, k ≤ S.length ∧ i = .int .i64 (k : Int) ∧ OwnR wj wr.heap.size c ((srRow S d (t : Int)).take k) ∧ Below wr.heap.size wr wj) (fun _ i _ => S.length - (intOf i).toNat)
          case atStart => exact ⟨0, Nat.zero_le _, rfl, hrow0, hb1⟩
          case round =>
            clear hrow0 hb1
            obtain ⟨k, hk, rfl, hrow, hbj⟩ := hrel
            by_cases hkl : k < S.length
            · obtain ⟨b, off, rfl, hc⟩ := h.resolve_left (by intro e; rw [e] at hkl; simp at hkl)
              obtain ⟨u, c0, r0⟩ := hc k hkl
              have hbw := hbel.trans (hbj.mono hsz)
              have c1 := (hbw.cell (World.block_lt_of_cell? w _ c0)).trans c0
              have R := r0.keep hbw
              have hv := HALL.out k hkl
              obtain ⟨g1, g2, g3, -⟩ := vOk_facts hv
              have hkl2 : k < (srRow S d (t : Int)).length := by rw [srRow_len]; exact hkl
              have HT2 := Lib.hid (List.take_succ_eq_append_getElem hkl2)
              rw [srRow_at hkl] at HT2
              have htl2 : ((srRow S d (t : Int)).take k).length = k := by rw [List.length_take]; omega
              have HTL2 := Lib.hid htl2
              have hl1 : (k : Int) < (S.length : Int) := by omega
              have hC := scriptIn_impl R g1 g2 d (t : Int) g3 ⟨by omega, by omega⟩
              have hszj := hbj.size
              clear hc h c0 r0 hv htl2 g1 g2 HALL
              generalize scrV S[k] d (t : Int) = y at *
              generalize S[k] = x at *
              obtain ⟨ax, cx, rfl, -⟩ := id R
              generalize (srRow S d (t : Int)).take k = acc2 at *
              go_wp2_with (first
                | (go_at_call 21; refine hC.mono ?_; rintro e w1 ⟨rfl, rfl⟩)
                | (at_builtin; refine app_int rfl _ _ rfl _ _ acc2 rfl hrow _ rfl (by rw [HTL2.out]; omega) hszj ?_; intro v' w4 hown' hb'))
              go_roundw
              case rel => exact ⟨k + 1, by omega, by go_num, by rw [HT2.out]; exact hown', hbj.trans hb'⟩
              case measure => simp [intOf]; omega
            · have e : (srRow S d (t : Int)).take k = srRow S d (t : Int) := List.take_of_length_le (by rw [srRow_len]; omega)
              rw [e] at hrow
              have hu := hrow.own
              have hown3 := hown.keep hbj (Nat.le_refl _)
              clear e hrow
              generalize srRow S d (t : Int) = row at *
              obtain ⟨a3, c3, rfl, -⟩ := id hu
              go_wp2_with (at_builtin; refine app_row rfl _ _ rfl w.heap.size _ _ acc rfl hown3 _ _ hu rfl (by rw [HTL.out]; omega) hsz ?_; intro v' w4 hown' hb')
              go_roundw
              case rel => exact ⟨t + 1, by omega, by go_num, by rw [HT.out]; exact hown', (hbel.trans (hbj.mono hsz)).trans hb'⟩
              case measure => simp [intOf]; omega
        · have e : F.take t = F := List.take_of_length_le (by omega)
          rw [e] at hown
          clear e
          go_wp2_with (fail)
          go_ret
          exact ⟨_, rfl, hown, hbel⟩
set_option maxRecDepth 100000 in
set_option maxHeartbeats 4000000 in
theorem scriptRows_spec {w : World} {v : Value} {S : Rowi} (h : RdR w v S) (hf : Few S) (d n : Int) :
    Calls Try.prog 12 #[v, .int .i64 d, .int .i64 n] w (RetRR w (srR S d n)) := by
  obtain ⟨hn, hi⟩ := hf
  obtain ⟨a, cap, rfl, h⟩ := h
  have hbm : Below w.heap.size w (w.alloc (.cells #[] 27)) := below1 _ _
  have hownM := OwnRR.made w w.heap.size #[] (Nat.le_refl _) (by unfold maxLen; decide)
  cases hq : inR (S.length : Int) 1 4 with
  | false =>
    rw [sr_len hq]
    have Q := Lib.hid hq
    clear hq
    go_enter Try.func12, Try.ntmps12
    go_wp2_with (go_at_call 24; refine (in_spec _ _ _ _).mono ?_; rintro e w1 ⟨rfl, rfl⟩; rw [Q.out])
    go_ret
    exact ⟨_, rfl, hownM, hbm⟩
  | true =>
    have Q := Lib.hid hq
    have hS4 := (inR_iff _ _ _).1 hq
    cases hq2 : inR n 0 400 with
    | false =>
      rw [sr_n (S := S) (d := d) hq2]
      have Q2 := Lib.hid hq2
      clear hq hq2
      go_enter Try.func12, Try.ntmps12
      go_wp2_with (fail)
      refine (in_spec _ _ _ _).mono ?_
      rintro e w1 ⟨rfl, rfl⟩
      rw [Q.out]
      go_wp2_with (fail)
      refine (in_spec _ _ _ _).mono ?_
      rintro e w1 ⟨rfl, rfl⟩
      rw [Q2.out]
      go_wp2_with (fail)
      go_ret
      exact ⟨_, rfl, hownM, hbm⟩
    | true =>
      have Q2 := Lib.hid hq2
      have hn4 := (inR_iff _ _ _).1 hq2
      have HOK := Lib.hid (fun (h3 : ∀ k (hk : k < S.length), vOk S[k] d = true) => sr_ok (n := n) hq hq2 h3)
      have HBAD := Lib.hid (fun k hk h => sr_bad (S := S) (d := d) (n := n) (k := k) hk h)
      obtain ⟨m, rfl⟩ := Int.eq_ofNat_of_zero_le hn4.1
      have hm4 : m ≤ 400 := by omega
      have HZ : Hid (m = 0 → srR S d (m : Int) = []) := Lib.hid (fun e => by subst e; exact srR_zero S d)
      clear hq hq2
      generalize srR S d (m : Int) = Y at *
      go_enter Try.func12, Try.ntmps12
      go_wp2_with (fail)
      refine (in_spec _ _ _ _).mono ?_
      rintro e w1 ⟨rfl, rfl⟩
      rw [Q.out]
      go_wp2_with (fail)
      refine (in_spec _ _ _ _).mono ?_
      rintro e w1 ⟨rfl, rfl⟩
      rw [Q2.out]
      go_wp2_with (fail)
      go_loopw [7, 8] (fun c i wr => ∃ t : Nat, t ≤ m ∧ i = .int .i64 (t : Int) ∧ OwnRR wr w.heap.size wr.heap.size c ((srF S d m).take t) ∧ Below w.heap.size w wr ∧ (0 < t → ∀ k (hk : k < S.length), vOk S[k] d = true)) (fun _ i _ => m - (intOf i).toNat)
      case atStart => exact ⟨0, Nat.zero_le _, rfl, hownM, hbm, fun h => by omega⟩
      case round =>
        clear hownM hbm
        obtain ⟨t, ht, rfl, hown, hbel, hval⟩ := hrel
        have HVAL := Lib.hid hval
        clear hval
        by_cases htm : t < m
        · have hkF : t < (srF S d m).length := by rw [srF_len]; omega
          have hsz := hbel.size
          have htl : ((srF S d m).take t).length = t := by rw [List.length_take]; omega
          have HT := Lib.hid (List.take_succ_eq_append_getElem hkF)
          rw [srF_at hkF] at HT
          have HTL := Lib.hid htl
          have htm' : (t : Int) < (m : Int) := by omega
          have hrow0 : OwnR (wr.alloc (.cells #[] 3)) wr.heap.size (.slice (some ⟨wr.heap.size, 0, none⟩) 0 0) [] := OwnR.made wr #[] wr.heap.size (Nat.le_refl _) (by unfold maxLen; decide)
          have hb1 := below1 wr (.cells #[] 3)
          clear htl
          generalize (srF S d m).take t = acc at *
          go_wp2_with (fail)
          go_loopw [9, 10] (fun c i wj => ∃ k : Nat, k ≤ S.length ∧ i = .int .i64 (k : Int) ∧ OwnR wj wr.heap.size c ((srRow S d (t : Int)).take k) ∧ Below wr.heap.size wr wj ∧ ∀ j (hj : j < S.length), j < k → vOk S[j] d = true) (fun _ i _ => S.length - (intOf i).toNat)
          case atStart => exact ⟨0, Nat.zero_le _, rfl, hrow0, hb1, fun _ _ h => by omega⟩
          case round =>
            clear hrow0 hb1
            obtain ⟨k, hk, rfl, hrow, hbj, hat⟩ := hrel
            have HA := Lib.hid hat
            clear hat
            by_cases hkl : k < S.length
            · obtain ⟨b, off, rfl, hc⟩ := h.resolve_left (by intro e; rw [e] at hkl; simp at hkl)
              obtain ⟨u, c0, r0⟩ := hc k hkl
              have hbw := hbel.trans (hbj.mono hsz)
              have c1 := (hbw.cell (World.block_lt_of_cell? w _ c0)).trans c0
              have R := r0.keep hbw
              have hkl2 : k < (srRow S d (t : Int)).length := by rw [srRow_len]; exact hkl
              have HT2 := Lib.hid (List.take_succ_eq_append_getElem hkl2)
              rw [srRow_at hkl] at HT2
              have htl2 : ((srRow S d (t : Int)).take k).length = k := by rw [List.length_take]; omega
              have HTL2 := Lib.hid htl2
              have hl1 : (k : Int) < (S.length : Int) := by omega
              have hxl := hi S[k] (List.getElem_mem _)
              have HB1 := Lib.hid (HBAD.out k hkl)
              obtain ⟨x, hx⟩ : ∃ x, x = S[k] := ⟨_, rfl⟩
              rw [← hx] at R hxl HB1 HT2
              have HX := Lib.hid hx
              have hC := scriptInput_spec R (by omega) d (t : Int) ⟨by omega, by omega⟩
              obtain ⟨ax, cx, rfl, -⟩ := id R
              have hszj := hbj.size
              clear hc h c0 r0 htl2 hx HBAD HOK
              cases hv : vOk x d with
              | true =>
                rw [scr_v hv] at hC
                have hnn := (vOk_facts hv).2.2.2 t
                have HV : Hid (vOk S[k] d = true) := Lib.hid (by rw [← HX.out]; exact hv)
                generalize scrV x d (t : Int) = y at *
                have zq : decide (y < 0) = false := by simp; omega
                clear hv HB1
                generalize (srRow S d (t : Int)).take k = acc2 at *
                go_wp2_with (first
                  | (go_at_call 25; refine hC.mono ?_; rintro e w1 ⟨rfl, rfl⟩)
                  | (at_builtin; refine app_int rfl _ _ rfl _ _ acc2 rfl hrow _ rfl (by rw [HTL2.out]; omega) hszj ?_; intro v' w4 hown' hb'))
                go_roundw
                case rel =>
                  refine ⟨k + 1, by omega, by go_num, by rw [HT2.out]; exact hown', hbj.trans hb', fun j hj hjk => ?_⟩
                  by_cases e : j = k
                  · subst e; exact HV.out
                  · exact HA.out j hj (by omega)
                case measure => simp [intOf]; omega
              | false =>
                rw [scr_nv _ hv] at hC
                have HY := HB1.out hv
                clear hv HB1
                subst HY
                have hom : OwnRR (wr.alloc (.cells #[] 27)) w.heap.size (wr.alloc (.cells #[] 27)).heap.size (.slice (some ⟨wr.heap.size, 0, none⟩) 0 0) [] := OwnRR.made wr w.heap.size #[] hbw.size (by unfold maxLen; decide)
                go_wp2_with (fail)
                refine hC.mono ?_
                rintro e w1 ⟨rfl, rfl⟩
                go_wp2_with (fail)
                go_ret
                exact ⟨_, rfl, hom, hbw.trans ((below1 _ _).mono hbw.size)⟩
            · have hall : ∀ j (hj : j < S.length), vOk S[j] d = true := fun j hj => HA.out j hj (by omega)
              have e : (srRow S d (t : Int)).take k = srRow S d (t : Int) := List.take_of_length_le (by rw [srRow_len]; omega)
              rw [e] at hrow
              have hu := hrow.own
              have hown3 := hown.keep hbj (Nat.le_refl _)
              have HALL := Lib.hid hall
              clear e hrow hall
              generalize srRow S d (t : Int) = row at *
              obtain ⟨a3, c3, rfl, -⟩ := id hu
              go_wp2_with (at_builtin; refine app_row rfl _ _ rfl w.heap.size _ _ acc rfl hown3 _ _ hu rfl (by rw [HTL.out]; omega) hsz ?_; intro v' w4 hown' hb')
              go_roundw
              case rel => exact ⟨t + 1, by omega, by go_num, by rw [HT.out]; exact hown', (hbel.trans (hbj.mono hsz)).trans hb', fun _ => HALL.out⟩
              case measure => simp [intOf]; omega
        · have e : t = m := by omega
          subst e
          have hY : (srF S d t).take t = Y := by
            by_cases h0 : t = 0
            · rw [HZ.out h0]; subst h0; rfl
            · have := HOK.out (HVAL.out (by omega))
              rw [Int.toNat_natCast] at this
              rw [this, List.take_of_length_le (by rw [srF_len]; omega)]
          rw [hY] at hown
          clear hY
          go_wp2_with (fail)
          go_ret
          exact ⟨_, rfl, hown, hbel⟩
end Go.Proofs.Ytlffkcmbeolohaa
