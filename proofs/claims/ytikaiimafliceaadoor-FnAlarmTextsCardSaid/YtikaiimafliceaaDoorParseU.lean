/-
  ParseUint: the contracts of the model and of the program, the law. Condition: what the given row lists.
-/
import Derived.Test.YtikaiimafliceaaDoorStrs
import Derived.Test.YtikaiimafliceaaDoorParse
namespace Go.Proofs.YtikaiimafliceaaDoor
open Go.RowKit
set_option linter.all false

theorem dval_ge (l : List UInt8) : ∀ a, a ≤ dval l a := by
  induction l with
  | nil => intro a; exact Nat.le_refl _
  | cons c l ih => intro a; simp only [dval]; have := ih (10 * a + (c.toNat - 48)); omega
theorem pu10_ok (l : List UInt8) : (∀ c ∈ l, 48 ≤ c.toNat ∧ c.toNat ≤ 57) → ∀ a, dval l a ≤ 1000000000 → Lib.parseUint10 a l = .ok (dval l a) := by
  induction l with
  | nil => intro _ a _; rfl
  | cons c l ih =>
    intro h a hd
    have hc := h c (by simp)
    simp only [dval] at hd
    have hge := dval_ge l (10 * a + (c.toNat - 48))
    simp only [Lib.parseUint10, dval]
    rw [if_pos hc, if_neg (by omega), if_neg (by omega), Nat.mul_comm a 10]
    exact ih (fun d hd => h d (by simp [hd])) _ hd
theorem atoi_dec {u : Nat} (h : u ≤ 1000000000) : Lib.atoiAll (Lib.decDigits u) = .ok (u : Int) := by
  have hd := dec_dig u
  have hv := dval_dec u
  have hp := pu10_ok _ hd 0 (by omega)
  rw [hv] at hp
  cases e : Lib.decDigits u with
  | nil => exact absurd e (dec_ne u)
  | cons c r =>
    rw [e] at hd hp
    have hc := hd c (by simp)
    unfold Lib.atoiAll Lib.parseMag
    simp only
    rw [if_neg (show ¬ (c.toNat = 43 ∨ c.toNat = 45) by omega), if_neg (by simp), hp]
    simp only
    rw [if_neg (by omega), if_neg (by omega), if_neg (by omega)]
theorem puL_atoi {l : List UInt8} {u : Nat} (h : puL l = some u) : Lib.atoiAll l = .ok (u : Int) := by
  obtain ⟨h1, h2⟩ := puL_of h
  rw [← h2]; exact atoi_dec h1
/-- What the digits so far say. -/
def PuAt (l : List UInt8) (k : Nat) (n : Nat) : Prop := n = dval (l.take k) 0 ∧ ∀ c ∈ l.take k, c.toNat ≤ 57
theorem PuAt.zero (l : List UInt8) : PuAt l 0 0 := ⟨rfl, by simp⟩
theorem PuAt.bd {l : List UInt8} {k n : Nat} (h : PuAt l k n) (hl : l.length ≤ 10) : n < 10000000000 := by
  have h1 := dval_lt (l.take k) h.2 0
  have h2 : (l.take k).length ≤ 10 := by rw [List.length_take]; omega
  have h3 : 10 ^ (l.take k).length ≤ 10 ^ 10 := Nat.pow_le_pow_right (by omega) h2
  have h4 : (10 : Nat) ^ 10 = 10000000000 := by decide
  rw [h.1]; omega
theorem PuAt.next {l : List UInt8} {k n : Nat} (h : PuAt l k n) (hk : k < l.length) (hc : l[k].toNat ≤ 57) : PuAt l (k + 1) (10 * n + (l[k].toNat - 48)) := by
  refine ⟨by rw [dval_take hk, ← h.1], fun c hc' => ?_⟩
  rw [List.take_succ_eq_append_getElem hk] at hc'
  rcases List.mem_append.1 hc' with h' | h'
  · exact h.2 c h'
  · simp only [List.mem_singleton] at h'; subst h'; exact hc
theorem PuAt.done {l : List UInt8} {n : Nat} (h : PuAt l l.length n) : n = dval l 0 := by
  have := h.1; rwa [List.take_of_length_le (Nat.le_refl _)] at this
set_option maxHeartbeats 2000000 in
theorem parseUint_spec (l : List UInt8) (w : World) (hs : l.length ≤ 9223372036854775807) :
    Calls Tryd.prog 27 #[.string ⟨l.toArray⟩] w fun e w' => e = .returned (retPu (puL l)) ∧ Below w.heap.size w w' := by
  by_cases h1 : 10 < l.length
  · have HF := Lib.hid (puL_long h1)
    go_enter Tryd.func27, Tryd.ntmps27
    go_wp2_with (fail)
    go_ret2
    exact ⟨by rw [HF.out]; rfl, Below.refl _ _⟩
  · have h1' : l.length ≤ 10 := by omega
    clear h1
    go_enter Tryd.func27, Tryd.ntmps27
    go_wp2_with (fail)
    go_loopw [4, 5] (fun v i wr => ∃ (k n : Nat), k ≤ l.length ∧ PuAt l k n ∧ v = .int .i64 (n : Int) ∧ i = .int .i64 (k : Int) ∧ Below w.heap.size w wr) (fun _ i _ => l.length - (intOf i).toNat)
    case atStart => exact ⟨0, 0, Nat.zero_le _, PuAt.zero l, rfl, rfl, Below.refl _ _⟩
    case round =>
      obtain ⟨k, n, hk, hat, rfl, rfl, hbel⟩ := hrel
      have hB := hbel.size
      have hn := hat.bd h1'
      by_cases hkl : k < l.length
      · obtain ⟨c, hc⟩ : ∃ c, c = l[k] := ⟨_, rfl⟩
        have hix : (ByteArray.mk l.toArray)[k]'hkl = c := hc.symm
        have hlt : (k : Int) < (l.length : Int) := by omega
        have hc255 : (c.toNat : Int) ≤ 255 := by have := c.toNat_lt; omega
        have hidx : ∀ W, (Instr.index 9 (.string ⟨l.toArray⟩) (.int .i64 (k : Int))).run Tryd.prog W = .ok (.int .u8 (c.toNat : Int)) W := fun W => run_at W hkl hix
        by_cases c1 : c.toNat < 48
        · have HF := Lib.hid (puL_bad hkl (by rw [← hc]; omega))
          have z1 : decide ((c.toNat : Int) < 48) = true := by simp; omega
          clear hc hat c1 hix
          go_wp2_with (fail)
          try go_quiet (fail)
          try go_wp2_with (fail)
          go_ret2
          exact ⟨by rw [HF.out]; rfl, hbel⟩
        · have z1 : decide ((c.toNat : Int) < 48) = false := by simp; omega
          by_cases c2 : 57 < c.toNat
          · have HF := Lib.hid (puL_bad hkl (by rw [← hc]; omega))
            have z2 : decide (57 < (c.toNat : Int)) = true := by simp; omega
            clear hc hat c1 c2 hix
            go_wp2_with (fail)
            try go_quiet (fail)
            try go_wp2_with (fail)
            go_ret2
            exact ⟨by rw [HF.out]; rfl, hbel⟩
          · have z2 : decide (57 < (c.toNat : Int)) = false := by simp; omega
            have hnx := hat.next hkl (by rw [← hc]; omega)
            rw [← hc] at hnx
            have HN := Lib.hid hnx
            have hc0 : (48 : Int) ≤ (c.toNat : Int) := by omega
            have hw0 : IntKind.i64.wrap (c.toNat : Int) = (c.toNat : Int) := IntWalk.i64_in _ (by omega)
            have hw1 : IntKind.i64.wrap (10 * (n : Int)) = 10 * (n : Int) := IntWalk.i64_in _ (by omega)
            have hw2 : IntKind.i64.wrap (10 * (n : Int) + (c.toNat : Int)) = 10 * (n : Int) + (c.toNat : Int) := IntWalk.i64_in _ (by omega)
            have hw3 : IntKind.i64.wrap (10 * (n : Int) + (c.toNat : Int) - 48) = 10 * (n : Int) + (c.toNat : Int) - 48 := IntWalk.i64_in _ (by omega)
            clear hc hat hnx hix
            go_wp2_with (fail)
            go_roundw
            case rel => exact ⟨k + 1, _, by omega, HN.out, by congr 1; omega, by go_num, hbel⟩
            case measure => simp [intOf]; omega
      · have e : k = l.length := by omega
        subst e
        have hd := hat.done
        clear hat hkl
        by_cases n1 : 1000000000 < n
        · have HF := Lib.hid (show puL l = none by unfold puL; rw [← hd, if_neg (by omega)])
          have HD := Lib.hid hd; clear hd
          have z1 : decide ((1000000000 : Int) < (n : Int)) = true := by simp; omega
          go_wp2_with (fail)
          go_ret2
          exact ⟨by rw [HF.out]; rfl, hbel⟩
        · have z1 : decide ((1000000000 : Int) < (n : Int)) = false := by simp; omega
          by_cases q : Lib.decDigits n = l
          · have HF := Lib.hid (puL_some (by omega) q)
            have hq : (Lib.itoa (n : Int) == l) = true := by rw [Lib.itoa_nonneg]; simpa using q
            clear q hd
            go_wp2_with (go_at_call 24; refine (formatInt_spec (n : Int) _ (by omega) (by omega)).mono ?_; rintro e w1 ⟨rfl, hb1⟩)
            go_ret2
            exact ⟨by rw [HF.out]; rfl, hbel.trans (hb1.mono hB)⟩
          · have HF := Lib.hid (show puL l = none by unfold puL; rw [← hd, if_neg (by intro h; exact q h.2)])
            have hq : (Lib.itoa (n : Int) == l) = false := by rw [Lib.itoa_nonneg]; simpa using q
            clear q hd
            go_wp2_with (go_at_call 24; refine (formatInt_spec (n : Int) _ (by omega) (by omega)).mono ?_; rintro e w1 ⟨rfl, hb1⟩)
            go_ret2
            exact ⟨by rw [HF.out]; rfl, hbel.trans (hb1.mono hB)⟩
/-- The library's two errors read as they are laid. -/
def Errs (w : World) : Prop := (∃ tp p, w.var? Tryd.prog "strconv.ErrSyntax" = some #[.iface tp p]) ∧ ∃ tp p, w.var? Tryd.prog "strconv.ErrRange" = some #[.iface tp p]
theorem gSyn : Tryd.prog.globalNamed "strconv.ErrSyntax" = some 1 := by kernel_rfl
theorem gRng : Tryd.prog.globalNamed "strconv.ErrRange" = some 2 := by kernel_rfl
theorem Errs.below {w w' : World} (h : Errs w) (hb : Below w.heap.size w w') : Errs w' := by
  obtain ⟨⟨t, p, h1⟩, u, q, h2⟩ := h
  exact ⟨⟨t, p, Joins.var_stays gSyn h1 hb (Nat.le_refl _)⟩, u, q, Joins.var_stays gRng h2 hb (Nat.le_refl _)⟩
theorem rowErr (u : TypeId) (h : Tryd.prog.typeName? 3 u = some "*errors.errorString") : u = 95 :=
  typeName_ptr_named (nm := "errors.errorString") (by rw [show "*" ++ "errors.errorString" = "*errors.errorString" by decide]; kernel_rfl) (by kernel_rfl) (by decide) u (by rw [show "*" ++ "errors.errorString" = "*errors.errorString" by decide]; exact h)
theorem Errs.mk {W : World} {r : List (String × DataW Unit)} (h : laidMet Tryd.prog (("strconv.ErrRange", Rows.laid_strconv_ErrRange) :: ("strconv.ErrSyntax", Rows.laid_strconv_ErrSyntax) :: r) W) : Errs W := by
  obtain ⟨a0, s0, hv0, -, -, -⟩ := laid_sentinel h gRng (by kernel_rfl) Tryd.underlying49 rowErr Tryd.underlying95 Tryd.underlying97 rfl rfl Tryd.underlying9 (by kernel_rfl) (by kernel_rfl)
  obtain ⟨a1, s1, hv1, -, -, -⟩ := laid_sentinel h.tail gSyn (by kernel_rfl) Tryd.underlying49 rowErr Tryd.underlying95 Tryd.underlying97 rfl rfl Tryd.underlying9 (by kernel_rfl) (by kernel_rfl)
  exact ⟨⟨_, _, hv1⟩, _, _, hv0⟩
/-- How strconv.Atoi ends: a number, or an error that is not nil. -/
def AtoiNum (v : Int) (w : World) (e : Ending) (w' : World) : Prop := e = .returned (.tuple #[.int .i64 v, .nilIface]) ∧ Below w.heap.size w w'
def AtoiBad (w : World) (e : Ending) (w' : World) : Prop := ∃ (v : Int) (N t : Nat), e = .returned (.tuple #[.int .i64 v, .iface t (.pointer (some ⟨N, 0, none⟩))]) ∧ Below w.heap.size w w'
theorem atoi_num (l : List UInt8) (v : Int) (hs : l.length ≤ 1048576) (h : Lib.atoiAll l = .ok v) (w : World) : Calls Tryd.prog 31 #[.string ⟨l.toArray⟩] w (AtoiNum v w) := by
  have hsz : (ByteArray.mk l.toArray).size = l.length := by simp [ByteArray.size]
  refine (Tryd.strconv_Atoi_ok _ (by rw [hsz]; omega) v (by simpa using h) w).mono ?_
  rintro e w' ⟨rfl, rfl | ⟨t, rfl⟩⟩
  · exact ⟨rfl, Below.refl _ _⟩
  · exact ⟨rfl, Joins.below_bytesWorld _ _ _ _ (Nat.le_refl _)⟩
theorem atoi_bad (l : List UInt8) (hs : l.length ≤ 1048576) (h : ∀ v, Lib.atoiAll l ≠ .ok v) (w : World) (he : Errs w) : Calls Tryd.prog 31 #[.string ⟨l.toArray⟩] w (AtoiBad w) := by
  have hsz : (ByteArray.mk l.toArray).size = l.length := by simp [ByteArray.size]
  obtain ⟨⟨t, p, h1⟩, u, q, h2⟩ := he
  rcases e : Lib.atoiAll l with v | _ | _
  · exact absurd e (h v)
  · refine (Any.strconv_Atoi_syntax_var Tryd.laysC172 _ (by rw [hsz]; omega) (by simpa using e) t p w h1).mono ?_
    rintro e w' ⟨N, rfl, -, -, hb⟩
    exact ⟨0, N, _, rfl, hb⟩
  · refine (Any.strconv_Atoi_range_var Tryd.laysC172 _ (by rw [hsz]; omega) (by simpa using e) u q w h2).mono ?_
    rintro e w' ⟨N, rfl, -, -, hb⟩
    exact ⟨_, N, _, rfl, hb⟩
set_option maxHeartbeats 2000000 in
theorem parseUint_impl (l : List UInt8) (w : World) (hs : l.length ≤ 1048576) (ht : Tab w) (he : Errs w) :
    Calls Tryd.prog 19 #[.string ⟨l.toArray⟩] w fun e w' => e = .returned (retPu (puL l)) ∧ Below w.heap.size w w' := by
  by_cases hv : ∃ v, Lib.atoiAll l = .ok v
  · obtain ⟨v, hv⟩ := hv
    have hbd := Lib.atoiAll_bounds hv
    by_cases h0 : v < 0
    · have HF := Lib.hid (show puL l = none by
        cases e : puL l with
        | none => rfl
        | some u => have := puL_atoi e; rw [hv] at this; injection this with this; omega)
      have HV := Lib.hid hv; clear hv
      have z1 : decide (v < 0) = true := by simpa using h0
      go_enter Tryd.func19, Tryd.ntmps19
      go_wp2_with (go_at_call 31; refine (atoi_num l v hs HV.out _).mono ?_; rintro e w1 ⟨rfl, hb1⟩)
      go_ret2
      exact ⟨by rw [HF.out]; rfl, hb1⟩
    · obtain ⟨n, rfl⟩ : ∃ n : Nat, v = (n : Int) := ⟨v.toNat, by omega⟩
      have z1 : decide ((n : Int) < 0) = false := by simp
      by_cases h1 : 1000000000 < n
      · have HF := Lib.hid (show puL l = none by
          cases e : puL l with
          | none => rfl
          | some u => have := puL_atoi e; rw [hv] at this; injection this with this; have := (puL_of e).1; omega)
        have HV := Lib.hid hv; clear hv
        have z2 : decide ((1000000000 : Int) < (n : Int)) = true := by simp; omega
        go_enter Tryd.func19, Tryd.ntmps19
        go_wp2_with (go_at_call 31; refine (atoi_num l _ hs HV.out _).mono ?_; rintro e w1 ⟨rfl, hb1⟩)
        go_ret2
        exact ⟨by rw [HF.out]; rfl, hb1⟩
      · have z2 : decide ((1000000000 : Int) < (n : Int)) = false := by simp; omega
        have h1' : n ≤ 1000000000 := by omega
        by_cases q : Lib.decDigits n = l
        · have HF := Lib.hid (puL_some (by omega) q)
          have hq : (Lib.itoa (n : Int) == l) = true := by rw [Lib.itoa_nonneg]; simpa using q
          have HV := Lib.hid hv; clear hv q hbd
          go_enter Tryd.func19, Tryd.ntmps19
          go_wp2_with (first
            | (go_at_call 31; refine (atoi_num l _ hs HV.out _).mono ?_; rintro e w1 ⟨rfl, hb1⟩; have hT1 := ht.below hb1)
            | (go_at_call 21; refine (formatInt_impl (n : Int) _ (by omega) (by omega) hT1).mono ?_; rintro e w2 ⟨rfl, hb2⟩))
          go_ret2
          exact ⟨by rw [HF.out]; rfl, hb1.trans (hb2.mono hb1.size)⟩
        · have HF := Lib.hid (show puL l = none by
            cases e : puL l with
            | none => rfl
            | some u => have := puL_atoi e; rw [hv] at this; injection this with this; have h2 := (puL_of e).2; obtain rfl : n = u := by omega
                        exact absurd h2 q)
          have hq : (Lib.itoa (n : Int) == l) = false := by rw [Lib.itoa_nonneg]; simpa using q
          have HV := Lib.hid hv; clear hv q hbd
          go_enter Tryd.func19, Tryd.ntmps19
          go_wp2_with (first
            | (go_at_call 31; refine (atoi_num l _ hs HV.out _).mono ?_; rintro e w1 ⟨rfl, hb1⟩; have hT1 := ht.below hb1)
            | (go_at_call 21; refine (formatInt_impl (n : Int) _ (by omega) (by omega) hT1).mono ?_; rintro e w2 ⟨rfl, hb2⟩))
          go_ret2
          exact ⟨by rw [HF.out]; rfl, hb1.trans (hb2.mono hb1.size)⟩
  · have HF := Lib.hid (show puL l = none by
      cases e : puL l with
      | none => rfl
      | some u => exact absurd ⟨_, puL_atoi e⟩ hv)
    have HV := Lib.hid (fun v h => hv ⟨v, h⟩ : ∀ v, Lib.atoiAll l ≠ .ok v); clear hv
    go_enter Tryd.func19, Tryd.ntmps19
    go_wp2_with (go_at_call 31; refine (atoi_bad l hs HV.out _ he).mono ?_; rintro e w1 ⟨v, N, t, rfl, hb1⟩)
    go_ret2
    exact ⟨by rw [HF.out]; rfl, hb1⟩
end Go.Proofs.YtikaiimafliceaaDoor
