/-
  Contracts of UnpackInts, and the law on it. Strings of at most 2^40 bytes.
-/
import Derived.Test.YtkjlljdidcnciaaText
import Derived.Test.YtkjlljdidcnciaaLst
namespace Go.Proofs.Ytkjlljdidcnciaa
open Go.RowKit
set_option linter.all false

/-- A row of ints of the call's own, that may grow. -/
def OwnR (w : World) (B : Nat) (v : Value) (xs : List Int) : Prop := w.ownsRow B 3 1 v xs.length (xs.map (Value.int .i64))
theorem OwnR.row {w : World} {B : Nat} {v : Value} {xs : List Int} (h : OwnR w B v xs) : w.ownsRow B 3 1 v xs.length (xs.map (Value.int .i64)) := h
theorem OwnR.keep {w w' : World} {B C : Nat} {v : Value} {xs : List Int} (h : OwnR w B v xs) (hb : Below C w w') (hC : w.heap.size ≤ C) : OwnR w' B v xs :=
  World.ownsRow.kept h (row := none) ⟨hb.os, hb.tape, hb.output, hb.size, fun k hk _ => hb.block k (by omega)⟩ (by cases v.ownBlock <;> simp)
theorem OwnR.made (w : World) (cur : Array Value) (B : Nat) (hB : B ≤ w.heap.size) (hm : cur.size ≤ maxLen) : OwnR (w.alloc (.cells cur 3)) B (.slice (some ⟨w.heap.size, 0, none⟩) 0 cur.size) [] :=
  World.ownsRow_made w cur cur.size hB hm (by simp)
theorem OwnR.own {w : World} {B : Nat} {v : Value} {xs : List Int} (h : OwnR w B v xs) : OwnI w B v xs := by
  obtain ⟨h1, h2⟩ := h
  rcases h2 with ⟨rfl, h0⟩ | ⟨g, cap, cur, rfl, hB, hg, hn, hc, hsz, htk⟩
  · have : xs = [] := List.eq_nil_of_length_eq_zero h0
    subst this
    exact ⟨none, 0, rfl, .inl rfl⟩
  · refine ⟨_, cap, rfl, .inr ⟨g, hB, rfl, fun j hj => ?_, fun j hj => ?_⟩⟩
    · rw [cell_of_row w g j cur _ (0, 0) hg]
      have hjc : (xs.map (Value.int .i64))[j]? = some (.int .i64 xs[j]) := by simp [hj]
      rw [← htk, List.getElem?_take] at hjc
      split at hjc
      · simpa using hjc
      · cases hjc
    · simp [World.frozen?, hg]
theorem int_one (n : Int) : ∀ u ∈ [Value.int .i64 n], u.oneCell' = true := by intro u hu; simp at hu; subst hu; rfl
theorem one_cell_int (W : World) (v : Value) (t : TypeId) : ∀ j u, [v][j]? = some u → (W.alloc (.cells #[v] t)).cell? ((⟨W.heap.size, 0, none⟩ : Addr).add j) = some u := by
  intro j u hj
  match j, hj with
  | 0, hj =>
    simp at hj; subst hj
    rw [show (⟨W.heap.size, 0, none⟩ : Addr).add 0 = ⟨W.heap.size, 0, none⟩ by simp [Addr.add]]
    exact World.cell?_alloc_mark W #[v] t (0, 0) 0
/-- 'append(v, n)' of one int, as the walk meets it. -/
theorem app_int {ops : Array Oper} {rest : List Oper} {o : Oper} {a : Act} {Q : Exit → Act → World → Prop} {W : World} (hgd : o.guard = none) (s x : Operand)
    (ho : o.op = .call { callee := .builtin .append, args := #[s, x], argTypes := #[28, 28] })
    (B : Nat) (v : Value) (xs : List Int) (hs : a.eval s = v) (hown : OwnR W B v xs) (n : Int) (hx : a.eval x = .slice (some ⟨W.heap.size, 0, none⟩) 1 1)
    (hlen : xs.length + 1 ≤ 17592186044416) (hbase : B ≤ W.heap.size)
    (h : ∀ v' w', OwnR w' B v' (xs ++ [n]) → Below B W w' → wpList Try.prog ops Q rest (a.put o.dst v') w') : wpList Try.prog ops Q (o :: rest) a (W.alloc (.cells #[.int .i64 n] 3)) := by
  obtain ⟨i0, hi, hz0, hz1, hz2⟩ := info_parts info_int
  have hown2 : (W.alloc (.cells #[.int .i64 n] 3)).ownsRow B 3 1 v xs.length (xs.map (Value.int .i64)) := World.ownsRow.alloc hown _
  refine wpList_append_own _ hgd s x 28 ho B 3 i0 (.int .i64 0) 1 8 Try.underlying28 hi hz0 hz1 hz2 rfl (by decide) v xs.length (xs.map (Value.int .i64)) hs hown2 ⟨W.heap.size, 0, none⟩ 1 1 [.int .i64 n] hx rfl (one_cell_int _ _ _) (int_one _) (by unfold maxLen; omega) (by omega) (by simp; omega) ?_
  intro v' w' hown' hgrow _
  refine h v' w' ?_ ?_
  · unfold OwnR; rw [List.length_append, List.map_append]; exact hown'
  · exact ((Below.refl B W).alloc hbase _).grown hgrow (by simp; omega) fun k hk => (hown2.lt k hk).1

/-- c numbers, from 'size' bytes behind q on. -/
def unpR (l : List UInt8) (q : Nat) : Nat → Nat → Option (List Int × Nat)
  | 0, size => some ([], size)
  | c + 1, size => match decAt l ((q + size : Nat) : Int) with
    | none => none
    | some (v, m) => (unpR l q c (size + m)).map fun r => (signedI v :: r.1, r.2)
def unpI (l : List UInt8) (p : Int) : Option (List Int × Nat) :=
  match decAt l p with
  | none => none
  | some (n, m) => unpR l p.toNat n m
theorem unpR_far {l : List UInt8} {q : Nat} : ∀ (c size : Nat) (x : List Int × Nat), unpR l q c size = some x → q + size ≤ l.length → q + size + c ≤ l.length
  | 0, size, x, _, hs => by omega
  | c + 1, size, x, h, hs => by
    rw [unpR] at h
    cases hd : decAt l ((q + size : Nat) : Int) with
    | none => rw [hd] at h; cases h
    | some y =>
      obtain ⟨v, m⟩ := y
      rw [hd] at h
      simp only [Option.map_eq_some_iff] at h
      obtain ⟨r, hr, _⟩ := h
      have := decAt_facts hd
      rw [Int.toNat_natCast] at this
      have := unpR_far c (size + m) r hr (by omega)
      omega
/-- k numbers read: what is left to read. -/
def UnpAt (l : List UInt8) (p : Int) (q n k size : Nat) (acc : List Int) : Prop :=
  (unpR l q (n - k) size).map (fun r => (acc ++ r.1, r.2)) = unpI l p ∧ acc.length = k ∧ k ≤ size ∧ q + size ≤ l.length
theorem UnpAt.stop {l : List UInt8} {p : Int} {q n k size : Nat} {acc : List Int} (h : UnpAt l p q n k size acc) (hk : k < n) (hd : decAt l ((q : Int) + size) = none) : unpI l p = none := by
  rw [← h.1, show n - k = (n - (k + 1)) + 1 by omega, unpR]
  rw [show ((q + size : Nat) : Int) = (q : Int) + size by omega, hd]; rfl
theorem UnpAt.next {l : List UInt8} {p : Int} {q n k size v m : Nat} {acc : List Int} (h : UnpAt l p q n k size acc) (hk : k < n) (hd : decAt l ((q : Int) + size) = some (v, m)) : UnpAt l p q n (k + 1) (size + m) (acc ++ [signedI v]) := by
  have hf := decAt_facts hd
  refine ⟨?_, by simp [h.2.1], by have := h.2.2.1; omega, by omega⟩
  rw [← h.1, show n - k = (n - (k + 1)) + 1 by omega, unpR]
  rw [show ((q + size : Nat) : Int) = (q : Int) + size by omega, hd]
  simp only [Option.map_map]
  congr 1
  funext r
  simp
theorem UnpAt.done {l : List UInt8} {p : Int} {q n k size : Nat} {acc : List Int} (h : UnpAt l p q n k size acc) (hk : n ≤ k) : unpI l p = some (acc, size) := by
  rw [← h.1, show n - k = 0 by omega, unpR]; simp
def RetUnI (w : World) (o : Option (List Int × Nat)) (e : Ending) (w' : World) : Prop :=
  ∃ v, e = .returned (.tuple #[v, .int .i64 ((o.getD ([], 0)).2 : Nat), .bool o.isSome]) ∧ OwnI w' w.heap.size v (o.getD ([], 0)).1 ∧ Below w.heap.size w w'
theorem RetUnI.none_ {w w' : World} {o : Option (List Int × Nat)} (h : o = none) {a : Option Addr} {cap : Nat} (hb : Below w.heap.size w w') : RetUnI w o (.returned (.tuple #[.slice a 0 cap, .int .i64 0, .bool false])) w' := by
  subst h; exact ⟨_, rfl, ⟨a, cap, rfl, .inl rfl⟩, hb⟩
set_option maxRecDepth 100000 in
set_option maxHeartbeats 1000000 in
theorem unpackInts_impl (l : List UInt8) (p : Int) (w : World) (hs : l.length ≤ 1099511627776) :
    Calls Try.prog 16 #[.string ⟨l.toArray⟩, .int .i64 p] w (RetUnI w (unpI l p)) := by
  have hs' : l.length ≤ 70368744177664 := by omega
  cases hd : decAt l p with
  | none =>
    have HF := Lib.hid (show unpI l p = none by unfold unpI; rw [hd])
    have HD := Lib.hid hd; clear hd
    go_enter Try.func16, Try.ntmps16
    go_wp2_with (go_at_call 14; refine (decodeVarint_impl _ _ _ hs').mono ?_; rintro e w1 ⟨rfl, rfl⟩; rw [HD.out, retDec_none])
    go_ret3
    exact RetUnI.none_ HF.out (Below.refl _ _)
  | some x =>
    obtain ⟨n, m⟩ := x
    obtain ⟨hp, hm1, hm6, hpm, hn⟩ := decAt_facts hd
    obtain ⟨q, rfl⟩ := Int.eq_ofNat_of_zero_le hp
    rw [Int.toNat_natCast] at hpm
    have HU := Lib.hid (show unpI l (q : Int) = unpR l q n m by unfold unpI; rw [hd]; simp only [Int.toNat_natCast])
    by_cases hfar : l.length < q + m + n
    · have HF := Lib.hid (show unpI l (q : Int) = none by
        rw [HU.out]
        cases hu : unpR l q n m with
        | none => rfl
        | some y => have := unpR_far n m y hu hpm; omega)
      have HD := Lib.hid hd; clear hd
      have b1 : decide ((l.length : Int) - q - m < n) = true := by simp; omega
      go_enter Try.func16, Try.ntmps16
      go_wp2_with (go_at_call 14; refine (decodeVarint_impl _ _ _ hs').mono ?_; rintro e w1 ⟨rfl, rfl⟩; rw [HD.out, retDec_some])
      go_ret3
      exact RetUnI.none_ HF.out (Below.refl _ _)
    · have HD := Lib.hid hd; clear hd
      have b1 : decide ((l.length : Int) - q - m < n) = false := by simp; omega
      obtain ⟨i0, hi, hz0, hz1, hz2⟩ := info_parts info_int
      have hmk : ∀ W, (Instr.makeSlice 28 (.int .i64 0) (.int .i64 (n : Int))).run Try.prog W = .ok (.slice (some ⟨W.heap.size, 0, none⟩) 0 n) (W.alloc (.cells (madeCells #[.int .i64 0] n) 3)) := fun W => by
        have := run_make (P := Try.prog) W 28 3 i0 (.int .i64 0) Try.underlying28 hi hz0 .i64 .i64 0 n (by omega) (by omega) (by rw [hz2]; omega) (by omega)
        rw [this, hz1, Nat.mul_one, Int.toNat_natCast]; rfl
      clear hi hz0 hz1 hz2
      have h0 : (0 : Int) ≤ n := by omega
      go_enter Try.func16, Try.ntmps16
      go_wp2_with (go_at_call 14; refine (decodeVarint_impl _ _ _ hs').mono ?_; rintro e w1 ⟨rfl, rfl⟩; rw [HD.out, retDec_some])
      go_loopw [8, 10, 36] (fun s v i wr => ∃ (k size : Nat) (acc : List Int), k ≤ n ∧ i = .int .i64 k ∧ s = .int .i64 size ∧ UnpAt l q q n k size acc ∧ OwnR wr w.heap.size v acc ∧ Below w.heap.size w wr) (fun _ _ i _ => n - (intOf i).toNat)
      case atStart =>
        refine ⟨0, m, [], Nat.zero_le _, rfl, rfl, ⟨by rw [HU.out, Nat.sub_zero]; simp, rfl, Nat.zero_le _, hpm⟩, ?_, (Below.refl _ _).alloc (Nat.le_refl _) _⟩
        have := OwnR.made w (madeCells #[.int .i64 0] n) w.heap.size (Nat.le_refl _) (by rw [size_madeCells]; unfold maxLen; omega)
        rwa [size_madeCells] at this
      case round =>
        obtain ⟨k, size, acc, hk, rfl, rfl, hu, hown, hbel⟩ := hrel
        have hu2 := hu.2.1
        have hu3 := hu.2.2.1
        have hu4 := hu.2.2.2
        have HA := Lib.hid hu2; clear hu2
        have hB := hbel.size
        by_cases hkn : k < n
        · cases hd2 : decAt l ((q : Int) + size) with
          | none =>
            have HF := Lib.hid (hu.stop hkn hd2)
            have HD2 := Lib.hid hd2; clear hd2 hu
            go_wp2_with (go_at_call 14; refine (decodeVarint_impl _ _ _ hs').mono ?_; rintro e w1 ⟨rfl, rfl⟩; rw [HD2.out, retDec_none])
            go_ret3
            exact RetUnI.none_ HF.out hbel
          | some y =>
            obtain ⟨v2, m2⟩ := y
            have hf2 := decAt_facts hd2
            have hm2 := hf2.2.2.1
            have HN := Lib.hid (hu.next hkn hd2)
            have HD2 := Lib.hid hd2; clear hd2 hu hf2
            go_wp2_with (first
              | (go_at_call 14; refine (decodeVarint_impl _ _ _ hs').mono ?_; rintro e w1 ⟨rfl, rfl⟩; rw [HD2.out, retDec_some])
              | (go_at_call 20; refine (signed_impl _ _).mono ?_; rintro e w1 ⟨rfl, rfl⟩)
              | (at_builtin; refine app_int rfl _ _ rfl w.heap.size _ acc rfl hown _ rfl (by rw [HA.out]; omega) hB ?_; intro v' w1 hown' hb'))
            go_roundw
            case rel => exact ⟨k + 1, size + m2, _, by omega, by go_num, by go_num, HN.out, hown', hbel.trans hb'⟩
            case measure => simp [intOf]; omega
        · have HF := Lib.hid (hu.done (by omega))
          clear hu
          go_wp2_with (fail)
          go_ret3
          exact ⟨_, by rw [HF.out]; rfl, by rw [HF.out]; exact hown.own, hbel⟩
end Go.Proofs.Ytkjlljdidcnciaa
