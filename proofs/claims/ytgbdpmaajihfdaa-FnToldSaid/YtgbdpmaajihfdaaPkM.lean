/-
  The laws' marks on a packet of the call's own, and their test; what MakePacket makes, in plain lists. Lists of at most 2^20 numbers.
-/
import Derived.Test.YtgbdpmaajihfdaaPk
import Derived.Test.YtgbdpmaajihfdaaPkN
import Derived.Test.YtgbdpmaajihfdaaKnt
import Derived.Test.YtgbdpmaajihfdaaTrC
import Derived.Test.YtgbdpmaajihfdaaCut
namespace Go.Proofs.Ytgbdpmaajihfdaa
open Go.RowKit
set_option linter.all false
/-- Whether a packet can be made. -/
def mpOk (X : Rowi) (me ack : Int) : Bool := trksB X && (inR me 0 ((X.length : Int) - 1) && inR ack 0 ((X.getD me.toNat []).length : Int))
def pk0 : Pk := ⟨0, 0, 0, [], [], 0, 0, 0, 0⟩
def mpX (X : Rowi) (me ack : Int) : Pk := if mpOk X me ack then ⟨me, 0, ack, ((X.getD me.toNat []).drop ack.toNat).take 40, lens X, 0, 0, 0, 0⟩ else pk0
theorem mp_t {X : Rowi} {me ack : Int} (h : trksB X = false) : mpOk X me ack = false := by unfold mpOk; rw [h]; rfl
theorem mp_m {X : Rowi} {me ack : Int} (h : inR me 0 ((X.length : Int) - 1) = false) : mpOk X me ack = false := by unfold mpOk; rw [h]; simp
theorem mp_a {X : Rowi} {m : Nat} {ack : Int} (hm : m < X.length) (h : inR ack 0 (X[m].length : Int) = false) : mpOk X (m : Int) ack = false := by
  unfold mpOk
  rw [Int.toNat_natCast, List.getD_eq_getElem?_getD, List.getElem?_eq_getElem hm, Option.getD_some, h]; simp
theorem mp_ok {X : Rowi} {m : Nat} {ack : Int} (h0 : trksB X = true) (h1 : inR (m : Int) 0 ((X.length : Int) - 1) = true) (hm : m < X.length) (h : inR ack 0 (X[m].length : Int) = true) : mpOk X (m : Int) ack = true := by
  unfold mpOk
  rw [Int.toNat_natCast, List.getD_eq_getElem?_getD, List.getElem?_eq_getElem hm, Option.getD_some, h, h0, h1]; rfl
theorem mpX_no {X : Rowi} {me ack : Int} (h : mpOk X me ack = false) : mpX X me ack = pk0 := by unfold mpX; rw [h]; rfl
theorem mpX_yes {X : Rowi} {m n : Nat} (hm : m < X.length) (h : mpOk X (m : Int) (n : Int) = true) : mpX X (m : Int) (n : Int) = ⟨(m : Int), 0, (n : Int), (X[m].drop n).take 40, lens X, 0, 0, 0, 0⟩ := by
  unfold mpX
  rw [h, Int.toNat_natCast, Int.toNat_natCast, List.getD_eq_getElem?_getD, List.getElem?_eq_getElem hm, Option.getD_some]; rfl
theorem mpX_few {X : Rowi} {me ack : Int} (hf : Few X) : (mpX X me ack).few := by
  unfold mpX
  split
  · refine ⟨?_, ?_⟩
    · show (List.take 40 _).length ≤ _
      rw [List.length_take]; omega
    · show (lens X).length ≤ _
      rw [lens_len]; exact hf.1
  · exact ⟨Nat.zero_le _, Nat.zero_le _⟩
/-- What MakePacket leaves. -/
def RetMp (w : World) (X : Rowi) (me ack : Int) (e : Ending) (w' : World) : Prop := ∃ vi va, e = .returned (.tuple #[.agg (pkC (mpX X me ack) vi va), .bool (mpOk X me ack)]) ∧ OwnPIn w' w.heap.size w'.heap.size (mpX X me ack) vi va ∧ Below w.heap.size w w'
/-- Cuts at a letter, at every world. -/
theorem cutW_from (a : Option Addr) (n cap k : Nat) (hk : k ≤ n) (hc : n ≤ cap) : ∃ a' c', (∀ W, (Instr.slice 27 (.slice a n cap) (some (.int .i64 (k : Int))) none none).run Try.prog W = .ok (.slice a' (n - k) c') W) ∧ n - k ≤ c' ∧ ∀ {W : World} {xs : List Int}, xs.length = n → RdI W (.slice a n cap) xs → RdI W (.slice a' (n - k) c') (xs.drop k) := by
  refine ⟨if cap = k then a else a.map (·.add (k * 1)), cap - k, fun W => ?_, by omega, fun hn h => ?_⟩
  · rw [run_slice_l (P := Try.prog) (w := W) 27 a n cap cut_type .i64 (k : Int) (by omega) (by omega), cut_size]
    simp only [Result.andThen, Int.toNat_natCast]; rfl
  · subst hn
    have := h.sliced hc k _ hk (Nat.le_refl _)
    rw [List.take_of_length_le (by rw [List.length_drop]; omega)] at this
    exact this
theorem cutW_to (a : Option Addr) (n cap k : Nat) (hk : k ≤ n) (hc : n ≤ cap) : ∃ a' c', (∀ W, (Instr.slice 27 (.slice a n cap) none (some (.int .i64 (k : Int))) none).run Try.prog W = .ok (.slice a' k c') W) ∧ k ≤ c' ∧ ∀ {W : World} {xs : List Int}, xs.length = n → RdI W (.slice a n cap) xs → RdI W (.slice a' k c') (xs.take k) := by
  refine ⟨if cap = 0 then a else a.map (·.add (0 * 1)), cap - 0, fun W => ?_, by omega, fun hn h => ?_⟩
  · rw [run_slice_h (P := Try.prog) (w := W) 27 a n cap cut_type .i64 (k : Int) (by omega) (by omega), cut_size]
    simp only [Result.andThen, Int.toNat_natCast]; rfl
  · subst hn
    have := h.sliced hc 0 k (Nat.zero_le _) hk
    rw [List.drop_zero, Nat.sub_zero] at this
    exact this
theorem cutW_mid (a : Option Addr) (n cap i j : Nat) (hij : i ≤ j) (hj : j ≤ n) (hc : n ≤ cap) : ∃ a' c', (∀ W, (Instr.slice 27 (.slice a n cap) (some (.int .i64 (i : Int))) (some (.int .i64 (j : Int))) none).run Try.prog W = .ok (.slice a' (j - i) c') W) ∧ j - i ≤ c' ∧ ∀ {W : World} {xs : List Int}, xs.length = n → RdI W (.slice a n cap) xs → RdI W (.slice a' (j - i) c') ((xs.drop i).take (j - i)) := by
  refine ⟨if cap = i then a else a.map (·.add (i * 1)), cap - i, fun W => ?_, by omega, fun hn h => ?_⟩
  · rw [run_slice_lh (P := Try.prog) (w := W) 27 a n cap cut_type .i64 .i64 (i : Int) (j : Int) (by omega) (by omega) (by omega), cut_size]
    simp only [Result.andThen, Int.toNat_natCast]; rfl
  · subst hn
    exact h.sliced hc i j hij hj
theorem row_cap {w : World} {v : Value} {X : Rowi} (h : RdR w v X) (hc : CapR w v X) {m : Nat} (hm : m < X.length) : ∃ b off cap ax cx, v = .slice (some ⟨b, off, none⟩) X.length cap ∧ w.cell? ⟨b, off + m, none⟩ = some (.slice ax X[m].length cx) ∧ X[m].length ≤ cx ∧ RdI w (.slice ax X[m].length cx) X[m] := by
  obtain ⟨a, cap, rfl, h0⟩ := h
  have hx : X ≠ [] := by intro e; rw [e] at hm; simp at hm
  obtain ⟨b, off, rfl, h1⟩ := h0.resolve_left hx
  obtain ⟨b', off', cap', e', h2⟩ := hc.resolve_left hx
  obtain ⟨e1, -, -⟩ := Value.slice.inj e'
  have e2 := Option.some.inj e1
  have e3 : b = b' := congrArg Addr.block e2
  have e4 : off = off' := congrArg Addr.off e2
  subst e3 e4
  obtain ⟨u, c1, r1⟩ := h1 m hm
  obtain ⟨u', c2, a', n', c', e5, hl⟩ := h2 m hm
  obtain rfl : u = u' := Option.some.inj (c1.symm.trans c2)
  obtain ⟨ax, cx, e6, -⟩ := id r1
  rw [e6] at e5
  obtain ⟨rfl, rfl, rfl⟩ := Value.slice.inj e5
  subst e6
  exact ⟨b, off, cap, ax, cx, rfl, c1, hl, r1⟩
theorem putP_farB (w : World) (c : Nat) (p : Pk) (vi va : Value) : FarB c (c + 1) w (putP w c p vi va) :=
  ⟨putP_below (Below.refl _ _) (Nat.le_refl _) p vi va, fun j hj _ => by
    unfold putP
    repeat (rw [Below.heap_setCell _ _ _ j (by show j ≠ c; omega)])⟩
theorem ownP_zero (w : World) (B : Nat) (hB : B ≤ w.heap.size) : OwnPIn w B w.heap.size pk0 (.slice none 0 0) (.slice none 0 0) :=
  ⟨B, B, B, B, ⟨Nat.le_refl _, Nat.le_refl _, hB⟩, ⟨Nat.le_refl _, Nat.le_refl _, hB⟩, .inl (Nat.le_refl _), ⟨none, 0, rfl, .inl rfl⟩, ⟨none, 0, rfl, .inl rfl⟩⟩
theorem take_forty (l : List Int) (q : Nat) (hq : (q : Int) = min (l.length : Int) 40) : l.take q = l.take 40 := by
  rw [List.take_eq_take_iff]; omega
end Go.Proofs.Ytgbdpmaajihfdaa
