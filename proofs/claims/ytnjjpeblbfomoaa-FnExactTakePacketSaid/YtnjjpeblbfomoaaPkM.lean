/-
  The laws' marks on a packet of the call's own, and their test; what MakePacket makes, in plain lists. Lists of at most 2^20 numbers.
-/
import Derived.Test.YtnjjpeblbfomoaaPk
import Derived.Test.YtnjjpeblbfomoaaKnt
import Derived.Test.YtnjjpeblbfomoaaTrC
import Derived.Test.YtnjjpeblbfomoaaCut
namespace Go.Proofs.Ytnjjpeblbfomoaa
open Go.RowKit
set_option linter.all false
/-- The packet's two lists lie in two blocks from lo up to hi. -/
def OwnPIn (w : World) (lo hi : Nat) (p : Pk) (vi va : Value) : Prop := ∃ a1 b1 a2 b2, (lo ≤ a1 ∧ a1 ≤ b1 ∧ b1 ≤ hi) ∧ (lo ≤ a2 ∧ a2 ≤ b2 ∧ b2 ≤ hi) ∧ (b1 ≤ a2 ∨ b2 ≤ a1) ∧ OwnIn w a1 b1 vi p.ins ∧ OwnIn w a2 b2 va p.acks
theorem OwnPIn.rd {w : World} {lo hi : Nat} {p : Pk} {vi va : Value} (h : OwnPIn w lo hi p vi va) : RdP w p vi va := by
  obtain ⟨a1, b1, a2, b2, -, -, -, h1, h2⟩ := h
  exact ⟨h1.rd, h2.rd⟩
theorem OwnPIn.wide {w : World} {lo hi lo' hi' : Nat} {p : Pk} {vi va : Value} (h : OwnPIn w lo hi p vi va) (h1 : lo' ≤ lo) (h2 : hi ≤ hi') : OwnPIn w lo' hi' p vi va := by
  obtain ⟨a1, b1, a2, b2, c1, c2, d, e1, e2⟩ := h
  exact ⟨a1, b1, a2, b2, ⟨by omega, by omega, by omega⟩, ⟨by omega, by omega, by omega⟩, d, e1, e2⟩
theorem OwnPIn.keep {w w' : World} {lo hi : Nat} {p : Pk} {vi va : Value} (h : OwnPIn w lo hi p vi va) (hb : Below w.heap.size w w') : OwnPIn w' lo hi p vi va := by
  obtain ⟨a1, b1, a2, b2, c1, c2, d, e1, e2⟩ := h
  exact ⟨a1, b1, a2, b2, c1, c2, d, e1.keep hb, e2.keep hb⟩
theorem OwnPIn.afar {w w' : World} {lo hi l1 h1 : Nat} {p : Pk} {vi va : Value} (h : OwnPIn w l1 h1 p vi va) (hf : FarB lo hi w w') (hle : hi ≤ l1) : OwnPIn w' l1 h1 p vi va := by
  obtain ⟨a1, b1, a2, b2, c1, c2, d, e1, e2⟩ := h
  exact ⟨a1, b1, a2, b2, c1, c2, d, e1.apart2 hf (.inl (by omega)), e2.apart2 hf (.inl (by omega))⟩
def Pk.marksN (p : Pk) : Nat := p.ins.length + p.acks.length
def Pk.marked (p : Pk) (k : Nat) : Pk := { p with ins := marks (k : Int) p.ins.length, acks := marks ((k + p.ins.length : Nat) : Int) p.acks.length }
set_option maxHeartbeats 2000000 in
theorem markPacket_far {w : World} {lo hi : Nat} {p : Pk} {vi va : Value} (h : OwnPIn w lo hi p vi va) (hw : hi ≤ w.heap.size) (hn : p.few) (k0 : Nat) (h0 : 0 < k0) (h1 : k0 ≤ 1048576) :
    Calls Try.prog 26 #[.agg (pkC p vi va), .int .i64 (k0 : Int)] w fun e w' => e = .returned (.int .i64 ((k0 + p.marksN : Nat) : Int)) ∧ OwnPIn w' lo hi (p.marked k0) vi va ∧ FarB lo hi w w' := by
  obtain ⟨hn1, hn2⟩ := hn
  have hrd := h.rd
  obtain ⟨p1, q1, p2, q2, ⟨y1, v1, y2⟩, ⟨y3, v2, y4⟩, z1, a3, a4⟩ := h
  obtain ⟨ai, ci, rfl, -⟩ := id hrd.1
  obtain ⟨aa, ca, rfl, -⟩ := id hrd.2
  unfold pkC
  obtain ⟨W0, hW, hA, hB0, hS0⟩ := rows1 w #[.int .i64 p.fr, .int .i64 p.tick, .int .i64 p.first, .slice ai p.ins.length ci, .slice aa p.acks.length ca, .int .i64 p.sumTick, .int .i64 p.sum, .int .i64 p.time, .int .i64 p.echo] 39
  have cA := rowCells hA
  have r3 := a3.keep hB0
  have r4 := a4.keep hB0
  have hs0 := hB0.size
  have hm := markIntS_far r3 hn1 (k0 : Int) (by omega) (by omega)
  have hAlt : w.heap.size < W0.heap.size := blockLt hA
  clear hrd
  go_enter Try.func26, Try.ntmps26
  go_wp2_with (fail)
  try rw [hW]
  clear hW
  refine hm.mono ?_
  rintro e w1 ⟨rfl, o1, F1⟩
  have hs1 := F1.1.size
  have hA1 := keepHeapFar F1 hA (by omega)
  have cA1 := rowCells hA1
  have r41 := r4.apart2 F1 z1
  obtain ⟨K1, hK1⟩ : ∃ K1 : Nat, (K1 : Int) = (k0 : Int) + (p.ins.length : Int) := ⟨k0 + p.ins.length, by omega⟩
  rw [← hK1]
  have HK1 := Lib.hid hK1
  have hm2 := markIntS_far r41 hn2 (K1 : Int) (by omega) (by omega)
  clear cA hK1 hm
  go_wp2_with (fail)
  refine hm2.mono ?_
  rintro e w2 ⟨rfl, o2, F2⟩
  have o12 := o1.apart2 F2 (Or.comm.1 z1)
  have e1 : ((k0 + p.ins.length : Nat) : Int) = (K1 : Int) := by rw [HK1.out]; omega
  have e2 : (K1 : Int) + (p.acks.length : Int) = ((k0 + p.marksN : Nat) : Int) := by have := HK1.out; unfold Pk.marksN; omega
  have E2 := Lib.hid e2
  clear e2
  go_wp2_with (fail)
  go_ret
  refine ⟨ret_int E2.out, ⟨p1, q1, p2, q2, ⟨y1, v1, y2⟩, ⟨y3, v2, y4⟩, z1, o12, by rw [Pk.marked, e1]; exact o2⟩, ?_⟩
  exact (FarB.of_below hB0 (by omega)).trans ((F1.wide y1 y2).trans (F2.wide y3 y4))
set_option maxHeartbeats 2000000 in
theorem heldPacket_any {w : World} (p : Pk) {vi va : Value} (k0 : Nat) (h : RdP w (p.marked k0) vi va) (hn : p.few) (h0 : 0 < k0) (h1 : k0 ≤ 1048576) :
    Calls Try.prog 27 #[.agg (pkC p vi va), .int .i64 (k0 : Int)] w fun e w' => e = .returned (.int .i64 ((k0 + p.marksN : Nat) : Int)) ∧ Below w.heap.size w w' := by
  obtain ⟨hn1, hn2⟩ := hn
  obtain ⟨g1, g2⟩ := h
  have g1 : RdI w vi (marks (k0 : Int) p.ins.length) := g1
  have g2 : RdI w va (marks ((k0 + p.ins.length : Nat) : Int) p.acks.length) := g2
  obtain ⟨K1, hK1⟩ : ∃ K1, K1 = k0 + p.ins.length := ⟨_, rfl⟩
  rw [← hK1] at g2
  have HE : Hid ((K1 : Int) + (p.acks.length : Int) = ((k0 + p.marksN : Nat) : Int)) := Lib.hid (by unfold Pk.marksN; omega)
  have H1 : Hid ((k0 : Int) + (p.ins.length : Int) = (K1 : Int)) := Lib.hid (by omega)
  have z1 : decide ((K1 : Int) < 0) = false := by simp
  have z2 : decide ((K1 : Int) + (p.acks.length : Int) < 0) = false := by simp; omega
  obtain ⟨n1, hn1'⟩ : ∃ n, n = (marks (k0 : Int) p.ins.length).length := ⟨_, rfl⟩
  obtain ⟨n2, hn2'⟩ : ∃ n, n = (marks (K1 : Int) p.acks.length).length := ⟨_, rfl⟩
  have hK1b : K1 ≤ 2097152 := by omega
  have q1 := fun {W : World} (hb : Below w.heap.size w W) => heldIntS_any p.ins.length (k0 : Int) (g1.keep hb) (by omega) (by omega) (by omega)
  have q2 := fun {W : World} (hb : Below w.heap.size w W) => heldIntS_any p.acks.length (K1 : Int) (g2.keep hb) (by omega) (by omega) (by omega)
  rw [H1.out] at q1
  obtain ⟨ai, ci, rfl, -⟩ := id g1
  obtain ⟨aa, ca, rfl, -⟩ := id g2
  rw [← hn1'] at q1 ⊢
  rw [← hn2'] at q2 ⊢
  unfold pkC
  obtain ⟨W0, hW, hA, hB0, hS0⟩ := rows1 w #[.int .i64 p.fr, .int .i64 p.tick, .int .i64 p.first, .slice ai n1 ci, .slice aa n2 ca, .int .i64 p.sumTick, .int .i64 p.sum, .int .i64 p.time, .int .i64 p.echo] 39
  have cA := rowCells hA
  clear hK1 hn1' hn2' g1 g2 H1
  go_enter Try.func27, Try.ntmps27
  go_wp2_with (fail)
  try rw [hW]
  clear hW
  refine (q1 hB0).mono ?_
  rintro e w1 ⟨rfl, rfl⟩
  go_wp2_with (fail)
  refine (q2 hB0).mono ?_
  rintro e w2 ⟨rfl, rfl⟩
  go_wp2_with (fail)
  go_ret
  exact ⟨ret_int HE.out, hB0⟩
/-- Whether a packet can be made. -/
def mpOk (X : Rowi) (me ack : Int) : Bool := trksB X && (inR me 0 ((X.length : Int) - 1) && inR ack 0 ((X.getD me.toNat []).length : Int))
def pk0 : Pk := ⟨0, 0, 0, [], [], 0, 0, 0, 0⟩
def mpX (X : Rowi) (me ack : Int) : Pk := if mpOk X me ack then ⟨me, 0, ack, ((X.getD me.toNat []).drop ack.toNat).take 40, lens X, 0, 0, 0, 0⟩ else pk0
theorem mp_t {X : Rowi} {me ack : Int} (h : trksB X = false) : mpOk X me ack = false := by unfold mpOk; rw [h]; rfl
theorem mp_m {X : Rowi} {me ack : Int} (h : inR me 0 ((X.length : Int) - 1) = false) : mpOk X me ack = false := by unfold mpOk; rw [h]; simp
theorem mp_a {X : Rowi} {m : Nat} {ack : Int} (hm : m < X.length) (h : inR ack 0 (X[m].length : Int) = false) : mpOk X (m : Int) ack = false := by
  unfold mpOk
  rw [Int.toNat_natCast, List.getD_eq_getElem?_getD, List.getElem?_eq_getElem hm, Option.getD_some, h]; simp
theorem mp_ok {X : Rowi} {m : Nat} {ack : Int} (h0 : trksB X = true) (h1 : inR (m : Int) 0 ((X.length : Int) - 1) = true) (hm : m < X.length) (h : inR ack 0 (X[m].length : Int) = true) : mpOk X (m : Int) ack = true := by
  unfold mpOk
  rw [Int.toNat_natCast, List.getD_eq_getElem?_getD, List.getElem?_eq_getElem hm, Option.getD_some, h, h0, h1]; rfl
theorem mpX_no {X : Rowi} {me ack : Int} (h : mpOk X me ack = false) : mpX X me ack = pk0 := by unfold mpX; rw [h]; rfl
theorem mpX_yes {X : Rowi} {m n : Nat} (hm : m < X.length) (h : mpOk X (m : Int) (n : Int) = true) : mpX X (m : Int) (n : Int) = ⟨(m : Int), 0, (n : Int), (X[m].drop n).take 40, lens X, 0, 0, 0, 0⟩ := by
  unfold mpX
  rw [h, Int.toNat_natCast, Int.toNat_natCast, List.getD_eq_getElem?_getD, List.getElem?_eq_getElem hm, Option.getD_some]; rfl
theorem mpX_few {X : Rowi} {me ack : Int} (hf : Few X) : (mpX X me ack).few := by
  unfold mpX
  split
  · refine ⟨?_, ?_⟩
    · show (List.take 40 _).length ≤ _
      rw [List.length_take]; omega
    · show (lens X).length ≤ _
      rw [lens_len]; exact hf.1
  · exact ⟨Nat.zero_le _, Nat.zero_le _⟩
/-- What MakePacket leaves. -/
def RetMp (w : World) (X : Rowi) (me ack : Int) (e : Ending) (w' : World) : Prop := ∃ vi va, e = .returned (.tuple #[.agg (pkC (mpX X me ack) vi va), .bool (mpOk X me ack)]) ∧ OwnPIn w' w.heap.size w'.heap.size (mpX X me ack) vi va ∧ Below w.heap.size w w'
/-- Cuts at a letter, at every world. -/
theorem cutW_from (a : Option Addr) (n cap k : Nat) (hk : k ≤ n) (hc : n ≤ cap) : ∃ a' c', (∀ W, (Instr.slice 22 (.slice a n cap) (some (.int .i64 (k : Int))) none none).run Try.prog W = .ok (.slice a' (n - k) c') W) ∧ n - k ≤ c' ∧ ∀ {W : World} {xs : List Int}, xs.length = n → RdI W (.slice a n cap) xs → RdI W (.slice a' (n - k) c') (xs.drop k) := by
  refine ⟨if cap = k then a else a.map (·.add (k * 1)), cap - k, fun W => ?_, by omega, fun hn h => ?_⟩
  · rw [run_slice_l (P := Try.prog) (w := W) 22 a n cap cut_type .i64 (k : Int) (by omega) (by omega), cut_size]
    simp only [Result.andThen, Int.toNat_natCast]; rfl
  · subst hn
    have := h.sliced hc k _ hk (Nat.le_refl _)
    rw [List.take_of_length_le (by rw [List.length_drop]; omega)] at this
    exact this
theorem cutW_to (a : Option Addr) (n cap k : Nat) (hk : k ≤ n) (hc : n ≤ cap) : ∃ a' c', (∀ W, (Instr.slice 22 (.slice a n cap) none (some (.int .i64 (k : Int))) none).run Try.prog W = .ok (.slice a' k c') W) ∧ k ≤ c' ∧ ∀ {W : World} {xs : List Int}, xs.length = n → RdI W (.slice a n cap) xs → RdI W (.slice a' k c') (xs.take k) := by
  refine ⟨if cap = 0 then a else a.map (·.add (0 * 1)), cap - 0, fun W => ?_, by omega, fun hn h => ?_⟩
  · rw [run_slice_h (P := Try.prog) (w := W) 22 a n cap cut_type .i64 (k : Int) (by omega) (by omega), cut_size]
    simp only [Result.andThen, Int.toNat_natCast]; rfl
  · subst hn
    have := h.sliced hc 0 k (Nat.zero_le _) hk
    rw [List.drop_zero, Nat.sub_zero] at this
    exact this
theorem cutW_mid (a : Option Addr) (n cap i j : Nat) (hij : i ≤ j) (hj : j ≤ n) (hc : n ≤ cap) : ∃ a' c', (∀ W, (Instr.slice 22 (.slice a n cap) (some (.int .i64 (i : Int))) (some (.int .i64 (j : Int))) none).run Try.prog W = .ok (.slice a' (j - i) c') W) ∧ j - i ≤ c' ∧ ∀ {W : World} {xs : List Int}, xs.length = n → RdI W (.slice a n cap) xs → RdI W (.slice a' (j - i) c') ((xs.drop i).take (j - i)) := by
  refine ⟨if cap = i then a else a.map (·.add (i * 1)), cap - i, fun W => ?_, by omega, fun hn h => ?_⟩
  · rw [run_slice_lh (P := Try.prog) (w := W) 22 a n cap cut_type .i64 .i64 (i : Int) (j : Int) (by omega) (by omega) (by omega), cut_size]
    simp only [Result.andThen, Int.toNat_natCast]; rfl
  · subst hn
    exact h.sliced hc i j hij hj
theorem row_cap {w : World} {v : Value} {X : Rowi} (h : RdR w v X) (hc : CapR w v X) {m : Nat} (hm : m < X.length) : ∃ b off cap ax cx, v = .slice (some ⟨b, off, none⟩) X.length cap ∧ w.cell? ⟨b, off + m, none⟩ = some (.slice ax X[m].length cx) ∧ X[m].length ≤ cx ∧ RdI w (.slice ax X[m].length cx) X[m] := by
  obtain ⟨a, cap, rfl, h0⟩ := h
  have hx : X ≠ [] := by intro e; rw [e] at hm; simp at hm
  obtain ⟨b, off, rfl, h1⟩ := h0.resolve_left hx
  obtain ⟨b', off', cap', e', h2⟩ := hc.resolve_left hx
  obtain ⟨e1, -, -⟩ := Value.slice.inj e'
  have e2 := Option.some.inj e1
  have e3 : b = b' := congrArg Addr.block e2
  have e4 : off = off' := congrArg Addr.off e2
  subst e3 e4
  obtain ⟨u, c1, r1⟩ := h1 m hm
  obtain ⟨u', c2, a', n', c', e5, hl⟩ := h2 m hm
  obtain rfl : u = u' := Option.some.inj (c1.symm.trans c2)
  obtain ⟨ax, cx, e6, -⟩ := id r1
  rw [e6] at e5
  obtain ⟨rfl, rfl, rfl⟩ := Value.slice.inj e5
  subst e6
  exact ⟨b, off, cap, ax, cx, rfl, c1, hl, r1⟩
theorem putP_farB (w : World) (c : Nat) (p : Pk) (vi va : Value) : FarB c (c + 1) w (putP w c p vi va) :=
  ⟨putP_below (Below.refl _ _) (Nat.le_refl _) p vi va, fun j hj _ => by
    unfold putP
    repeat (rw [Below.heap_setCell _ _ _ j (by show j ≠ c; omega)])⟩
theorem ownP_zero (w : World) (B : Nat) (hB : B ≤ w.heap.size) : OwnPIn w B w.heap.size pk0 (.slice none 0 0) (.slice none 0 0) :=
  ⟨B, B, B, B, ⟨Nat.le_refl _, Nat.le_refl _, hB⟩, ⟨Nat.le_refl _, Nat.le_refl _, hB⟩, .inl (Nat.le_refl _), ⟨none, 0, rfl, .inl rfl⟩, ⟨none, 0, rfl, .inl rfl⟩⟩
theorem take_forty (l : List Int) (q : Nat) (hq : (q : Int) = min (l.length : Int) 40) : l.take q = l.take 40 := by
  rw [List.take_eq_take_iff]; omega
end Go.Proofs.Ytnjjpeblbfomoaa
