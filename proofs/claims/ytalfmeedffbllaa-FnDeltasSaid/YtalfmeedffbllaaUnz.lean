/-
  Plain mathematics of the reading of runs of zeros, and rows of bytes to which many bytes are appended.
-/
import Derived.Test.YtalfmeedffbllaaZeros
import Derived.Test.YtalfmeedffbllaaOwn
namespace Go.Proofs.Ytalfmeedffbllaa
open Go.RowKit
set_option linter.all false

theorem unpT_facts {l : List UInt8} {p : Int} {t : List UInt8} {k : Nat} (h : unpT l p = some (t, k)) : 0 ≤ p ∧ 1 ≤ k ∧ p.toNat + k ≤ l.length ∧ t.length ≤ l.length := by
  cases hd : decAt l p with
  | none => rw [unpT_no hd] at h; cases h
  | some x =>
    obtain ⟨n, m⟩ := x
    obtain ⟨hp, hm1, hm6, hpm, hn⟩ := decAt_facts hd
    by_cases hf : l.length < p.toNat + m + n
    · rw [unpT_far hd hf] at h; cases h
    · rw [unpT_yes hd hf] at h
      simp only [Option.some.injEq, Prod.mk.injEq] at h
      obtain ⟨rfl, rfl⟩ := h
      refine ⟨hp, by omega, by omega, ?_⟩
      rw [List.length_take, List.length_drop]; omega
/-- One pair of runs: how many zeros, the others, and where they end. -/
def stepZ (l : List UInt8) (a o : Nat) : Option (Nat × List UInt8 × Nat) :=
  match decAt l (a : Int) with
  | none => none
  | some (n, m) => match unpT l ((a : Int) + (m : Int)) with
    | none => none
    | some (t, k) => if 20000 < o + n + t.length then none else some (n, t, a + m + k)
theorem stepZ_no1 {l : List UInt8} {a o : Nat} (h : decAt l (a : Int) = none) : stepZ l a o = none := by unfold stepZ; rw [h]
theorem stepZ_no2 {l : List UInt8} {a o n m : Nat} (h : decAt l (a : Int) = some (n, m)) (h2 : unpT l ((a : Int) + (m : Int)) = none) : stepZ l a o = none := by unfold stepZ; rw [h]; simp only; rw [h2]
theorem stepZ_no3 {l : List UInt8} {a o n m k : Nat} {t : List UInt8} (h : decAt l (a : Int) = some (n, m)) (h2 : unpT l ((a : Int) + (m : Int)) = some (t, k)) (h3 : 20000 < o + n + t.length) : stepZ l a o = none := by
  unfold stepZ; rw [h]; simp only; rw [h2]; simp only; rw [if_pos h3]
theorem stepZ_yes {l : List UInt8} {a o n m k : Nat} {t : List UInt8} (h : decAt l (a : Int) = some (n, m)) (h2 : unpT l ((a : Int) + (m : Int)) = some (t, k)) (h3 : ¬ 20000 < o + n + t.length) : stepZ l a o = some (n, t, a + m + k) := by
  unfold stepZ; rw [h]; simp only; rw [h2]; simp only; rw [if_neg h3]
def unz (l : List UInt8) (a : Nat) (out : List UInt8) : Option (List UInt8) :=
  if a < l.length then
    match stepZ l a out.length with
    | none => none
    | some (n, t, b) => unz l (max (a + 1) b) (out ++ List.replicate n 0 ++ t)
  else some out
termination_by l.length - a
theorem unz_no {l out : List UInt8} {a : Nat} (ha : a < l.length) (h : stepZ l a out.length = none) : unz l a out = none := by rw [unz, if_pos ha, h]
theorem unz_yes {l out t : List UInt8} {a n m k : Nat} (ha : a < l.length) (h : stepZ l a out.length = some (n, t, a + m + k)) (hk : 1 ≤ m + k) : unz l a out = unz l (a + m + k) (out ++ List.replicate n 0 ++ t) := by
  rw [unz, if_pos ha, h]; simp only; rw [show max (a + 1) (a + m + k) = a + m + k by omega]
theorem unz_end {l out : List UInt8} {a : Nat} (ha : ¬ a < l.length) : unz l a out = some out := by rw [unz, if_neg ha]
/-- What UnpackZeros returns. -/
def unpZ (l : List UInt8) : Option (List UInt8) := match unz l 0 [] with | none => none | some out => if packZ out = l then some out else none
def retUnZ (o : Option (List UInt8)) : Value := .tuple #[.string ⟨(o.getD []).toArray⟩, .bool o.isSome]
theorem unpZ_none {l : List UInt8} (h : unz l 0 [] = none) : unpZ l = none := by unfold unpZ; rw [h]
theorem unpZ_bad {l out : List UInt8} (h : unz l 0 [] = some out) (h2 : packZ out ≠ l) : unpZ l = none := by unfold unpZ; rw [h]; simp only; rw [if_neg h2]
theorem unpZ_good {l out : List UInt8} (h : unz l 0 [] = some out) (h2 : packZ out = l) : unpZ l = some out := by unfold unpZ; rw [h]; simp only; rw [if_pos h2]
theorem OwnB.shape {w : World} {B : Nat} {v : Value} {l : List UInt8} (h : OwnB w B v l) : ∃ ao cap, v = .slice ao l.length cap := by
  rcases h.2 with ⟨rfl, h0⟩ | ⟨g, cap, cur, rfl, _⟩
  · exact ⟨none, 0, by rw [h0]⟩
  · exact ⟨_, _, rfl⟩
theorem bytesV_zeros (n : Nat) : bytesV (List.replicate n 0) = List.replicate n (.int .u8 0) := by
  unfold bytesV; rw [List.map_replicate]; rfl
theorem bytesV_append (l m : List UInt8) : bytesV (l ++ m) = bytesV l ++ bytesV m := by simp [bytesV]
theorem strCells_bytes (l : List UInt8) : Lib.strCells ⟨l.toArray⟩ = bytesV l := by
  simp [Lib.strCells, bytesV, byteV]
theorem run_make_bytes (W : World) (n : Nat) (hn : n ≤ 1099511627776) : (Instr.makeSlice 22 (.int .i64 (n : Int)) (.int .i64 (n : Int))).run Try.prog W = .ok (.slice (some ⟨W.heap.size, 0, none⟩) n n) (W.alloc (.cells (madeCells #[.int .u8 0] n) 5)) := by
  obtain ⟨i0, hi, hz0, hz1, hz2⟩ := info_parts info_u8
  have := run_make (P := Try.prog) W 22 5 i0 (.int .u8 0) Try.underlying22 hi hz0 .i64 .i64 n n (by omega) (Int.le_refl _) (by rw [hz2]; omega) (by omega)
  rw [this, hz1, Nat.mul_one, Int.toNat_natCast]; rfl
theorem zeros_cells (n : Nat) : (Lib.strCells ⟨(List.replicate n (0 : UInt8)).toArray⟩).toArray = Builtin.zeroCells (Value.int .u8 0).cells n := by
  have e : Lib.strCells ⟨(List.replicate n (0 : UInt8)).toArray⟩ = List.replicate n (.int .u8 0) := by
    simp [Lib.strCells]
  rw [e]
  have hc : (Value.int .u8 0).cells = #[.int .u8 0] := rfl
  rw [hc]
  apply Array.ext
  · simp [Builtin.zeroCells]
  · intro i h1 h2
    simp [Builtin.zeroCells, Nat.mod_one]
/-- Appending n zeros is appending a string of n zeros. -/
theorem append_zeros_run (w : World) (ty : TypeId) (base : Option Addr) (sLen sCap n : Nat) (hs : sLen + n ≤ 140737488355328) (hcap : sLen ≤ sCap) :
    (Builtin.append_ #[22, 3] ty #[.slice base sLen sCap, .int .i64 (n : Int)]).run Try.prog w =
      (Builtin.append_ #[22, 9] ty #[.slice base sLen sCap, .string ⟨(List.replicate n (0 : UInt8)).toArray⟩]).run Try.prog w := by
  obtain ⟨i0, hi, hz0, hz1, hz2⟩ := info_parts info_u8
  have hsz : (ByteArray.mk (List.replicate n (0 : UInt8)).toArray).size = n := by simp [ByteArray.size]
  have hf : ∀ W, (Builtin.firstCells 1 n (.string ⟨(List.replicate n (0 : UInt8)).toArray⟩)).run Try.prog W = .ok (Builtin.zeroCells (Value.int .u8 0).cells n) W := fun W => by
    have := Lib.run_firstCells_string (P := Try.prog) W 1 ⟨(List.replicate n (0 : UInt8)).toArray⟩
    rw [hsz, zeros_cells] at this
    exact this
  have h0 : Builtin.zeroCells (Value.int .u8 0).cells 0 = #[] := by simp [Builtin.zeroCells]
  have hw : IntKind.i64.wrap (n : Int) = (n : Int) := by rw [IntKind.wrap_i64]; omega
  have hneg : ¬ ((n : Int) < 0) := by omega
  have h48 : ¬ ((281474976710656 : Int) < (n : Int)) := by omega
  have h63 : ¬ ((9223372036854775807 : Int) < (sLen : Int) + (n : Int)) := by omega
  generalize (ByteArray.mk (List.replicate n (0 : UInt8)).toArray) = s at hsz hf ⊢
  by_cases hr : sLen + n ≤ sCap
  · by_cases hn : n = 0
    · subst hn
      have hw0 : IntKind.i64.wrap 0 = 0 := by rw [IntKind.wrap_i64]; omega
      rw [h0] at hf
      simp [Builtin.append_, run_underlying Try.underlying22, run_underlying Try.underlying9, run_underlying Try.underlying3, sizeOf, typeInfo, zeroValue, asInt, asIntOf, hi, hz0, hz1, hz2, Builtin.lenOf, hsz, hw0, hcap, hf]
    · simp [Builtin.append_, run_underlying Try.underlying22, run_underlying Try.underlying9, run_underlying Try.underlying3, sizeOf, typeInfo, zeroValue, asInt, asIntOf, hi, hz0, hz1, hz2, Builtin.lenOf, hsz, hw, hneg, h48, hr, hf, hn]
  · have hn : ¬ n = 0 := by omega
    have hg : ¬ (281474976710656 < Builtin.nextslicecap (sLen + n) sCap) := by
      have := growslice_fits (need := sLen + n) (old := sCap) (bytes := 1) (by omega) (by omega)
      omega
    simp [Builtin.append_, run_underlying Try.underlying22, run_underlying Try.underlying9, run_underlying Try.underlying3, sizeOf, typeInfo, zeroValue, asInt, asIntOf, hi, hz0, hz1, hz2, Builtin.lenOf, hsz, hw, hneg, h48, h63, hr, hf, hn, hg]
theorem OwnB.room {w : World} {B : Nat} {v : Value} {l : List UInt8} (h : OwnB w B v l) : ∃ ao cap, v = .slice ao l.length cap ∧ l.length ≤ cap := by
  rcases h.2 with ⟨rfl, h0⟩ | ⟨g, cap, cur, rfl, _, _, hn, _⟩
  · exact ⟨none, 0, by rw [h0], by omega⟩
  · exact ⟨_, _, rfl, hn⟩
/-- 'append(v, make([]byte, n)...)', as the walk meets it. -/
theorem app_zeros {ops : Array Oper} {rest : List Oper} {o : Oper} {a : Act} {Q : Exit → Act → World → Prop} {W : World} (hgd : o.guard = none) (s x : Operand)
    (ho : o.op = .call { callee := .builtin .append, args := #[s, x], argTypes := #[22, 3] })
    (B : Nat) (v : Value) (l : List UInt8) (hs : a.eval s = v) (hown : OwnB W B v l) (n : Nat) (hx : a.eval x = .int .i64 (n : Int))
    (hlen : l.length + n ≤ 140737488355328) (hbase : B ≤ W.heap.size)
    (h : ∀ v' w', OwnB w' B v' (l ++ List.replicate n 0) → Below B W w' → wpList Try.prog ops Q rest (a.put o.dst v') w') : wpList Try.prog ops Q (o :: rest) a W := by
  obtain ⟨i0, hi, hz0, hz1, hz2⟩ := info_parts info_u8
  have hsz : (ByteArray.mk (List.replicate n (0 : UInt8)).toArray).size = n := by simp [ByteArray.size]
  obtain ⟨ao, cap, hv, hcap⟩ := hown.room
  refine wpList_plain hgd fun K hK => ?_
  obtain ⟨v', w', hr, h2, h3, h4⟩ := Lib.run_append_own_string (P := Try.prog) W B 22 9 o.type 5 i0 Try.underlying22 Try.underlying9 hi hz0 hz1 hz2 v l.length (bytesV l) hown.row ⟨(List.replicate n (0 : UInt8)).toArray⟩ (by rw [hsz]; unfold maxLen; omega) (by rw [hsz]; omega) hbase
  rw [hv, ← append_zeros_run W o.type ao l.length cap n hlen hcap, ← hv] at hr
  unfold Oper.wp execOp
  simp only [ho, resolve, invoke, builtin, Sem.run_bind, Sem.run_pure, Result.andThen_ok, List.map_toArray, List.map_cons, List.map_nil, hs, hx, hr]
  refine hK _ _ (h v' w' ?_ ?_)
  · unfold OwnB
    rw [bytesV_append, List.length_append, List.length_replicate, ← strCells_bytes (List.replicate n 0)]
    rw [hsz] at h2
    exact h2
  · exact (Below.refl B W).grown h3 hbase fun k hk => (hown.row.lt k hk).1
/-- 'append(v, s...)' of a string. -/
theorem app_string {ops : Array Oper} {rest : List Oper} {o : Oper} {a : Act} {Q : Exit → Act → World → Prop} {W : World} (hgd : o.guard = none) (s x : Operand)
    (ho : o.op = .call { callee := .builtin .append, args := #[s, x], argTypes := #[22, 9] })
    (B : Nat) (v : Value) (l : List UInt8) (hs : a.eval s = v) (hown : OwnB W B v l) (t : List UInt8) (hx : a.eval x = .string ⟨t.toArray⟩)
    (hlen : l.length + t.length ≤ 140737488355328) (hbase : B ≤ W.heap.size)
    (h : ∀ v' w', OwnB w' B v' (l ++ t) → Below B W w' → wpList Try.prog ops Q rest (a.put o.dst v') w') : wpList Try.prog ops Q (o :: rest) a W := by
  obtain ⟨i0, hi, hz0, hz1, hz2⟩ := info_parts info_u8
  have hsz : (ByteArray.mk t.toArray).size = t.length := by simp [ByteArray.size]
  refine Lib.wpList_append_own_string _ hgd s x 22 9 ho B 5 i0 Try.underlying22 Try.underlying9 hi hz0 hz1 hz2 v l.length (bytesV l) hs hown.row ⟨t.toArray⟩ hx (by rw [hsz]; unfold maxLen; omega) (by rw [hsz]; omega) hbase ?_
  intro v' w' hown' hgrow _
  refine h v' w' ?_ ?_
  · unfold OwnB
    rw [bytesV_append, List.length_append, ← strCells_bytes t, ← hsz]
    exact hown'
  · exact (Below.refl B W).grown hgrow hbase fun k hk => (hown.row.lt k hk).1
end Go.Proofs.Ytalfmeedffbllaa
