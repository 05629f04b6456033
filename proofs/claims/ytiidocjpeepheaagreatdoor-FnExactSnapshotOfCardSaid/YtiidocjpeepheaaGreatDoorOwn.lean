/-
  Rows of bytes that a call owns; the string that is made of them. No condition.
-/
import Derived.Test.YtiidocjpeepheaaGreatDoorPure
namespace Go.Proofs.YtiidocjpeepheaaGreatDoor
open Go.RowKit
set_option linter.all false

theorem info_u8 : (Tryz.prog.info? 5).map (fun i => (i.zero, i.size, i.bytes)) = some (some (.int .u8 0), 1, 1) := by kernel_rfl
def byteV (b : UInt8) : Value := .int .u8 (b.toNat : Int)
def bytesV (l : List UInt8) : List Value := l.map byteV
theorem bytesV_len (l : List UInt8) : (bytesV l).length = l.length := by simp [bytesV]
theorem bytesV_snoc (l : List UInt8) (b : UInt8) : bytesV (l ++ [b]) = bytesV l ++ [byteV b] := by simp [bytesV]
/-- The slice v owns the bytes l, among blocks from B on. -/
def OwnB (w : World) (B : Nat) (v : Value) (l : List UInt8) : Prop := w.ownsRow B 5 1 v l.length (bytesV l)
theorem OwnB.row {w : World} {B : Nat} {v : Value} {l : List UInt8} (h : OwnB w B v l) : w.ownsRow B 5 1 v l.length (bytesV l) := h
theorem OwnB.nil (w : World) (B : Nat) : OwnB w B (.slice none 0 0) [] := World.ownsRow_nil w B _ 1
theorem OwnB.alloc {w : World} {B : Nat} {v : Value} {l : List UInt8} (h : OwnB w B v l) (o : Obj) : OwnB (w.alloc o) B v l := World.ownsRow.alloc h o
theorem OwnB.drew {w : World} {B : Nat} {v : Value} {l : List UInt8} (h : OwnB w B v l) : OwnB w.drew B v l := h
theorem OwnB.made (w : World) (cur : Array Value) (B : Nat) (hB : B ≤ w.heap.size) (hm : cur.size ≤ maxLen) : OwnB (w.alloc (.cells cur 5)) B (.slice (some ⟨w.heap.size, 0, none⟩) 0 cur.size) [] :=
  World.ownsRow_made w cur cur.size hB hm (by simp)
theorem OwnB.of_below {w w' : World} {B C : Nat} {v : Value} {l : List UInt8} (h : OwnB w B v l) (hb : Below C w w') (hC : w.heap.size ≤ C) : OwnB w' B v l :=
  World.ownsRow.kept h (row := none) ⟨hb.os, hb.tape, hb.output, hb.size, fun k hk _ => hb.block k (by omega)⟩ (by cases v.ownBlock <;> simp)
/-- One byte is appended: what the law leaves. -/
theorem OwnB.snoc {w : World} {B : Nat} {v : Value} {l : List UInt8} {n : Int} {b : UInt8} (hn : n = (b.toNat : Int))
    (h : w.ownsRow B 5 1 v (l.length + 1) (bytesV l ++ [.int .u8 n])) : OwnB w B v (l ++ [b]) := by
  unfold OwnB
  rw [bytesV_snoc, List.length_append, byteV, ← hn]
  exact h
theorem one_cell (W : World) (v : Value) (t : TypeId) : ∀ j u, [v][j]? = some u → (W.alloc (.cells #[v] t)).cell? ((⟨W.heap.size, 0, none⟩ : Addr).add j) = some u := by
  intro j u hj
  match j, hj with
  | 0, hj =>
    simp at hj; subst hj
    rw [show (⟨W.heap.size, 0, none⟩ : Addr).add 0 = ⟨W.heap.size, 0, none⟩ by simp [Addr.add]]
    exact World.cell?_alloc_mark W #[v] t (0, 0) 0
theorem u8_one (n : Int) : ∀ u ∈ [Value.int .u8 n], u.oneCell' = true := by intro u hu; simp at hu; subst hu; rfl
/-- 'append(v, b)' of one byte, as the walk meets it: the byte has been laid in a new block of its own. -/
theorem app_byte {ops : Array Oper} {rest : List Oper} {o : Oper} {a : Act} {Q : Exit → Act → World → Prop} {W : World} (hgd : o.guard = none) (s x : Operand)
    (ho : o.op = .call { callee := .builtin .append, args := #[s, x], argTypes := #[128, 128] })
    (B : Nat) (v : Value) (l : List UInt8) (hs : a.eval s = v) (hown : OwnB W B v l) (n : Int) (hx : a.eval x = .slice (some ⟨W.heap.size, 0, none⟩) 1 1) (b : UInt8) (hb : n = (b.toNat : Int))
    (hlen : l.length + 1 ≤ 140737488355328) (hbase : B ≤ W.heap.size)
    (h : ∀ v' w', OwnB w' B v' (l ++ [b]) → Below B W w' → wpList Tryz.prog ops Q rest (a.put o.dst v') w') : wpList Tryz.prog ops Q (o :: rest) a (W.alloc (.cells #[.int .u8 n] 5)) := by
  obtain ⟨i0, hi, hz0, hz1, hz2⟩ := info_parts info_u8
  have hown2 := hown.alloc (.cells #[.int .u8 n] 5)
  refine wpList_append_own _ hgd s x 128 ho B 5 i0 (.int .u8 0) 1 1 Tryz.underlying128 hi hz0 hz1 hz2 rfl (by decide) v l.length (bytesV l) hs hown2.row ⟨W.heap.size, 0, none⟩ 1 1 [.int .u8 n] hx rfl (one_cell _ _ _) (u8_one _) (by unfold maxLen; omega) (by omega) (by simp; omega) ?_
  intro v' w' hown' hgrow _
  refine h v' w' (OwnB.snoc hb hown') ?_
  exact ((Below.refl B W).alloc hbase _).grown hgrow (by simp; omega) fun k hk => (hown2.row.lt k hk).1
/-- 'string(v)' of a row of bytes that the call owns. -/
theorem run_str_own {P : Program} {src dst e : TypeId} (hs : P.underlying src = some (.slice e)) (he : P.underlying e = some (.int .u8)) (hd : P.underlying dst = some .string)
    {w : World} {B : Nat} {v : Value} {l : List UInt8} (h : OwnB w B v l) : (convert src dst v).run P w = .ok (.string ⟨l.toArray⟩) w := by
  obtain ⟨h1, h2⟩ := h
  rcases h2 with ⟨rfl, h0⟩ | ⟨g, cap, cur, rfl, hB, hg, hn, hc, hsz, htk⟩
  · have : l = [] := List.eq_nil_of_length_eq_zero h0
    subst this
    exact run_convert_bytes_nil w src e hs he 0 0 dst hd
  · refine run_convert_bytes_back w src dst e ⟨g, 0, none⟩ cap l hs he hd fun j hj => ?_
    have hadd : (⟨g, 0, none⟩ : Addr).add j = ⟨g, j, none⟩ := by unfold Addr.add; split <;> simp_all
    rw [hadd, cell_of_row w g j cur _ (0, 0) hg]
    have hjc : (bytesV l)[j]? = some (byteV l[j]) := by simp [bytesV, hj]
    rw [← htk, List.getElem?_take] at hjc
    split at hjc
    · simpa [byteV] using hjc
    · cases hjc
end Go.Proofs.YtiidocjpeepheaaGreatDoor
