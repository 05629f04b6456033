/-
  Contracts of EncodeHex, and the law on it. Strings of at most maxLen bytes, as every string is.
-/
import Derived.Test.YtiidocjpeepheaaGreatDoorOwn
import Derived.Deep.RegionLaw
import Derived.Deep.RegionWith
namespace Go.Proofs.YtiidocjpeepheaaGreatDoor
open Go.RowKit
set_option linter.all false

def hexD (x : Nat) : UInt8 := if x < 10 then UInt8.ofNat (48 + x) else UInt8.ofNat (87 + x)
def hexL : List UInt8 → List UInt8
  | [] => []
  | c :: l => hexD (c.toNat / 16) :: hexD (c.toNat % 16) :: hexL l
theorem hexL_len (l : List UInt8) : (hexL l).length = 2 * l.length := by
  induction l with
  | nil => rfl
  | cons c l ih => simp [hexL, ih]; omega
theorem hexL_snoc (l : List UInt8) (c : UInt8) : hexL (l ++ [c]) = hexL l ++ [hexD (c.toNat / 16), hexD (c.toNat % 16)] := by
  induction l with
  | nil => rfl
  | cons d l ih => simp [hexL, ih]
def encHex (l : List UInt8) : Option (List UInt8) := if 20000 < l.length then none else some (hexL l)
def retOptS (o : Option (List UInt8)) : Value := .tuple #[.string ⟨(o.getD []).toArray⟩, .bool o.isSome]
/-- 'append(v, b, c)' of two bytes, in a region that draws its order. -/
theorem step_two {ops : Array Oper} {o : Oper} {a : Act} {W : World} {K : Act → World → Prop} {Q : Exit → Act → World → Prop} {E : Prop} (hgd : o.guard = none) (s x : Operand)
    (ho : o.op = .call { callee := .builtin .append, args := #[s, x], argTypes := #[128, 128] })
    (B : Nat) (v : Value) (l : List UInt8) (hs : a.eval s = v) (hown : OwnB W B v l) (ad : Nat) (m n : Int) (hx : a.eval x = .slice (some ⟨ad, 0, none⟩) 2 2)
    (hc0 : W.cell? ⟨ad, 0, none⟩ = some (.int .u8 m)) (hc1 : W.cell? ⟨ad, 1, none⟩ = some (.int .u8 n)) (b c : UInt8) (hb : m = (b.toNat : Int)) (hc : n = (c.toNat : Int))
    (hlen : l.length + 2 ≤ 140737488355328) (hbase : B ≤ W.heap.size)
    (h : ∀ v' w', OwnB w' B v' (l ++ [b, c]) → Below B W w' → K (a.put o.dst v') w') : if Region.wanted o (yielded ops a.tmps) = true then Oper.wp Tryz.prog o a W K Q else E := by
  obtain ⟨i0, hi, hz0, hz1, hz2⟩ := info_parts info_u8
  have hcell : ∀ j u, [Value.int .u8 m, .int .u8 n][j]? = some u → W.cell? ((⟨ad, 0, none⟩ : Addr).add j) = some u := by
    intro j u hj
    rw [show (⟨ad, 0, none⟩ : Addr).add j = ⟨ad, j, none⟩ by unfold Addr.add; split <;> simp_all]
    match j, hj with
    | 0, hj => simp at hj; subst hj; exact hc0
    | 1, hj => simp at hj; subst hj; exact hc1
  rw [if_pos (by simp [Region.wanted, hgd])]
  refine wp_append_own W s x 128 ho B 5 i0 (.int .u8 0) 1 1 Tryz.underlying128 hi hz0 hz1 hz2 rfl (by decide) v l.length (bytesV l) hs hown.row ⟨ad, 0, none⟩ 2 2 [.int .u8 m, .int .u8 n] hx rfl hcell (by intro u hu; simp at hu; rcases hu with rfl | rfl <;> rfl) (by unfold maxLen; omega) (by omega) hbase ?_
  intro v' w' hown' hgrow _
  refine h v' w' ?_ ?_
  · unfold OwnB
    rw [List.length_append, show bytesV (l ++ [b, c]) = bytesV l ++ [.int .u8 m, .int .u8 n] by simp [bytesV, byteV, hb, hc]]
    exact hown'
  · exact (Below.refl B W).grown hgrow hbase fun k hk => (hown.row.lt k hk).1
end Go.Proofs.YtiidocjpeepheaaGreatDoor
