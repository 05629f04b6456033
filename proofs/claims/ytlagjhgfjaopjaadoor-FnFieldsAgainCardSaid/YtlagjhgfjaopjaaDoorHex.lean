/-
  Contracts of EncodeHex, and the law on it. Strings of at most maxLen bytes, as every string is.
-/
import Derived.Test.YtlagjhgfjaopjaaDoorOwn
import Derived.Deep.RegionLaw
import Derived.Deep.RegionWith
namespace Go.Proofs.YtlagjhgfjaopjaaDoor
open Go.RowKit
set_option linter.all false

def hexD (x : Nat) : UInt8 := if x < 10 then UInt8.ofNat (48 + x) else UInt8.ofNat (87 + x)
def hexL : List UInt8 → List UInt8
  | [] => []
  | c :: l => hexD (c.toNat / 16) :: hexD (c.toNat % 16) :: hexL l
theorem hexL_len (l : List UInt8) : (hexL l).length = 2 * l.length := by
  induction l with
  | nil => rfl
  | cons c l ih => simp [hexL, ih]; omega
theorem hexL_snoc (l : List UInt8) (c : UInt8) : hexL (l ++ [c]) = hexL l ++ [hexD (c.toNat / 16), hexD (c.toNat % 16)] := by
  induction l with
  | nil => rfl
  | cons d l ih => simp [hexL, ih]
def encHex (l : List UInt8) : Option (List UInt8) := if 20000 < l.length then none else some (hexL l)
def retOptS (o : Option (List UInt8)) : Value := .tuple #[.string ⟨(o.getD []).toArray⟩, .bool o.isSome]
/-- 'append(v, b, c)' of two bytes, in a region that draws its order. -/
theorem step_two {ops : Array Oper} {o : Oper} {a : Act} {W : World} {K : Act → World → Prop} {Q : Exit → Act → World → Prop} {E : Prop} (hgd : o.guard = none) (s x : Operand)
    (ho : o.op = .call { callee := .builtin .append, args := #[s, x], argTypes := #[22, 22] })
    (B : Nat) (v : Value) (l : List UInt8) (hs : a.eval s = v) (hown : OwnB W B v l) (ad : Nat) (m n : Int) (hx : a.eval x = .slice (some ⟨ad, 0, none⟩) 2 2)
    (hc0 : W.cell? ⟨ad, 0, none⟩ = some (.int .u8 m)) (hc1 : W.cell? ⟨ad, 1, none⟩ = some (.int .u8 n)) (b c : UInt8) (hb : m = (b.toNat : Int)) (hc : n = (c.toNat : Int))
    (hlen : l.length + 2 ≤ 140737488355328) (hbase : B ≤ W.heap.size)
    (h : ∀ v' w', OwnB w' B v' (l ++ [b, c]) → Below B W w' → K (a.put o.dst v') w') : if Region.wanted o (yielded ops a.tmps) = true then Oper.wp Tryd.prog o a W K Q else E := by
  obtain ⟨i0, hi, hz0, hz1, hz2⟩ := info_parts info_u8
  have hcell : ∀ j u, [Value.int .u8 m, .int .u8 n][j]? = some u → W.cell? ((⟨ad, 0, none⟩ : Addr).add j) = some u := by
    intro j u hj
    rw [show (⟨ad, 0, none⟩ : Addr).add j = ⟨ad, j, none⟩ by unfold Addr.add; split <;> simp_all]
    match j, hj with
    | 0, hj => simp at hj; subst hj; exact hc0
    | 1, hj => simp at hj; subst hj; exact hc1
  rw [if_pos (by simp [Region.wanted, hgd])]
  refine wp_append_own W s x 22 ho B 5 i0 (.int .u8 0) 1 1 Tryd.underlying22 hi hz0 hz1 hz2 rfl (by decide) v l.length (bytesV l) hs hown.row ⟨ad, 0, none⟩ 2 2 [.int .u8 m, .int .u8 n] hx rfl hcell (by intro u hu; simp at hu; rcases hu with rfl | rfl <;> rfl) (by unfold maxLen; omega) (by omega) hbase ?_
  intro v' w' hown' hgrow _
  refine h v' w' ?_ ?_
  · unfold OwnB
    rw [List.length_append, show bytesV (l ++ [b, c]) = bytesV l ++ [.int .u8 m, .int .u8 n] by simp [bytesV, byteV, hb, hc]]
    exact hown'
  · exact (Below.refl B W).grown hgrow hbase fun k hk => (hown.row.lt k hk).1
theorem hex_at (x : Nat) (h : x < 16) : (ByteArray.mk #[48, 49, 50, 51, 52, 53, 54, 55, 56, 57, 97, 98, 99, 100, 101, 102])[x]'h = hexD x := by
  have : ∀ y : Fin 16, (ByteArray.mk #[48, 49, 50, 51, 52, 53, 54, 55, 56, 57, 97, 98, 99, 100, 101, 102])[y.val]'y.isLt = hexD y.val := by decide
  exact this ⟨x, h⟩
theorem run_hex (W : World) {i : Int} {x : Nat} (h : i = (x : Int)) (hx : x < 16) : (Instr.index 9 (.string ⟨#[48, 49, 50, 51, 52, 53, 54, 55, 56, 57, 97, 98, 99, 100, 101, 102]⟩) (.int .u8 i)).run Tryd.prog W = .ok (.int .u8 ((hexD x).toNat : Int)) W := by
  subst h
  have : ∀ y : Fin 16, (Instr.index 9 (.string ⟨#[48, 49, 50, 51, 52, 53, 54, 55, 56, 57, 97, 98, 99, 100, 101, 102]⟩) (.int .u8 ((y.val : Nat) : Int))).run Tryd.prog W = .ok (.int .u8 ((hexD y.val).toNat : Int)) W := by
    intro y
    rw [run_index_string W 9 _ .u8 _ Tryd.underlying9]
    have hy : y.val < 16 := y.isLt
    rw [dif_pos ⟨by omega, by show ((y.val : Nat) : Int) < 16; omega⟩]
    simp only [Int.toNat_natCast]
    rw [hex_at y.val y.isLt]
  exact this ⟨x, hx⟩
theorem run_idx {l : List UInt8} {k : Nat} {c : UInt8} (W : World) (hk : k < l.length) (hc : (ByteArray.mk l.toArray)[k]'hk = c) : (Instr.index 9 (.string ⟨l.toArray⟩) (.int .i64 (k : Int))).run Tryd.prog W = .ok (.int .u8 (c.toNat : Int)) W := by
  rw [run_index_string W 9 _ .i64 _ Tryd.underlying9]
  rw [dif_pos ⟨by omega, by show (k : Int) < (l.toArray.size : Int); simp; exact hk⟩]
  simp only [Int.toNat_natCast]
  rw [hc]
set_option maxHeartbeats 1000000 in
theorem encodeHex_impl (l : List UInt8) (w : World) (hs : l.length ≤ 9223372036854775807) :
    Calls Tryd.prog 9 #[.string ⟨l.toArray⟩] w fun e w' => e = .returned (retOptS (encHex l)) ∧ Below w.heap.size w w' := by
  by_cases h1 : 20000 < l.length
  · have HF := Lib.hid (show encHex l = none by unfold encHex; rw [if_pos h1])
    go_enter Tryd.func9, Tryd.ntmps9
    go_wp2
    go_ret2
    exact ⟨by rw [HF.out]; rfl, Below.refl _ _⟩
  · have HF := Lib.hid (show encHex l = some (hexL l) by unfold encHex; rw [if_neg h1])
    have h1' : l.length ≤ 20000 := by omega
    obtain ⟨i0, hi, hz0, hz1, hz2⟩ := info_parts info_u8
    have hmk : ∀ W, (Instr.makeSlice 22 (.int .i64 0) (.int .i64 (2 * (l.length : Int)))).run Tryd.prog W = .ok (.slice (some ⟨W.heap.size, 0, none⟩) 0 (2 * l.length)) (W.alloc (.cells (madeCells #[.int .u8 0] (2 * l.length)) 5)) := fun W => by
      have := run_make (P := Tryd.prog) W 22 5 i0 (.int .u8 0) Tryd.underlying22 hi hz0 .i64 .i64 0 (2 * (l.length : Int)) (by omega) (by omega) (by rw [hz2]; omega) (by omega)
      rw [this, hz1, Nat.mul_one, show (2 * (l.length : Int)).toNat = 2 * l.length by omega]; rfl
    clear hi hz0 hz1 hz2
    go_enter Tryd.func9, Tryd.ntmps9
    go_wp2
    go_loopw [4, 15] (fun v i wr => ∃ k : Nat, k ≤ l.length ∧ i = .int .i64 k ∧ OwnB wr w.heap.size v (hexL (l.take k)) ∧ Below w.heap.size w wr) (fun _ i _ => l.length - (intOf i).toNat)
    case atStart =>
      have := OwnB.made w (madeCells #[.int .u8 0] (2 * l.length)) w.heap.size (Nat.le_refl _) (by rw [size_madeCells]; unfold maxLen; omega)
      rw [size_madeCells] at this
      exact ⟨0, Nat.zero_le _, rfl, this, (Below.refl _ _).alloc (Nat.le_refl _) _⟩
    case round =>
      obtain ⟨k, hk, rfl, hown, hbel⟩ := hrel
      have hB := hbel.size
      by_cases hkl : k < l.length
      · obtain ⟨c, hc⟩ : ∃ c, c = l[k] := ⟨_, rfl⟩
        have hix : (ByteArray.mk l.toArray)[k]'hkl = c := hc.symm
        have HT := Lib.hid (show hexL (l.take (k + 1)) = hexL (l.take k) ++ [hexD (c.toNat / 16), hexD (c.toNat % 16)] by rw [List.take_succ_eq_append_getElem hkl, hexL_snoc, hc])
        have hlen : (hexL (l.take k)).length ≤ 40000 := by rw [hexL_len, List.length_take]; omega
        have hc255 : (c.toNat : Int) ≤ 255 := by have := c.toNat_lt; omega
        have hlt : (k : Int) < (l.length : Int) := by omega
        clear hc
        have hi1 : ∀ W, (Instr.index 9 (.string ⟨#[48, 49, 50, 51, 52, 53, 54, 55, 56, 57, 97, 98, 99, 100, 101, 102]⟩) (.int .u8 ((c.toNat : Int) / 16))).run Tryd.prog W = .ok (.int .u8 ((hexD (c.toNat / 16)).toNat : Int)) W := fun W => run_hex W (by omega) (by omega)
        have hi2 : ∀ W, (Instr.index 9 (.string ⟨#[48, 49, 50, 51, 52, 53, 54, 55, 56, 57, 97, 98, 99, 100, 101, 102]⟩) (.int .u8 ((c.toNat : Int) % 16))).run Tryd.prog W = .ok (.int .u8 ((hexD (c.toNat % 16)).toNat : Int)) W := fun W => run_hex W (by omega) (by omega)
        have hidx : ∀ W, (Instr.index 9 (.string ⟨l.toArray⟩) (.int .i64 (k : Int))).run Tryd.prog W = .ok (.int .u8 (c.toNat : Int)) W := fun W => run_idx W hkl hix
        have hw1 : IntKind.u8.wrap ((c.toNat : Int) / 16) = (c.toNat : Int) / 16 := by rw [IntKind.wrap_u8']; omega
        have ht1 : (c.toNat : Int).tmod 16 = (c.toNat : Int) % 16 := Int.tmod_eq_emod_of_nonneg (by omega)
        have hw2 : IntKind.u8.wrap ((c.toNat : Int) % 16) = (c.toNat : Int) % 16 := by rw [IntKind.wrap_u8']; omega
        have HO := Lib.hid hown; clear hown
        go_wp2
        go_region_law (refine step_two rfl (.tmp 18) (.tmp 29) rfl w.heap.size _ (hexL (l.take k)) rfl (HO.out.alloc _) wr.heap.size _ _ rfl (World.cell?_alloc_mark _ _ _ (0, 0) 0) (World.cell?_alloc_mark _ _ _ (0, 0) 1) (hexD (c.toNat / 16)) (hexD (c.toNat % 16)) rfl rfl (by omega) (by simp; omega) ?_; intro v' w1 hown' hb')
        all_goals
          go_wp2
          go_roundw
          case rel => exact ⟨k + 1, by omega, by go_num, by rw [HT.out]; exact hown', hbel.trans ((((Below.refl _ wr).alloc hB _).drew).trans hb')⟩
          case measure => simp [intOf]; omega
      · have e : k = l.length := by omega
        subst e
        rw [List.take_of_length_le (Nat.le_refl _)] at hown
        have hcv := run_str_own (P := Tryd.prog) Tryd.underlying22 Tryd.underlying5 Tryd.underlying9 hown
        go_wp2
        go_ret2
        exact ⟨by rw [HF.out]; rfl, hbel⟩
theorem figure_any (x : Nat) (hx : x < 16) (i : Int) (hi : i = (x : Int)) (w : World) : Calls Tryd.prog 28 #[.int .i64 i] w fun e w' => e = .returned (.int .u8 ((hexD x).toNat : Int)) ∧ w = w' := by
  subst hi
  by_cases h : x < 10
  · have HX := Lib.hid (show ((hexD x).toNat : Int) = 48 + (x : Int) by unfold hexD; rw [if_pos h]; simp; omega)
    have h' : (x : Int) < 10 := by omega
    go_enter Tryd.func28, Tryd.ntmps28
    go_wp2
    go_ret
    exact ⟨ret_int (by rw [HX.out]), rfl⟩
  · have HX := Lib.hid (show ((hexD x).toNat : Int) = 97 + (x : Int) - 10 by unfold hexD; rw [if_neg h]; simp; omega)
    have h' : ¬ (x : Int) < 10 := by omega
    have hx' : (x : Int) < 16 := by omega
    go_enter Tryd.func28, Tryd.ntmps28
    go_wp2
    go_ret
    exact ⟨ret_int (by rw [HX.out]), rfl⟩
end Go.Proofs.YtlagjhgfjaopjaaDoor
