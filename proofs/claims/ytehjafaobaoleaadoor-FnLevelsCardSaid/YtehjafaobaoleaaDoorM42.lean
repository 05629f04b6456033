/-
  Texts of this proof: DrP.
-/
import Derived.Test.YtehjafaobaoleaaDoorM02
import Derived.Test.YtehjafaobaoleaaDoorM08
import Derived.Test.YtehjafaobaoleaaDoorM37
import Derived.Test.YtehjafaobaoleaaDoorM38
import Derived.Test.YtehjafaobaoleaaDoorM41
namespace Go.Proofs.YtehjafaobaoleaaDoor
open Go.RowKit
set_option linter.all false
def RwS (w : World) (B : Nat) (v : Value) (X : Rowi) : Prop := ∃ us : List Value, us.length = X.length ∧ w.ownsRow B 27 1 v X.length us ∧ ∀ j (h1 : j < us.length) (h2 : j < X.length), OwnR w B us[j] X[j]
theorem RwS.rd {w : World} {B : Nat} {v : Value} {X : Rowi} (h : RwS w B v X) : RdR w v X := by
 obtain ⟨us, hl, ho, hr⟩ := h
 have ho' := ho
 rcases ho.2 with ⟨rfl, hn⟩ | ⟨g, cap, cur, rfl, hB, hgc, _⟩
 ·have : X = [] := List.eq_nil_of_length_eq_zero hn
  subst this
  exact ⟨none, 0, rfl, .inl rfl⟩
 ·refine ⟨_, cap, rfl, .inr ⟨g, 0, rfl, fun j hj => ⟨us[j]'(by omega), ?_, (hr j (by omega) hj).own.rd⟩⟩⟩
  rw [Nat.zero_add]
  exact ownsRow_cell ho' rfl (by omega)
theorem rowApart {w : World} {B B' n : Nat} {u v : Value} {x : List Int} {us : List Value} (hu : OwnR w B u x) (hv : w.ownsRow B' 27 1 v n us) : u.ownBlock = none ∨ u.ownBlock ≠ v.ownBlock := by
 rcases hv.2 with ⟨rfl, -⟩ | ⟨g, cap, cur, rfl, -, hg, -⟩
 ·cases h : u.ownBlock with
  | none => exact .inl rfl
  | some k => exact .inr (by intro e; cases e)
 ·exact .inr (fun e => hu.notBox hg (by decide) (e.trans rfl))
theorem OwnR.drawn {w w' : World} {B c : Nat} {u : Value} {x : List Int} (h : OwnR w B u x) (g : w.grownBy w' (some c)) (hc : c < B) : OwnR w' B u x :=
 World.ownsRow.kept h g (by
  rcases h.2 with ⟨rfl, -⟩ | ⟨k, cap, cur, rfl, hB, -⟩
  ·exact .inl rfl
  ·exact .inr (fun e => by have : k = c := Option.some.inj e; omega))
theorem RwS.drawn {w w' : World} {B c : Nat} {v : Value} {X : Rowi} (h : RwS w B v X) (g : w.grownBy w' (some c)) (hc : c < B) : RwS w' B v X := by
 obtain ⟨us, hl, ho, hr⟩ := h
 refine ⟨us, hl, World.ownsRow.kept ho g ?_, fun j h1 h2 => (hr j h1 h2).drawn g hc⟩
 rcases ho.2 with ⟨rfl, -⟩ | ⟨k, cap, cur, rfl, hB, -⟩
 ·exact .inl rfl
 ·exact .inr (fun e => by have : k = c := Option.some.inj e; omega)
theorem RwS.made (w : World) (B : Nat) (hB : B ≤ w.heap.size) : RwS (w.alloc (.cells #[] 27)) B (.slice (some ⟨w.heap.size, 0, none⟩) 0 0) [] := by
 refine ⟨[], rfl, ?_, fun j h _ => by simp at h⟩
 have := (OwnRR.made w B #[] hB (by unfold maxLen; simp)).2.2
 obtain ⟨us, hin, ho⟩ := this
 have e : us = [] := List.eq_nil_of_length_eq_zero hin.1
 rw [e] at ho
 exact ho
theorem app_rowS {ops : Array Oper} {rest : List Oper} {o : Oper} {a : Act} {Q : Exit → Act → World → Prop} {W : World} (hgd : o.guard = none) (s x : Operand)
  (ho : o.op = .call { callee := .builtin .append, args := #[s, x], argTypes := #[31, 31] })
  (B : Nat) (v : Value) (X : Rowi) (hs : a.eval s = v) (hown : RwS W B v X) (u : Value) (xs : List Int) (hu : OwnR W B u xs) (hx : a.eval x = .slice (some ⟨W.heap.size, 0, none⟩) 1 1)
  (hlen : X.length + 1 ≤ 1000000000) (hbase : B ≤ W.heap.size)
  (h : ∀ v' w', RwS w' B v' (X ++ [xs]) → OwnR w' B u xs → Below B W w' → wpList Tryd.prog ops Q rest (a.put o.dst v') w') : wpList Tryd.prog ops Q (o :: rest) a (W.alloc (.cells #[u] 27)) := by
 obtain ⟨i0, hi, hz0, hz1, hz2⟩ := info_parts info_IntSS
 obtain ⟨us, hl, how, hr⟩ := hown
 have hu0 := OwnIn.of hu.own
 have how2 := how.alloc (.cells #[u] 27)
 refine wpList_append_own _ hgd s x 31 ho B 27 i0 (.slice none 0 0) 1 24 Tryd.underlying31 hi hz0 hz1 hz2 rfl (by decide) v X.length us hs how2 ⟨W.heap.size, 0, none⟩ 1 1 [u] hx rfl (fun j q hj => ?_) (by intro q hq; simp at hq; subst hq; exact hu0.oneCell) (by unfold maxLen; omega) (by omega) (by simp; omega) ?_
 ·match j, hj with
  | 0, hj =>
   simp at hj; subst hj
   exact rowCells (heap_alloc_new W (.cells #[u] 27)) 0
 intro v' w' hown' hgrow _
 have keep : ∀ {u' : Value} {x' : List Int}, OwnR W B u' x' → OwnR w' B u' x' := fun hu' => World.ownsRow.kept (hu'.alloc _) hgrow (rowApart hu' how)
 refine h v' w' ⟨us ++ [u], by simp [hl], ?_, fun j h1 h2 => ?_⟩ (keep hu) ?_
 ·rw [List.length_append]; exact hown'
 ·by_cases hj : j < X.length
  ·have e1 : (us ++ [u])[j] = us[j]'(by omega) := List.getElem_append_left (by omega)
   have e2 : (X ++ [xs])[j] = X[j] := List.getElem_append_left hj
   rw [e1, e2]; exact keep (hr j (by omega) hj)
  ·have hje : j = X.length := by simp at h2; omega
   subst hje
   have e1 : (us ++ [u])[X.length] = u := by rw [List.getElem_append_right (by omega)]; simp [hl]
   have e2 : (X ++ [xs])[X.length] = xs := by rw [List.getElem_append_right (by omega)]; simp
   rw [e1, e2]; exact keep hu
 ·exact ((below1 W _).mono hbase).grown hgrow (by simp; omega) fun k hk => (how.lt k hk).1
def Inp (xs : List Int) : Prop := ∀ x ∈ xs, 0 ≤ x ∧ x ≤ 15
def lenV : Value → Nat
 | .slice _ n _ => n
 | _ => 0
def RetRw (w : World) (B c len n : Nat) (e : Ending) (w' : World) : Prop := ∃ v xs, e = .returned v ∧ OwnR w' w.heap.size v xs ∧ xs.length = n ∧ Inp xs ∧ Cur w' B c len ∧ w.grownBy w' (some c)
set_option maxHeartbeats 2000000 in
theorem row_any {w : World} {B c len : Nat} (hcur : Cur w B c len) (hl : len ≤ 1048576) (n : Nat) (hn : n ≤ 4) :
  Calls Tryd.prog 38 #[.pointer (some ⟨c, 0, none⟩), .int .i64 (n : Int)] w (RetRw w B c len n) := by
 have hlt := hcur.lt
 have ho0 : OwnR (w.alloc (.cells #[] 3)) w.heap.size (.slice (some ⟨w.heap.size, 0, none⟩) 0 0) [] := OwnR.made w #[] w.heap.size (Nat.le_refl _) (by unfold maxLen; decide)
 have hg0 : w.grownBy (w.alloc (.cells #[] 3)) (some c) := World.grownBy_alloc _ _ _
 have cur0 := hcur.low (below1 w (.cells #[] 3)) hlt
 go_enter Tryd.func38, Tryd.ntmps38
 go_wp2_with (fail)
 go_loopw [5] (fun v wr => ∃ xs : List Int, OwnR wr w.heap.size v xs ∧ xs.length ≤ n ∧ Inp xs ∧ Cur wr B c len ∧ w.grownBy wr (some c)) (fun v _ => n - lenV v)
 case atStart => exact ⟨[], ho0, Nat.zero_le _, fun x hx => (by cases hx), cur0, hg0⟩
 case round =>
  clear ho0 hg0 cur0
  obtain ⟨xs, hown, hle, hin, cur, hg⟩ := hrel
  obtain ⟨ax, cx, rfl, -⟩ := id hown.own
  have hsz := hg.size
  by_cases hx : xs.length < n
  ·have hx' : (xs.length : Int) < (n : Int) := by omega
   obtain ⟨m, hm⟩ : ∃ m, m = xs.length := ⟨_, rfl⟩
   go_wp2_with (fail)
   refine (input_any cur hl).mono ?_
   rintro e w2 ⟨y, hy, rfl, cur2, g2⟩
   have hown2 := hown.drawn g2 hlt
   have hg2 := grown_trans hg g2
   obtain ⟨ys, hys⟩ : ∃ ys, ys = xs ++ [y] := ⟨_, rfl⟩
   have HY := Lib.hid hys
   have HI : Hid (Inp ys) := Lib.hid (by
    rw [hys]; intro z hz
    rcases List.mem_append.1 hz with hz | hz
    ·exact hin z hz
    ·have e : z = y := by simpa using hz
     rw [e]; exact hy)
   have HL : Hid (ys.length = xs.length + 1) := Lib.hid (by rw [hys]; simp)
   have hs2 := g2.size
   clear hys hm hin hown
   go_wp2_with (at_builtin; refine app_int rfl _ _ rfl w.heap.size _ xs rfl hown2 y rfl (by omega) (by omega) ?_; intro v5 w5 hown5 hb5; rw [← HY.out] at hown5; obtain ⟨a5, c5, rfl, -⟩ := id hown5.own)
   go_roundw
   case rel => exact ⟨ys, hown5, by have := HL.out; omega, HI.out, cur2.low hb5 hlt, grown_low hg2 hb5 (Nat.le_refl _)⟩
   case measure => have := HL.out; simp [lenV]; omega
  ·have hx' : ¬ (xs.length : Int) < (n : Int) := by omega
   go_wp2_with (fail)
   go_ret
   exact ⟨_, xs, rfl, hown, by omega, hin, cur, hg⟩
def Rws (n : Nat) (X : Rowi) : Prop := ∀ x ∈ X, x.length = n ∧ Inp x
theorem Rws.snoc {n : Nat} {X : Rowi} {x : List Int} (h : Rws n X) (h1 : x.length = n) (h2 : Inp x) : Rws n (X ++ [x]) := fun y hy => by
 rcases List.mem_append.1 hy with hy | hy
 ·exact h y hy
 ·have e : y = x := by simpa using hy
  rw [e]; exact ⟨h1, h2⟩
def RetRws (w : World) (B c len n most : Nat) (e : Ending) (w' : World) : Prop := ∃ v X, e = .returned v ∧ RwS w' w.heap.size v X ∧ X.length ≤ 4 * most ∧ Rws n X ∧ Cur w' B c len ∧ w.grownBy w' (some c)
set_option maxHeartbeats 2000000 in
theorem rows_any {w : World} {B c len : Nat} (hcur : Cur w B c len) (hl : len ≤ 1048576) (n : Nat) (hn : n ≤ 4) (most : Nat) (hm : most ≤ 100) :
  Calls Tryd.prog 19 #[.pointer (some ⟨c, 0, none⟩), .int .i64 (n : Int), .int .i64 (most : Int)] w (RetRws w B c len n most) := by
 have hlt := hcur.lt
 have ho0 := RwS.made w w.heap.size (Nat.le_refl _)
 have hg0 : w.grownBy (w.alloc (.cells #[] 27)) (some c) := World.grownBy_alloc _ _ _
 have cur0 := hcur.low (below1 w (.cells #[] 27)) hlt
 go_enter Tryd.func19, Tryd.ntmps19
 go_wp2_with (fail)
 refine (below_any cur0 hl (most : Int) (by omega)).mono ?_
 rintro e w1 ⟨t, ⟨ht0, ht1, _⟩, rfl, cur1, g1⟩
 obtain ⟨n0, rfl⟩ := Int.eq_ofNat_of_zero_le ht0
 have ho1 := ho0.drawn g1 hlt
 have hg1 := grown_trans hg0 g1
 clear ho0 hg0 cur0
 go_wp2_with (fail)
 go_loopw [7, 8] (fun v i wr => ∃ (k : Nat) (X : Rowi), i = .int .i64 (k : Int) ∧ RwS wr w.heap.size v X ∧ X.length + 4 * k ≤ 4 * most ∧ Rws n X ∧ Cur wr B c len ∧ w.grownBy wr (some c)) (fun _ i _ => (intOf i).toNat)
 case atStart => exact ⟨n0, [], rfl, ho1, by show 0 + 4 * n0 ≤ 4 * most; omega, fun x hx => (by cases hx), cur1, hg1⟩
 case round =>
  clear ho1 hg1 cur1
  obtain ⟨k, X, rfl, hown, hle, hX, cur, hg⟩ := hrel
  obtain ⟨av, cv, rfl, -⟩ := id hown.rd
  have hsz := hg.size
  by_cases hk : 0 < k
  ·have hk' : (0 : Int) < (k : Int) := by omega
   go_wp2_with (fail)
   refine (row_any cur hl n hn).mono ?_
   rintro e w2 ⟨u, x, rfl, ou, hxl, hxi, cur2, g2⟩
   have ho2 := hown.drawn g2 hlt
   have hg2 := grown_trans hg g2
   have ou2 : OwnR w2 w.heap.size u x := ou.low (by have := hg.size; omega)
   have hs2 := g2.size
   obtain ⟨au, cu, rfl, -⟩ := id ou2.own
   have HXL := Lib.hid hxl
   rw [hxl] at ou2
   rw [hxl]
   clear ou hown hxl
   go_wp2_with (fail)
   refine (below_any cur2 hl 4 (by omega)).mono ?_
   rintro e w3 ⟨t, ⟨ht0, ht1, _⟩, rfl, cur3, g3⟩
   obtain ⟨i0, rfl⟩ := Int.eq_ofNat_of_zero_le ht0
   have ho3 := ho2.drawn g3 hlt
   have ou3 := ou2.drawn g3 hlt
   have hg3 := grown_trans hg2 g3
   clear ho2 ou2
   go_wp2_with (fail)
   go_loopw [7, 10] (fun v i wr => ∃ (m : Nat) (Y : Rowi), i = .int .i64 ((m : Int) - 1) ∧ m ≤ 4 ∧ RwS wr w.heap.size v Y ∧ OwnR wr w.heap.size (.slice au n cu) x ∧ Y.length + m + 4 * (k - 1) ≤ 4 * most ∧ Rws n Y ∧ Cur wr B c len ∧ w.grownBy wr (some c)) (fun _ i _ => (intOf i + 1).toNat)
   case atStart => exact ⟨i0 + 1, X, by congr 1; omega, by omega, ho3, ou3, by omega, hX, cur3, hg3⟩
   case round =>
    clear ho3 ou3 hg3 cur3 hX
    obtain ⟨m, Y, rfl, hm4, hownY, hu, hleY, hY, curY, hgY⟩ := hrel
    obtain ⟨aY, cY, rfl, -⟩ := id hownY.rd
    have hszY := hgY.size
    by_cases hm0 : 0 < m
    ·have z0 : (0 : Int) ≤ (m : Int) - 1 := by omega
     obtain ⟨Y1, hY1⟩ : ∃ Y1, Y1 = Y ++ [x] := ⟨_, rfl⟩
     have HY := Lib.hid hY1
     have HL : Hid (Y1.length = Y.length + 1) := Lib.hid (by rw [hY1]; simp)
     have HR : Hid (Rws n Y1) := Lib.hid (by rw [hY1]; exact hY.snoc HXL.out hxi)
     clear hY1 hY
     go_wp2_with (at_builtin; refine app_rowS rfl _ _ rfl w.heap.size _ Y rfl hownY _ x hu rfl (by omega) hszY ?_; intro v5 w5 hown5 hu5 hb5; rw [← HY.out] at hown5; obtain ⟨a5, c5, rfl, -⟩ := id hown5.rd)
     go_roundw
     case rel => exact ⟨m - 1, Y1, by congr 1; omega, by omega, hown5, hu5, by have := HL.out; omega, HR.out, curY.low hb5 hlt, grown_low hgY hb5 (Nat.le_refl _)⟩
     case measure => simp [intOf]; omega
    ·have z0 : ¬ (0 : Int) ≤ (m : Int) - 1 := by omega
     obtain rfl : m = 0 := by omega
     go_wp2_with (fail)
     go_roundw
     case rel => exact ⟨k - 1, Y, by congr 1; omega, hownY, by omega, hY, curY, hgY⟩
     case measure => simp [intOf]; omega
  ·have hk' : ¬ (0 : Int) < (k : Int) := by omega
   go_wp2_with (fail)
   go_ret
   exact ⟨_, X, rfl, hown, by omega, hX, cur, hg⟩
theorem Cur.far {w w' : World} {B c len lo hi : Nat} (h : Cur w B c len) (hf : FarB lo hi w w') (h1 : B ≤ lo) (h2 : c < lo ∨ hi ≤ c) : Cur w' B c len := by
 have hlt := h.lt
 obtain ⟨hB, sl, i, h, hc, hi, hrd⟩ := h
 refine ⟨hB, sl, i, h, ?_, hi, hrd.keep fun k hk => hf.1.block k (by omega)⟩
 rcases h2 with h2 | h2
 ·rw [hf.1.block c h2]; exact hc
 ·rw [hf.2 c h2 hlt]; exact hc
theorem MadeCur.curLow {w0 w w' : World} {v : Value} {len : Nat} {e : Ending} (h : MadeCur w v e w') (hrd : RdC w0 v len) (hb : Below w0.heap.size w0 w) : Cur w' w0.heap.size w.heap.size len := by
 obtain ⟨h, _, rfl⟩ := h
 exact ⟨hb.size, v, 0, h, heap_alloc_new w _, Nat.zero_le _, (hrd.below.keep fun k hk => hb.block k hk).keep fun k hk => Below.heap_alloc w _ k (by have := hb.size; omega)⟩
theorem WrS.allD {w w' : World} {B : Nat} {v : Value} {xs : List (List UInt8)} (h : WrS w B v xs) (he : ∀ b, B ≤ b → b < w.heap.size → w'.heap[b]? = w.heap[b]?) : WrS w' B v xs := by
 obtain ⟨a, cap, rfl, h⟩ := h
 refine ⟨a, cap, rfl, ?_⟩
 by_cases hx : xs = []
 ·exact .inl hx
 ·obtain ⟨b, hB, rfl, hr⟩ := h.resolve_left hx
  have hb := he b hB (hr.lt hx)
  refine .inr ⟨b, hB, rfl, fun j hj => ?_, fun j hj => ?_⟩
  ·rw [World.cell?_of_block (w := w) hb]; exact hr.1 j hj
  ·rw [frozen_of_block hb]; exact hr.2 j hj
theorem OwnWIn.apart {w w' : World} {lo hi l1 h1 : Nat} {x : Wd} {vl vs vb : Value} (h : OwnWIn w l1 h1 x vl vs vb) (hf : FarB lo hi w w') (hd : hi ≤ l1 ∨ h1 ≤ lo) : OwnWIn w' l1 h1 x vl vs vb := by
 obtain ⟨a1, b1, a2, b2, a3, b3, c1, c2, c3, d1, d2, d3, e1, e2, e3, e4⟩ := h
 exact ⟨a1, b1, a2, b2, a3, b3, c1, c2, c3, d1, d2, d3, e1.apart2 e2 hf (by omega), e2, e3.apart2 hf (by omega), e4.apart2 hf (by omega)⟩
theorem RwS.putWd {w : World} {B : Nat} {v : Value} {X : Rowi} (h : RwS w B v X) {c : Nat} (hc : c < B) (y : Wd) (ul us ub : Value) : RwS (putW w c y ul us ub) B v X := by
 obtain ⟨vs, hl, ho, hr⟩ := h
 refine ⟨vs, hl, ?_, fun j h1 h2 => (hr j h1 h2).putW hc y ul us ub⟩
 unfold putW
 repeat (refine ownsRow_setCell_below ?_ (by simpa using hc) _)
 exact ho
def lv5 : List (List UInt8) := [[35, 35, 35, 35, 35, 35, 47, 35, 49, 46, 111, 50, 35, 47, 35, 46, 35, 35, 46, 35, 47, 35, 111, 46, 46, 111, 35, 47, 35, 35, 35, 35, 35, 35], [35, 35, 35, 35, 35, 35, 35, 35, 35, 35, 47, 35, 49, 46, 46, 111, 46, 46, 46, 50, 35, 47, 35, 46, 46, 35, 35, 46, 35, 35, 46, 35, 47, 35, 111, 46, 46, 51, 46, 46, 111, 52, 35, 47, 35, 35, 35, 35, 35, 35, 35, 35, 35, 35], [35, 35, 35, 35, 47, 35, 46, 46, 35, 47, 35, 35, 35, 35], [35, 35, 35, 35, 35, 35, 35, 35, 47, 35, 49, 46, 50, 46, 111, 111, 35, 47, 35, 35, 35, 35, 35, 35, 35, 35], [35, 35, 35, 35, 35, 35, 35, 47, 35, 46, 46, 111, 46, 46, 35, 47, 35, 46, 35, 35, 35, 46, 35, 47, 35, 46, 49, 46, 50, 46, 35, 47, 35, 35, 35, 35, 35, 35, 35]]
def Lv5 (L : Rowz) : Prop := ∃ l ∈ lv5, L = cutS l
theorem lv5_ok : ∀ k (hk : k < lv5.length), levelB (cutS lv5[k]) = true ∧ lv5[k].length ≤ 100 := by decide
theorem levels_any (w : World) : Calls Tryd.prog 33 #[] w fun e w' => e = .returned (.slice (some ⟨w.heap.size, 0, none⟩) 5 5) ∧ (∀ k (hk : k < lv5.length), w'.cell? ⟨w.heap.size, k, none⟩ = some (.string ⟨lv5[k].toArray⟩)) ∧ Below w.heap.size w w' := by
 have hC : ∀ k (hk : k < lv5.length), (w.alloc (.cells #[Value.string ⟨#[35, 35, 35, 35, 35, 35, 47, 35, 49, 46, 111, 50, 35, 47, 35, 46, 35, 35, 46, 35, 47, 35, 111, 46, 46, 111, 35, 47, 35, 35, 35, 35, 35, 35]⟩, Value.string ⟨#[35, 35, 35, 35, 35, 35, 35, 35, 35, 35, 47, 35, 49, 46, 46, 111, 46, 46, 46, 50, 35, 47, 35, 46, 46, 35, 35, 46, 35, 35, 46, 35, 47, 35, 111, 46, 46, 51, 46, 46, 111, 52, 35, 47, 35, 35, 35, 35, 35, 35, 35, 35, 35, 35]⟩, Value.string ⟨#[35, 35, 35, 35, 47, 35, 46, 46, 35, 47, 35, 35, 35, 35]⟩, Value.string ⟨#[35, 35, 35, 35, 35, 35, 35, 35, 47, 35, 49, 46, 50, 46, 111, 111, 35, 47, 35, 35, 35, 35, 35, 35, 35, 35]⟩, Value.string ⟨#[35, 35, 35, 35, 35, 35, 35, 47, 35, 46, 46, 111, 46, 46, 35, 47, 35, 46, 35, 35, 35, 46, 35, 47, 35, 46, 49, 46, 50, 46, 35, 47, 35, 35, 35, 35, 35, 35, 35]⟩] 9)).cell? ⟨w.heap.size, k, none⟩ = some (.string ⟨lv5[k].toArray⟩) := by
  intro k hk
  rw [World.cell?_alloc_mark]
  match k, hk with
  | 0, _ => rfl
  | 1, _ => rfl
  | 2, _ => rfl
  | 3, _ => rfl
  | 4, _ => rfl
 have hb := below1 w (.cells #[Value.string ⟨#[35, 35, 35, 35, 35, 35, 47, 35, 49, 46, 111, 50, 35, 47, 35, 46, 35, 35, 46, 35, 47, 35, 111, 46, 46, 111, 35, 47, 35, 35, 35, 35, 35, 35]⟩, Value.string ⟨#[35, 35, 35, 35, 35, 35, 35, 35, 35, 35, 47, 35, 49, 46, 46, 111, 46, 46, 46, 50, 35, 47, 35, 46, 46, 35, 35, 46, 35, 35, 46, 35, 47, 35, 111, 46, 46, 51, 46, 46, 111, 52, 35, 47, 35, 35, 35, 35, 35, 35, 35, 35, 35, 35]⟩, Value.string ⟨#[35, 35, 35, 35, 47, 35, 46, 46, 35, 47, 35, 35, 35, 35]⟩, Value.string ⟨#[35, 35, 35, 35, 35, 35, 35, 35, 47, 35, 49, 46, 50, 46, 111, 111, 35, 47, 35, 35, 35, 35, 35, 35, 35, 35]⟩, Value.string ⟨#[35, 35, 35, 35, 35, 35, 35, 47, 35, 46, 46, 111, 46, 46, 35, 47, 35, 46, 35, 35, 35, 46, 35, 47, 35, 46, 49, 46, 50, 46, 35, 47, 35, 35, 35, 35, 35, 35, 35]⟩] 9)
 go_enter Tryd.func33, Tryd.ntmps33
 go_wp2_with (fail)
 go_ret
 exact ⟨rfl, hC, hb⟩
def RetDl (w : World) (B c len : Nat) (e : Ending) (w' : World) : Prop := ∃ v L, e = .returned (.agg #[v]) ∧ WrS w' w.heap.size v L ∧ levelB L = true ∧ Sane L ∧ Cur w' B c len ∧ w.grownBy w' (some c) ∧ Lv5 L
set_option maxRecDepth 100000 in
set_option maxHeartbeats 4000000 in
theorem level_any {w : World} {B c len : Nat} (hcur : Cur w B c len) (hl : len ≤ 1048576) :
  Calls Tryd.prog 16 #[.pointer (some ⟨c, 0, none⟩)] w (RetDl w B c len) := by
 have hlt := hcur.lt
 obtain ⟨W0, hW, hA, hB0, -⟩ := rows1 w #[.slice none 0 0] 26
 have hs0 := hB0.size
 have hAl := (Array.getElem?_eq_some_iff.1 hA).1
 go_enter Tryd.func16, Tryd.ntmps16
 go_wp2_with (fail)
 try rw [hW]
 clear hW
 refine (levels_any W0).mono ?_
 rintro e w1 ⟨rfl, hC1, hb1⟩
 have hb01 := hB0.trans (hb1.mono hs0)
 have hA1 := keepHeap hb1 hA
 have cur1 := hcur.low hb01 hlt
 have hs1 := hb1.size
 go_wp2_with (fail)
 refine (below_any cur1 hl 5 (by omega)).mono ?_
 rintro e w2 ⟨t, ⟨ht0, ht1, _⟩, rfl, cur2, g2⟩
 obtain ⟨k, rfl⟩ := Int.eq_ofNat_of_zero_le ht0
 have hk5 : k < lv5.length := by show k < 5; omega
 have hk5' : (k : Int) < 5 := by omega
 have c2 : w2.cell? ⟨W0.heap.size, k, none⟩ = some (.string ⟨lv5[k].toArray⟩) := by
  have h0 := hC1 k hk5
  rw [← h0]
  have hlt0 : W0.heap.size < w1.heap.size := World.block_lt_of_cell? w1 _ h0
  exact World.cell?_of_block (w := w1) (g2.block W0.heap.size hlt0 (by intro e; injection e with e; omega))
 have h5 : Lv5 (cutS lv5[k]) := ⟨_, List.getElem_mem hk5, rfl⟩
 obtain ⟨hv, hln⟩ := lv5_ok k hk5
 have hA2 := (g2.block w.heap.size (by omega) (by intro e; injection e with e; omega)).trans hA1
 have hg2 : w.grownBy w2 (some c) := grown_trans ⟨hb01.os, hb01.tape, hb01.output, hb01.size, fun j hj _ => hb01.block j hj⟩ g2
 generalize lv5[k] = l at *
 have hps := parseLevel_spec l w2 (by omega)
 unfold ParsePost at hps
 rw [hv, if_pos rfl] at hps
 have hcs := cutS_sane l (by omega)
 generalize cutS l = L at *
 have hs2 := g2.size
 clear hC1
 go_wp2_with (fail)
 refine hps.mono ?_
 rintro e w3 ⟨v3, rfl, wr3, hb3⟩
 obtain ⟨a3, c3, rfl, -⟩ := id wr3.rd
 have hA3 := keepHeap hb3 hA2
 have cur3 := cur2.low hb3 cur2.lt
 have hg3 := grown_low hg2 hb3 (by omega)
 have hs3 := hb3.size
 go_upto_region 2 with (fail)
 obtain ⟨w4, hw4, hQ4, hb4⟩ : ∃ W, w3.alloc (.cells #[.slice a3 L.length c3] 26) = W ∧ W.heap[w3.heap.size]? = some (.cells #[.slice a3 L.length c3] 26 (0, 0)) ∧ Below w3.heap.size w3 W := ⟨_, rfl, heap_alloc_new w3 _, below1 w3 _⟩
 rw [hw4]
 clear hw4
 have hA4 := keepHeap hb4 hA3
 have cA4 := rowCells hA4
 have fA4 := frozenHeap hA4 0
 have cQ4 := rowCells hQ4
 have wr4 := wr3.keep hb4
 have cur4 := cur3.low hb4 cur3.lt
 have hg4 := grown_low hg3 hb4 (by omega)
 clear c2
 go_wp2_with (fail)
 have hb5 : Below w.heap.size w4 (w4.setCell ⟨w.heap.size, 0, none⟩ (.slice a3 L.length c3)) := (Below.refl _ _).setCell (p := ⟨w.heap.size, 0, none⟩) (Nat.le_refl _) _
 have c9 := rowCells (setHeap (k := 0) (v := .slice a3 L.length c3) hA4) 0
 refine bodyPost_ret (v := .agg #[.slice a3 L.length c3]) (by simp [results, Tryd.results16, go_sem, c9]) rfl ⟨_, L, rfl, ?_, hv, hcs, cur4.low hb5 hlt, grown_low hg4 hb5 (Nat.le_refl _), h5⟩
 exact (wr4.allD (fun b hb hl => (Below.heap_setCell _ _ _ b (by show b ≠ w.heap.size; omega)))).up (by omega)
def PlayOk (L : Rowz) (n : Nat) (s : Int) (X : Rowi) : Prop := levelB L = true ∧ Sane L ∧ (1 ≤ n ∧ n ≤ 4) ∧ (0 ≤ s ∧ s ≤ 65535) ∧ X.length ≤ 96 ∧ Rws n X ∧ Lv5 L
def RetPlayC (w : World) (e : Ending) (w' : World) : Prop := ∃ (L : Rowz) (n : Nat) (s : Int) (vl vs vb v : Value) (X : Rowi), e = .returned (.tuple #[.agg (wdC (nwX L n s) vl vs vb), v]) ∧ RdW w' (nwX L n s) vl vs vb ∧ RdR w' v X ∧ Below w.heap.size w w' ∧ PlayOk L n s X ∧ CapI vl
set_option maxRecDepth 100000 in
set_option maxHeartbeats 8000000 in
theorem drawPlay_cap {w : World} {v : Value} {len : Nat} (hrd : RdC w v len) (hl : len ≤ 1048576) :
  Calls Tryd.prog 5 #[v] w (RetPlayC w) := by
 obtain ⟨av, cv, e0, -⟩ := id hrd
 subst e0
 obtain ⟨w0, hW, hR0, hb0, -⟩ := rows1 w #[.slice none 0 0, .int .i64 0, .int .i64 0, .slice none 0 0, .slice none 0 0] 30
 have hs0 := hb0.size
 have hR0l := (Array.getElem?_eq_some_iff.1 hR0).1
 go_enter Tryd.func5, Tryd.ntmps5
 go_wp2_with (fail)
 try rw [hW]
 clear hW
 refine (new_any (hrd.keep hb0) hl).mono ?_
 rintro e w1 hm1
 have cur1 := hm1.curLow hrd hb0
 obtain ⟨hh, rfl, hw1⟩ := hm1
 have hb1 : Below w0.heap.size w0 w1 := by rw [hw1]; exact below1 w0 _
 clear hw1
 obtain ⟨c, hc⟩ : ∃ c, c = w0.heap.size := ⟨_, rfl⟩
 rw [← hc] at cur1 ⊢
 have hcw : w.heap.size + 1 ≤ c := by omega
 have hR1 := keepHeap hb1 hR0
 have bw1 := hb0.trans (hb1.mono hs0)
 clear hR0 hR0l hb1 hb0 hc hs0
 go_wp2_with (fail)
 refine (level_any cur1 hl).mono ?_
 rintro e w2 ⟨vL, L, rfl, hwl, hlv, hsn, cur2, g2, h5⟩
 have far2 : FarB c (c + 1) w1 w2 := ⟨(Below.refl c _).grown g2 (by have := cur1.lt; omega) (fun k hk => by injection hk with hk; omega), fun j hj hl => g2.block j hl (by intro e; injection e with e; omega)⟩
 have bw2 := bw1.trans (far2.1.mono (by omega))
 have hR2 := keepHeapFar far2 hR1 (by omega)
 have hc1 := cur1.lt
 obtain ⟨a1, c1, e0, -⟩ := id hwl.rd
 subst e0
 have hfew : L.length ≤ 1048576 := by have := (levelB_facts hlv).2.1; omega
 clear hR1 bw1 far2 g2
 go_upto_region 3 with (fail)
 obtain ⟨w3, hw3, hL3, hb3⟩ : ∃ W, w2.alloc (.cells #[.slice a1 L.length c1] 26) = W ∧ W.heap[w2.heap.size]? = some (.cells #[.slice a1 L.length c1] 26 (0, 0)) ∧ Below w2.heap.size w2 W := ⟨_, rfl, heap_alloc_new w2 _, below1 w2 _⟩
 rw [hw3]
 clear hw3
 have cur3 := cur2.low hb3 cur2.lt
 have hc2 := cur2.lt
 have rl3 := hwl.keep hb3
 have hR3 := keepHeap hb3 hR2
 have bw3 := bw2.trans (hb3.mono bw2.size)
 obtain ⟨q, hq⟩ : ∃ q, q = w2.heap.size := ⟨_, rfl⟩
 rw [← hq] at hL3 ⊢
 have hqc : c < q := by omega
 clear hq hwl hR2 bw2 cur2 hb3
 go_wp2_with (fail)
 refine (below_any cur3 hl 4 (by omega)).mono ?_
 rintro e w4 ⟨t, ⟨ht0, ht1, _⟩, rfl, cur4, g4⟩
 have far4 : FarB c (c + 1) w3 w4 := ⟨(Below.refl c _).grown g4 (by have := cur3.lt; omega) (fun k hk => by injection hk with hk; omega), fun j hj hl => g4.block j hl (by intro e; injection e with e; omega)⟩
 have bw4 := bw3.trans (far4.1.mono (by omega))
 have hR4 := keepHeapFar far4 hR3 (by omega)
 have hL4 := keepHeapFar far4 hL3 (by omega)
 obtain ⟨Bl, hBl⟩ : ∃ Bl, Bl = w1.heap.size := ⟨_, rfl⟩
 rw [← hBl] at rl3 hc1
 have rl4 := rl3.allD (w' := w4) (fun b hb hl => far4.2 b (by omega) hl)
 obtain ⟨n0, rfl⟩ := Int.eq_ofNat_of_zero_le ht0
 have hn4 : n0 ≤ 3 := by omega
 clear hR3 hL3 rl3 bw3 far4 g4 cur3 hBl
 go_upto_region 4 with (fail)
 have en : (1 : Int) + (n0 : Int) = ((n0 + 1 : Nat) : Int) := by omega
 rw [en]
 obtain ⟨n, hn⟩ : ∃ n, n = n0 + 1 := ⟨_, rfl⟩
 rw [← hn]
 have hn1 : 1 ≤ n ∧ n ≤ 4 := by omega
 clear en hn ht0 ht1 hn4
 have hL := hL4
 have hR := hR4
 have bw_0 : Below w.heap.size w w4.drew := bw4.trans ((belowDrew w4 1).mono bw4.size)
 have cur_0 : Cur w4.drew w.heap.size c len := cur4
 have rl_0 := rl4.keep (belowDrew w4 1)
 clear hL4 hR4 bw4 cur4 rl4
 have bs_0 : Below w4.heap.size w4 w4.drew := belowDrew w4 1
 have hL_0 : w4.drew.heap[q]? = _ := hL
 have hR_0 : w4.drew.heap[w.heap.size]? = _ := hR
 refine wp_region_held_drew (S := (fun w' => ∀ j, w'.cell? ⟨q, j, none⟩ = #[Value.slice a1 L.length c1][j]?)) (by kernel_rfl) ?_ (fun hHeld => ?_)
 ·exact rowCells hL_0
 refine tk 0 17 ?_
 (try simp only [zP, zA, zB, zC])
 refine tk 1 18 ?_
 (try simp only [zP, zA, zB, zC])
 refine tk 2 19 ?_
 (try simp only [zP, zA, zB, zC])
 refine wpAnyH_ready (rs := [3, 8]) (by kernel_rfl) (by simp) ?_
 refine AllReadyH.cons rfl (fun K hK => ?_) (AllReadyH.cons rfl (fun K hK => ?_) AllReadyH.nil)
 ·go_simp
  refine (below_any cur_0 hl 65536 (by omega)).mono ?_
  rintro e w_1 ⟨s, ⟨hs0, hs1, _⟩, rfl, cur_1, g_1⟩
  have far_1 : FarB c (c + 1) w4.drew w_1 := ⟨(Below.refl c _).grown g_1 (by have := cur_0.lt; omega) (fun k hk => by injection hk with hk; omega), fun j hj hl => g_1.block j hl (by intro e; injection e with e; omega)⟩
  have bw_1 := bw_0.trans (far_1.1.mono (by omega))
  have sz_1 := far_1.1.size
  have hL_1 := keepHeapFar far_1 hL_0 (by omega)
  have hR_1 := keepHeapFar far_1 hR_0 (by omega)
  have rl_1 := rl_0.allD (fun b hb hl => far_1.2 b (by omega) hl)
  clear far_1 g_1
  (try go_wp2_with (fail))
  refine hK.out _ _ ?_ (fun hHeld => ?_)
  ·exact rowCells hL_1
  clear hK K
  (try simp only [zP, zA, zB, zC])
  refine wpAnyH_ready (rs := [4, 8]) (by kernel_rfl) (by simp) ?_
  refine AllReadyH.cons rfl (fun K hK => ?_) (AllReadyH.cons rfl (fun K hK => ?_) AllReadyH.nil)
  ·go_simp
   refine (newWorld_spec rl_1.rd hsn hfew (n : Int) s (by omega)).mono ?_
   rintro e w_2 ⟨vl1, vs1, vb1, rfl, ow_2, ⟨HCAP, -, -⟩, hb_2⟩
   have far_2 : FarB c (c + 1) w_1 w_2 := FarB.of_below hb_2 (by have := cur_1.lt; omega)
   have bw_2 := bw_1.trans (far_2.1.mono (by omega))
   have sz_2 := far_2.1.size
   have hL_2 := keepHeapFar far_2 hL_1 (by omega)
   have hR_2 := keepHeapFar far_2 hR_1 (by omega)
   have rl_2 := rl_1.allD (fun b hb hl => far_2.2 b (by omega) hl)
   have cur_2 := cur_1.low hb_2 cur_1.lt
   obtain ⟨lo0, hi0, ow_2, hlo, hhi, hlo2⟩ : ∃ lo hi, OwnWIn w_2 lo hi (nwX L n s) vl1 vs1 vb1 ∧ c + 1 ≤ lo ∧ hi ≤ w_2.heap.size ∧ w_1.heap.size ≤ lo := ⟨_, _, ow_2, by have := cur_1.lt; omega, Nat.le_refl _, Nat.le_refl _⟩
   have hrd1 := ow_2.rd
   obtain ⟨al1, cl1, e0, -⟩ := id hrd1.1
   subst e0
   obtain ⟨aq1, cq1, e0, -⟩ := id hrd1.2.1
   subst e0
   obtain ⟨ab1, cb1, e0, -⟩ := id hrd1.2.2
   subst e0
   clear hrd1
   unfold wdC
   (try go_wp2_with (fail))
   refine hK.out _ _ ?_ (fun hHeld => ?_)
   ·exact rowCells hL_2
   clear hK K
   (try simp only [zP, zA, zB, zC])
   refine tk 5 16 ?_
   (try simp only [zP, zA, zB, zC])
   refine tk 6 22 ?_
   (try simp only [zP, zA, zB, zC])
   refine tk 7 23 ?_
   (try simp only [zP, zA, zB, zC])
   refine wpAnyH_ready (rs := [8]) (by kernel_rfl) (by simp) ?_
   refine AllReadyH.cons rfl (fun K hK => ?_) AllReadyH.nil
   go_simp
   obtain ⟨w_3, hw_3, P_3, hb_3⟩ : ∃ W, w_2.alloc (.cells #[.slice none 0 0, .int .i64 0, .int .i64 0, .slice none 0 0, .slice none 0 0] 30) = W ∧ W.heap[w_2.heap.size]? = some (.cells #[.slice none 0 0, .int .i64 0, .int .i64 0, .slice none 0 0, .slice none 0 0] 30 (0, 0)) ∧ Below w_2.heap.size w_2 W := ⟨_, rfl, heap_alloc_new w_2 _, below1 w_2 _⟩
   try rw [hw_3]
   clear hw_3
   have far_3 : FarB c (c + 1) w_2 w_3 := FarB.of_below hb_3 (by have := cur_2.lt; omega)
   have bw_3 := bw_2.trans (far_3.1.mono (by omega))
   have sz_3 := far_3.1.size
   have hL_3 := keepHeapFar far_3 hL_2 (by omega)
   have hR_3 := keepHeapFar far_3 hR_2 (by omega)
   have rl_3 := rl_2.allD (fun b hb hl => far_3.2 b (by omega) hl)
   have ow_3 := ow_2.afar far_3 (by omega)
   have cur_3 := cur_2.low hb_3 cur_2.lt
   have hpl_3 := (Array.getElem?_eq_some_iff.1 P_3).1
   have hpq : q < w_2.heap.size := by have := (Array.getElem?_eq_some_iff.1 hL_2).1; first | omega | (simp at this; omega)
   have hpc : c < w_2.heap.size := by have := cur_2.lt; first | omega | (simp at this; omega)
   have hpw : w.heap.size + 1 ≤ w_2.heap.size := by have := (Array.getElem?_eq_some_iff.1 hR_2).1; first | omega | (simp at this; omega)
   have hpo : hi0 ≤ w_2.heap.size := by first | omega | (simp at hhi; omega)
   refine hK.out _ _ ?_ (fun hHeld => ?_)
   ·exact rowCells hL_3
   clear hK K
   (try simp only [zP, zA, zB, zC])
   refine wpAnyH_ready (rs := [9]) (by kernel_rfl) (by simp) ?_
   refine AllReadyH.cons rfl (fun K hK => ?_) AllReadyH.nil
   have cn := rowCells P_3
   have fn := fun j => frozenHeap P_3 j
   go_simp
   have F_4 := putW_farB w_3 (w_2.heap.size) (nwX L n s) (.slice al1 (nwX L n s).rows.length cl1) (.slice aq1 (nwX L n s).scores.length cq1) (.slice ab1 (nwX L n s).bods.length cb1)
   have P_4 := putW_heap P_3 rfl (nwX L n s) (.slice al1 (nwX L n s).rows.length cl1) (.slice aq1 (nwX L n s).scores.length cq1) (.slice ab1 (nwX L n s).bods.length cb1)
   have hL_4 := keepHeapFar F_4 hL_3 (by omega)
   have hR_4 := keepHeapFar F_4 hR_3 (by omega)
   have bw_4 := putW_below bw_3 (c := w_2.heap.size) (by omega) (nwX L n s) (.slice al1 (nwX L n s).rows.length cl1) (.slice aq1 (nwX L n s).scores.length cq1) (.slice ab1 (nwX L n s).bods.length cb1)
   have cur_4 := cur_3.low F_4.1 (by omega)
   have ow_4 := ow_3.apart F_4 (by omega)
   obtain ⟨w_4, hw_4⟩ : ∃ W, putW w_3 (w_2.heap.size) (nwX L n s) (.slice al1 (nwX L n s).rows.length cl1) (.slice aq1 (nwX L n s).scores.length cq1) (.slice ab1 (nwX L n s).bods.length cb1) = W := ⟨_, rfl⟩
   rw [hw_4] at P_4 hL_4 hR_4 bw_4 cur_4 ow_4
   unfold putW at hw_4
   try rw [hw_4]
   clear hw_4 cn fn F_4
   refine hK.out _ _ ?_ (fun hHeld => ?_)
   ·exact rowCells hL_4
   clear hK K
   (try simp only [zP, zA, zB, zC])
   refine tk 10 8 ?_
   (try simp only [zP, zA, zB, zC])
   refine wpAnyH_done (by kernel_rfl) ?_ _
   have hPz := P_4
   unfold wdC at hPz
   have cPz := rowCells hPz
   go_upto_region 5 with (fail)
   clear cPz
   obtain ⟨w_z, ew⟩ : ∃ w_z, w_z = w_4 := ⟨_, rfl⟩
   rw [← ew] at hPz hR_4 bw_4 cur_4 ow_4 ⊢
   have P := hPz
   have hR := hR_4
   have bwz := bw_4
   have curz := cur_4
   have owz := ow_4
   have hpl := (Array.getElem?_eq_some_iff.1 P).1
   have hdz : w_z.drew.heap.size = w_z.heap.size := rfl
   clear ew hL_4 P_4 hR_4 bw_4 cur_4 ow_4 hPz
   have bw_0 : Below w.heap.size w w_z.drew := bwz.trans ((belowDrew w_z 1).mono bwz.size)
   have cur_0 : Cur w_z.drew w.heap.size c len := curz
   have ow_0 := owz.keep (belowDrew w_z 1)
   have bs_0 : Below w_z.heap.size w_z w_z.drew := belowDrew w_z 1
   have P_0 : w_z.drew.heap[w_2.heap.size]? = _ := P
   have hR_0 : w_z.drew.heap[w.heap.size]? = _ := hR
   refine wp_region_held_drew (S := (fun w' => ∀ j, w'.cell? ⟨w_2.heap.size, j, none⟩ = #[Value.slice al1 (nwX L n s).rows.length cl1, .int .i64 (nwX L n s).tick, .int .i64 (nwX L n s).seed, .slice aq1 (nwX L n s).scores.length cq1, .slice ab1 (nwX L n s).bods.length cb1][j]?)) (by kernel_rfl) ?_ (fun hHeld => ?_)
   ·exact rowCells P_0
   refine tk 0 24 ?_
   (try simp only [zP, zA, zB, zC])
   refine tk 1 25 ?_
   (try simp only [zP, zA, zB, zC])
   refine tk 2 26 ?_
   (try simp only [zP, zA, zB, zC])
   refine wpAnyH_ready (rs := [3]) (by kernel_rfl) (by simp) ?_
   refine AllReadyH.cons rfl (fun K hK => ?_) AllReadyH.nil
   go_simp
   refine (rows_any cur_0 hl n (by omega) 24 (by omega)).mono ?_
   rintro e w_1 ⟨v5, X, rfl, rs_1, hXl, hXr, cur_1, g_1⟩
   have far_1 : FarB c (c + 1) w_z.drew w_1 := ⟨(Below.refl c _).grown g_1 (by have := cur_0.lt; omega) (fun k hk => by injection hk with hk; omega), fun j hj hl => g_1.block j hl (by intro e; injection e with e; omega)⟩
   have bw_1 := bw_0.trans (far_1.1.mono (by omega))
   have sz_1 := far_1.1.size
   have P_1 := keepHeapFar far_1 P_0 (by omega)
   have hR_1 := keepHeapFar far_1 hR_0 (by omega)
   have ow_1 := ow_0.afar far_1 (by omega)
   clear far_1 g_1
   obtain ⟨a5, c5, rfl, -⟩ := id rs_1.rd
   (try go_wp2_with (fail))
   refine hK.out _ _ ?_ (fun hHeld => ?_)
   ·exact rowCells P_1
   clear hK K
   (try simp only [zP, zA, zB, zC])
   refine wpAnyH_ready (rs := [4]) (by kernel_rfl) (by simp) ?_
   refine AllReadyH.cons rfl (fun K hK => ?_) AllReadyH.nil
   have cn := rowCells hR_1
   have fn := fun j => frozenHeap hR_1 j
   go_simp
   have F_2 := putW_farB w_1 w.heap.size (nwX L n s) (.slice al1 (nwX L n s).rows.length cl1) (.slice aq1 (nwX L n s).scores.length cq1) (.slice ab1 (nwX L n s).bods.length cb1)
   have hR_2 := putW_heap hR_1 rfl (nwX L n s) (.slice al1 (nwX L n s).rows.length cl1) (.slice aq1 (nwX L n s).scores.length cq1) (.slice ab1 (nwX L n s).bods.length cb1)
   have P_2 := keepHeapFar F_2 P_1 (by omega)
   have bw_2 := putW_below bw_1 (c := w.heap.size) (Nat.le_refl _) (nwX L n s) (.slice al1 (nwX L n s).rows.length cl1) (.slice aq1 (nwX L n s).scores.length cq1) (.slice ab1 (nwX L n s).bods.length cb1)
   have cur_2 := cur_1.far F_2 (Nat.le_refl _) (.inr (by omega))
   have ow_2 := ow_1.afar F_2 (by omega)
   have rs_2 := rs_1.putWd (c := w.heap.size) (by omega) (nwX L n s) (.slice al1 (nwX L n s).rows.length cl1) (.slice aq1 (nwX L n s).scores.length cq1) (.slice ab1 (nwX L n s).bods.length cb1)
   obtain ⟨w_2, hw_2⟩ : ∃ W, putW w_1 w.heap.size (nwX L n s) (.slice al1 (nwX L n s).rows.length cl1) (.slice aq1 (nwX L n s).scores.length cq1) (.slice ab1 (nwX L n s).bods.length cb1) = W := ⟨_, rfl⟩
   rw [hw_2] at P_2 hR_2 bw_2 cur_2 ow_2 rs_2
   unfold putW at hw_2
   try rw [hw_2]
   clear hw_2 cn fn F_2
   refine hK.out _ _ ?_ (fun hHeld => ?_)
   ·exact rowCells P_2
   clear hK K
   (try simp only [zP, zA, zB, zC])
   refine tk 5 3 ?_
   (try simp only [zP, zA, zB, zC])
   refine wpAnyH_done (by kernel_rfl) ?_ _
   have rsw := rs_2.rd
   have hLd := load_wd hR_2 rfl
   have HRW := Lib.hid ow_2.rd
   have HBW := Lib.hid bw_2
   clear ow_2 bw_2 P_2
   unfold wdC at hLd
   go_wp2_with (fail)
   refine bodyPost_ret (v := .tuple #[.agg #[Value.slice al1 (nwX L n s).rows.length cl1, .int .i64 (nwX L n s).tick, .int .i64 (nwX L n s).seed, .slice aq1 (nwX L n s).scores.length cq1, .slice ab1 (nwX L n s).bods.length cb1], .slice a5 X.length c5]) (results_two rfl _ _ _ _ _ rfl rfl hLd) rfl ⟨L, n, s, _, _, _, _, X, rfl, HRW.out, rsw, HBW.out, ⟨hlv, hsn, by omega, by omega, hXl, hXr, h5⟩, HCAP⟩
  ·go_simp
   obtain ⟨w_2, hw_2, P_2, hb_2⟩ : ∃ W, w_1.alloc (.cells #[.slice none 0 0, .int .i64 0, .int .i64 0, .slice none 0 0, .slice none 0 0] 30) = W ∧ W.heap[w_1.heap.size]? = some (.cells #[.slice none 0 0, .int .i64 0, .int .i64 0, .slice none 0 0, .slice none 0 0] 30 (0, 0)) ∧ Below w_1.heap.size w_1 W := ⟨_, rfl, heap_alloc_new w_1 _, below1 w_1 _⟩
   try rw [hw_2]
   clear hw_2
   have far_2 : FarB c (c + 1) w_1 w_2 := FarB.of_below hb_2 (by have := cur_1.lt; omega)
   have bw_2 := bw_1.trans (far_2.1.mono (by omega))
   have sz_2 := far_2.1.size
   have hL_2 := keepHeapFar far_2 hL_1 (by omega)
   have hR_2 := keepHeapFar far_2 hR_1 (by omega)
   have rl_2 := rl_1.allD (fun b hb hl => far_2.2 b (by omega) hl)
   have cur_2 := cur_1.low hb_2 cur_1.lt
   have hpl_2 := (Array.getElem?_eq_some_iff.1 P_2).1
   have hpq : q < w_1.heap.size := by have := (Array.getElem?_eq_some_iff.1 hL_1).1; first | omega | (simp at this; omega)
   have hpc : c < w_1.heap.size := by have := cur_1.lt; first | omega | (simp at this; omega)
   have hpw : w.heap.size + 1 ≤ w_1.heap.size := by have := (Array.getElem?_eq_some_iff.1 hR_1).1; first | omega | (simp at this; omega)
   refine hK.out _ _ ?_ (fun hHeld => ?_)
   ·exact rowCells hL_2
   clear hK K
   (try simp only [zP, zA, zB, zC])
   refine wpAnyH_ready (rs := [4]) (by kernel_rfl) (by simp) ?_
   refine AllReadyH.cons rfl (fun K hK => ?_) AllReadyH.nil
   go_simp
   refine (newWorld_spec rl_2.rd hsn hfew (n : Int) s (by omega)).mono ?_
   rintro e w_3 ⟨vl1, vs1, vb1, rfl, ow_3, ⟨HCAP, -, -⟩, hb_3⟩
   have far_3 : FarB c (c + 1) w_2 w_3 := FarB.of_below hb_3 (by have := cur_2.lt; omega)
   have bw_3 := bw_2.trans (far_3.1.mono (by omega))
   have sz_3 := far_3.1.size
   have hL_3 := keepHeapFar far_3 hL_2 (by omega)
   have hR_3 := keepHeapFar far_3 hR_2 (by omega)
   have P_3 := keepHeapFar far_3 P_2 (by omega)
   have rl_3 := rl_2.allD (fun b hb hl => far_3.2 b (by omega) hl)
   have cur_3 := cur_2.low hb_3 cur_2.lt
   obtain ⟨lo0, hi0, ow_3, hlo, hhi, hlo2⟩ : ∃ lo hi, OwnWIn w_3 lo hi (nwX L n s) vl1 vs1 vb1 ∧ c + 1 ≤ lo ∧ hi ≤ w_3.heap.size ∧ w_2.heap.size ≤ lo := ⟨_, _, ow_3, by have := cur_2.lt; omega, Nat.le_refl _, Nat.le_refl _⟩
   have hrd1 := ow_3.rd
   obtain ⟨al1, cl1, e0, -⟩ := id hrd1.1
   subst e0
   obtain ⟨aq1, cq1, e0, -⟩ := id hrd1.2.1
   subst e0
   obtain ⟨ab1, cb1, e0, -⟩ := id hrd1.2.2
   subst e0
   clear hrd1
   unfold wdC
   (try go_wp2_with (fail))
   refine hK.out _ _ ?_ (fun hHeld => ?_)
   ·exact rowCells hL_3
   clear hK K
   (try simp only [zP, zA, zB, zC])
   refine tk 5 16 ?_
   (try simp only [zP, zA, zB, zC])
   refine tk 6 22 ?_
   (try simp only [zP, zA, zB, zC])
   refine tk 7 23 ?_
   (try simp only [zP, zA, zB, zC])
   refine wpAnyH_ready (rs := [9]) (by kernel_rfl) (by simp) ?_
   refine AllReadyH.cons rfl (fun K hK => ?_) AllReadyH.nil
   have cn := rowCells P_3
   have fn := fun j => frozenHeap P_3 j
   go_simp
   have F_4 := putW_farB w_3 (w_1.heap.size) (nwX L n s) (.slice al1 (nwX L n s).rows.length cl1) (.slice aq1 (nwX L n s).scores.length cq1) (.slice ab1 (nwX L n s).bods.length cb1)
   have P_4 := putW_heap P_3 rfl (nwX L n s) (.slice al1 (nwX L n s).rows.length cl1) (.slice aq1 (nwX L n s).scores.length cq1) (.slice ab1 (nwX L n s).bods.length cb1)
   have hL_4 := keepHeapFar F_4 hL_3 (by omega)
   have hR_4 := keepHeapFar F_4 hR_3 (by omega)
   have bw_4 := putW_below bw_3 (c := w_1.heap.size) (by omega) (nwX L n s) (.slice al1 (nwX L n s).rows.length cl1) (.slice aq1 (nwX L n s).scores.length cq1) (.slice ab1 (nwX L n s).bods.length cb1)
   have cur_4 := cur_3.low F_4.1 (by omega)
   have ow_4 := ow_3.apart F_4 (by omega)
   obtain ⟨w_4, hw_4⟩ : ∃ W, putW w_3 (w_1.heap.size) (nwX L n s) (.slice al1 (nwX L n s).rows.length cl1) (.slice aq1 (nwX L n s).scores.length cq1) (.slice ab1 (nwX L n s).bods.length cb1) = W := ⟨_, rfl⟩
   rw [hw_4] at P_4 hL_4 hR_4 bw_4 cur_4 ow_4
   unfold putW at hw_4
   try rw [hw_4]
   clear hw_4 cn fn F_4
   refine hK.out _ _ ?_ (fun hHeld => ?_)
   ·exact rowCells hL_4
   clear hK K
   (try simp only [zP, zA, zB, zC])
   refine tk 10 8 ?_
   (try simp only [zP, zA, zB, zC])
   refine wpAnyH_done (by kernel_rfl) ?_ _
   have hPz := P_4
   unfold wdC at hPz
   have cPz := rowCells hPz
   go_upto_region 5 with (fail)
   clear cPz
   obtain ⟨w_z, ew⟩ : ∃ w_z, w_z = w_4 := ⟨_, rfl⟩
   rw [← ew] at hPz hR_4 bw_4 cur_4 ow_4 ⊢
   have P := hPz
   have hR := hR_4
   have bwz := bw_4
   have curz := cur_4
   have owz := ow_4
   have hpl := (Array.getElem?_eq_some_iff.1 P).1
   have hdz : w_z.drew.heap.size = w_z.heap.size := rfl
   clear ew hL_4 P_4 hR_4 bw_4 cur_4 ow_4 hPz
   have bw_0 : Below w.heap.size w w_z.drew := bwz.trans ((belowDrew w_z 1).mono bwz.size)
   have cur_0 : Cur w_z.drew w.heap.size c len := curz
   have ow_0 := owz.keep (belowDrew w_z 1)
   have bs_0 : Below w_z.heap.size w_z w_z.drew := belowDrew w_z 1
   have P_0 : w_z.drew.heap[w_1.heap.size]? = _ := P
   have hR_0 : w_z.drew.heap[w.heap.size]? = _ := hR
   refine wp_region_held_drew (S := (fun w' => ∀ j, w'.cell? ⟨w_1.heap.size, j, none⟩ = #[Value.slice al1 (nwX L n s).rows.length cl1, .int .i64 (nwX L n s).tick, .int .i64 (nwX L n s).seed, .slice aq1 (nwX L n s).scores.length cq1, .slice ab1 (nwX L n s).bods.length cb1][j]?)) (by kernel_rfl) ?_ (fun hHeld => ?_)
   ·exact rowCells P_0
   refine tk 0 24 ?_
   (try simp only [zP, zA, zB, zC])
   refine tk 1 25 ?_
   (try simp only [zP, zA, zB, zC])
   refine tk 2 26 ?_
   (try simp only [zP, zA, zB, zC])
   refine wpAnyH_ready (rs := [3]) (by kernel_rfl) (by simp) ?_
   refine AllReadyH.cons rfl (fun K hK => ?_) AllReadyH.nil
   go_simp
   refine (rows_any cur_0 hl n (by omega) 24 (by omega)).mono ?_
   rintro e w_1 ⟨v5, X, rfl, rs_1, hXl, hXr, cur_1, g_1⟩
   have far_1 : FarB c (c + 1) w_z.drew w_1 := ⟨(Below.refl c _).grown g_1 (by have := cur_0.lt; omega) (fun k hk => by injection hk with hk; omega), fun j hj hl => g_1.block j hl (by intro e; injection e with e; omega)⟩
   have bw_1 := bw_0.trans (far_1.1.mono (by omega))
   have sz_1 := far_1.1.size
   have P_1 := keepHeapFar far_1 P_0 (by omega)
   have hR_1 := keepHeapFar far_1 hR_0 (by omega)
   have ow_1 := ow_0.afar far_1 (by omega)
   clear far_1 g_1
   obtain ⟨a5, c5, rfl, -⟩ := id rs_1.rd
   (try go_wp2_with (fail))
   refine hK.out _ _ ?_ (fun hHeld => ?_)
   ·exact rowCells P_1
   clear hK K
   (try simp only [zP, zA, zB, zC])
   refine wpAnyH_ready (rs := [4]) (by kernel_rfl) (by simp) ?_
   refine AllReadyH.cons rfl (fun K hK => ?_) AllReadyH.nil
   have cn := rowCells hR_1
   have fn := fun j => frozenHeap hR_1 j
   go_simp
   have F_2 := putW_farB w_1 w.heap.size (nwX L n s) (.slice al1 (nwX L n s).rows.length cl1) (.slice aq1 (nwX L n s).scores.length cq1) (.slice ab1 (nwX L n s).bods.length cb1)
   have hR_2 := putW_heap hR_1 rfl (nwX L n s) (.slice al1 (nwX L n s).rows.length cl1) (.slice aq1 (nwX L n s).scores.length cq1) (.slice ab1 (nwX L n s).bods.length cb1)
   have P_2 := keepHeapFar F_2 P_1 (by omega)
   have bw_2 := putW_below bw_1 (c := w.heap.size) (Nat.le_refl _) (nwX L n s) (.slice al1 (nwX L n s).rows.length cl1) (.slice aq1 (nwX L n s).scores.length cq1) (.slice ab1 (nwX L n s).bods.length cb1)
   have cur_2 := cur_1.far F_2 (Nat.le_refl _) (.inr (by omega))
   have ow_2 := ow_1.afar F_2 (by omega)
   have rs_2 := rs_1.putWd (c := w.heap.size) (by omega) (nwX L n s) (.slice al1 (nwX L n s).rows.length cl1) (.slice aq1 (nwX L n s).scores.length cq1) (.slice ab1 (nwX L n s).bods.length cb1)
   obtain ⟨w_2, hw_2⟩ : ∃ W, putW w_1 w.heap.size (nwX L n s) (.slice al1 (nwX L n s).rows.length cl1) (.slice aq1 (nwX L n s).scores.length cq1) (.slice ab1 (nwX L n s).bods.length cb1) = W := ⟨_, rfl⟩
   rw [hw_2] at P_2 hR_2 bw_2 cur_2 ow_2 rs_2
   unfold putW at hw_2
   try rw [hw_2]
   clear hw_2 cn fn F_2
   refine hK.out _ _ ?_ (fun hHeld => ?_)
   ·exact rowCells P_2
   clear hK K
   (try simp only [zP, zA, zB, zC])
   refine tk 5 3 ?_
   (try simp only [zP, zA, zB, zC])
   refine wpAnyH_done (by kernel_rfl) ?_ _
   have rsw := rs_2.rd
   have hLd := load_wd hR_2 rfl
   have HRW := Lib.hid ow_2.rd
   have HBW := Lib.hid bw_2
   clear ow_2 bw_2 P_2
   unfold wdC at hLd
   go_wp2_with (fail)
   refine bodyPost_ret (v := .tuple #[.agg #[Value.slice al1 (nwX L n s).rows.length cl1, .int .i64 (nwX L n s).tick, .int .i64 (nwX L n s).seed, .slice aq1 (nwX L n s).scores.length cq1, .slice ab1 (nwX L n s).bods.length cb1], .slice a5 X.length c5]) (results_two rfl _ _ _ _ _ rfl rfl hLd) rfl ⟨L, n, s, _, _, _, _, X, rfl, HRW.out, rsw, HBW.out, ⟨hlv, hsn, by omega, by omega, hXl, hXr, h5⟩, HCAP⟩
 ·go_simp
  obtain ⟨w_1, hw_1, P_1, hb_1⟩ : ∃ W, (w4.alloc (.cells #[.slice none 0 0, .int .i64 0, .int .i64 0, .slice none 0 0, .slice none 0 0] 30)).drew = W ∧ W.heap[w4.heap.size]? = some (.cells #[.slice none 0 0, .int .i64 0, .int .i64 0, .slice none 0 0, .slice none 0 0] 30 (0, 0)) ∧ Below w4.drew.heap.size w4.drew W := ⟨_, rfl, heap_alloc_new w4.drew _, below1 w4.drew _⟩
  try rw [hw_1]
  clear hw_1
  have far_1 : FarB c (c + 1) w4.drew w_1 := FarB.of_below hb_1 (by have := cur_0.lt; omega)
  have bw_1 := bw_0.trans (far_1.1.mono (by omega))
  have sz_1 := far_1.1.size
  have hL_1 := keepHeapFar far_1 hL_0 (by omega)
  have hR_1 := keepHeapFar far_1 hR_0 (by omega)
  have rl_1 := rl_0.allD (fun b hb hl => far_1.2 b (by omega) hl)
  have cur_1 := cur_0.low hb_1 cur_0.lt
  have hpl_1 := (Array.getElem?_eq_some_iff.1 P_1).1
  have hpq : q < w4.heap.size := by have := (Array.getElem?_eq_some_iff.1 hL_0).1; first | omega | (simp at this; omega)
  have hpc : c < w4.heap.size := by have := cur_0.lt; first | omega | (simp at this; omega)
  have hpw : w.heap.size + 1 ≤ w4.heap.size := by have := (Array.getElem?_eq_some_iff.1 hR_0).1; first | omega | (simp at this; omega)
  refine hK.out _ _ ?_ (fun hHeld => ?_)
  ·exact rowCells hL_1
  clear hK K
  (try simp only [zP, zA, zB, zC])
  refine wpAnyH_ready (rs := [3]) (by kernel_rfl) (by simp) ?_
  refine AllReadyH.cons rfl (fun K hK => ?_) AllReadyH.nil
  go_simp
  refine (below_any cur_1 hl 65536 (by omega)).mono ?_
  rintro e w_2 ⟨s, ⟨hs0, hs1, _⟩, rfl, cur_2, g_2⟩
  have far_2 : FarB c (c + 1) w_1 w_2 := ⟨(Below.refl c _).grown g_2 (by have := cur_1.lt; omega) (fun k hk => by injection hk with hk; omega), fun j hj hl => g_2.block j hl (by intro e; injection e with e; omega)⟩
  have bw_2 := bw_1.trans (far_2.1.mono (by omega))
  have sz_2 := far_2.1.size
  have hL_2 := keepHeapFar far_2 hL_1 (by omega)
  have hR_2 := keepHeapFar far_2 hR_1 (by omega)
  have P_2 := keepHeapFar far_2 P_1 (by omega)
  have rl_2 := rl_1.allD (fun b hb hl => far_2.2 b (by omega) hl)
  clear far_2 g_2
  (try go_wp2_with (fail))
  refine hK.out _ _ ?_ (fun hHeld => ?_)
  ·exact rowCells hL_2
  clear hK K
  (try simp only [zP, zA, zB, zC])
  refine wpAnyH_ready (rs := [4]) (by kernel_rfl) (by simp) ?_
  refine AllReadyH.cons rfl (fun K hK => ?_) AllReadyH.nil
  go_simp
  refine (newWorld_spec rl_2.rd hsn hfew (n : Int) s (by omega)).mono ?_
  rintro e w_3 ⟨vl1, vs1, vb1, rfl, ow_3, ⟨HCAP, -, -⟩, hb_3⟩
  have far_3 : FarB c (c + 1) w_2 w_3 := FarB.of_below hb_3 (by have := cur_2.lt; omega)
  have bw_3 := bw_2.trans (far_3.1.mono (by omega))
  have sz_3 := far_3.1.size
  have hL_3 := keepHeapFar far_3 hL_2 (by omega)
  have hR_3 := keepHeapFar far_3 hR_2 (by omega)
  have P_3 := keepHeapFar far_3 P_2 (by omega)
  have rl_3 := rl_2.allD (fun b hb hl => far_3.2 b (by omega) hl)
  have cur_3 := cur_2.low hb_3 cur_2.lt
  obtain ⟨lo0, hi0, ow_3, hlo, hhi, hlo2⟩ : ∃ lo hi, OwnWIn w_3 lo hi (nwX L n s) vl1 vs1 vb1 ∧ c + 1 ≤ lo ∧ hi ≤ w_3.heap.size ∧ w_2.heap.size ≤ lo := ⟨_, _, ow_3, by have := cur_2.lt; omega, Nat.le_refl _, Nat.le_refl _⟩
  have hrd1 := ow_3.rd
  obtain ⟨al1, cl1, e0, -⟩ := id hrd1.1
  subst e0
  obtain ⟨aq1, cq1, e0, -⟩ := id hrd1.2.1
  subst e0
  obtain ⟨ab1, cb1, e0, -⟩ := id hrd1.2.2
  subst e0
  clear hrd1
  unfold wdC
  (try go_wp2_with (fail))
  refine hK.out _ _ ?_ (fun hHeld => ?_)
  ·exact rowCells hL_3
  clear hK K
  (try simp only [zP, zA, zB, zC])
  refine tk 5 16 ?_
  (try simp only [zP, zA, zB, zC])
  refine tk 6 22 ?_
  (try simp only [zP, zA, zB, zC])
  refine tk 7 23 ?_
  (try simp only [zP, zA, zB, zC])
  refine wpAnyH_ready (rs := [9]) (by kernel_rfl) (by simp) ?_
  refine AllReadyH.cons rfl (fun K hK => ?_) AllReadyH.nil
  have cn := rowCells P_3
  have fn := fun j => frozenHeap P_3 j
  go_simp
  have F_4 := putW_farB w_3 (w4.heap.size) (nwX L n s) (.slice al1 (nwX L n s).rows.length cl1) (.slice aq1 (nwX L n s).scores.length cq1) (.slice ab1 (nwX L n s).bods.length cb1)
  have P_4 := putW_heap P_3 rfl (nwX L n s) (.slice al1 (nwX L n s).rows.length cl1) (.slice aq1 (nwX L n s).scores.length cq1) (.slice ab1 (nwX L n s).bods.length cb1)
  have hL_4 := keepHeapFar F_4 hL_3 (by omega)
  have hR_4 := keepHeapFar F_4 hR_3 (by omega)
  have bw_4 := putW_below bw_3 (c := w4.heap.size) (by omega) (nwX L n s) (.slice al1 (nwX L n s).rows.length cl1) (.slice aq1 (nwX L n s).scores.length cq1) (.slice ab1 (nwX L n s).bods.length cb1)
  have cur_4 := cur_3.low F_4.1 (by omega)
  have ow_4 := ow_3.apart F_4 (by omega)
  obtain ⟨w_4, hw_4⟩ : ∃ W, putW w_3 (w4.heap.size) (nwX L n s) (.slice al1 (nwX L n s).rows.length cl1) (.slice aq1 (nwX L n s).scores.length cq1) (.slice ab1 (nwX L n s).bods.length cb1) = W := ⟨_, rfl⟩
  rw [hw_4] at P_4 hL_4 hR_4 bw_4 cur_4 ow_4
  unfold putW at hw_4
  try rw [hw_4]
  clear hw_4 cn fn F_4
  refine hK.out _ _ ?_ (fun hHeld => ?_)
  ·exact rowCells hL_4
  clear hK K
  (try simp only [zP, zA, zB, zC])
  refine tk 10 8 ?_
  (try simp only [zP, zA, zB, zC])
  refine wpAnyH_done (by kernel_rfl) ?_ _
  have hPz := P_4
  unfold wdC at hPz
  have cPz := rowCells hPz
  go_upto_region 5 with (fail)
  clear cPz
  obtain ⟨w_z, ew⟩ : ∃ w_z, w_z = w_4 := ⟨_, rfl⟩
  rw [← ew] at hPz hR_4 bw_4 cur_4 ow_4 ⊢
  have P := hPz
  have hR := hR_4
  have bwz := bw_4
  have curz := cur_4
  have owz := ow_4
  have hpl := (Array.getElem?_eq_some_iff.1 P).1
  have hdz : w_z.drew.heap.size = w_z.heap.size := rfl
  clear ew hL_4 P_4 hR_4 bw_4 cur_4 ow_4 hPz
  have bw_0 : Below w.heap.size w w_z.drew := bwz.trans ((belowDrew w_z 1).mono bwz.size)
  have cur_0 : Cur w_z.drew w.heap.size c len := curz
  have ow_0 := owz.keep (belowDrew w_z 1)
  have bs_0 : Below w_z.heap.size w_z w_z.drew := belowDrew w_z 1
  have P_0 : w_z.drew.heap[w4.heap.size]? = _ := P
  have hR_0 : w_z.drew.heap[w.heap.size]? = _ := hR
  refine wp_region_held_drew (S := (fun w' => ∀ j, w'.cell? ⟨w4.heap.size, j, none⟩ = #[Value.slice al1 (nwX L n s).rows.length cl1, .int .i64 (nwX L n s).tick, .int .i64 (nwX L n s).seed, .slice aq1 (nwX L n s).scores.length cq1, .slice ab1 (nwX L n s).bods.length cb1][j]?)) (by kernel_rfl) ?_ (fun hHeld => ?_)
  ·exact rowCells P_0
  refine tk 0 24 ?_
  (try simp only [zP, zA, zB, zC])
  refine tk 1 25 ?_
  (try simp only [zP, zA, zB, zC])
  refine tk 2 26 ?_
  (try simp only [zP, zA, zB, zC])
  refine wpAnyH_ready (rs := [3]) (by kernel_rfl) (by simp) ?_
  refine AllReadyH.cons rfl (fun K hK => ?_) AllReadyH.nil
  go_simp
  refine (rows_any cur_0 hl n (by omega) 24 (by omega)).mono ?_
  rintro e w_1 ⟨v5, X, rfl, rs_1, hXl, hXr, cur_1, g_1⟩
  have far_1 : FarB c (c + 1) w_z.drew w_1 := ⟨(Below.refl c _).grown g_1 (by have := cur_0.lt; omega) (fun k hk => by injection hk with hk; omega), fun j hj hl => g_1.block j hl (by intro e; injection e with e; omega)⟩
  have bw_1 := bw_0.trans (far_1.1.mono (by omega))
  have sz_1 := far_1.1.size
  have P_1 := keepHeapFar far_1 P_0 (by omega)
  have hR_1 := keepHeapFar far_1 hR_0 (by omega)
  have ow_1 := ow_0.afar far_1 (by omega)
  clear far_1 g_1
  obtain ⟨a5, c5, rfl, -⟩ := id rs_1.rd
  (try go_wp2_with (fail))
  refine hK.out _ _ ?_ (fun hHeld => ?_)
  ·exact rowCells P_1
  clear hK K
  (try simp only [zP, zA, zB, zC])
  refine wpAnyH_ready (rs := [4]) (by kernel_rfl) (by simp) ?_
  refine AllReadyH.cons rfl (fun K hK => ?_) AllReadyH.nil
  have cn := rowCells hR_1
  have fn := fun j => frozenHeap hR_1 j
  go_simp
  have F_2 := putW_farB w_1 w.heap.size (nwX L n s) (.slice al1 (nwX L n s).rows.length cl1) (.slice aq1 (nwX L n s).scores.length cq1) (.slice ab1 (nwX L n s).bods.length cb1)
  have hR_2 := putW_heap hR_1 rfl (nwX L n s) (.slice al1 (nwX L n s).rows.length cl1) (.slice aq1 (nwX L n s).scores.length cq1) (.slice ab1 (nwX L n s).bods.length cb1)
  have P_2 := keepHeapFar F_2 P_1 (by omega)
  have bw_2 := putW_below bw_1 (c := w.heap.size) (Nat.le_refl _) (nwX L n s) (.slice al1 (nwX L n s).rows.length cl1) (.slice aq1 (nwX L n s).scores.length cq1) (.slice ab1 (nwX L n s).bods.length cb1)
  have cur_2 := cur_1.far F_2 (Nat.le_refl _) (.inr (by omega))
  have ow_2 := ow_1.afar F_2 (by omega)
  have rs_2 := rs_1.putWd (c := w.heap.size) (by omega) (nwX L n s) (.slice al1 (nwX L n s).rows.length cl1) (.slice aq1 (nwX L n s).scores.length cq1) (.slice ab1 (nwX L n s).bods.length cb1)
  obtain ⟨w_2, hw_2⟩ : ∃ W, putW w_1 w.heap.size (nwX L n s) (.slice al1 (nwX L n s).rows.length cl1) (.slice aq1 (nwX L n s).scores.length cq1) (.slice ab1 (nwX L n s).bods.length cb1) = W := ⟨_, rfl⟩
  rw [hw_2] at P_2 hR_2 bw_2 cur_2 ow_2 rs_2
  unfold putW at hw_2
  try rw [hw_2]
  clear hw_2 cn fn F_2
  refine hK.out _ _ ?_ (fun hHeld => ?_)
  ·exact rowCells P_2
  clear hK K
  (try simp only [zP, zA, zB, zC])
  refine tk 5 3 ?_
  (try simp only [zP, zA, zB, zC])
  refine wpAnyH_done (by kernel_rfl) ?_ _
  have rsw := rs_2.rd
  have hLd := load_wd hR_2 rfl
  have HRW := Lib.hid ow_2.rd
  have HBW := Lib.hid bw_2
  clear ow_2 bw_2 P_2
  unfold wdC at hLd
  go_wp2_with (fail)
  refine bodyPost_ret (v := .tuple #[.agg #[Value.slice al1 (nwX L n s).rows.length cl1, .int .i64 (nwX L n s).tick, .int .i64 (nwX L n s).seed, .slice aq1 (nwX L n s).scores.length cq1, .slice ab1 (nwX L n s).bods.length cb1], .slice a5 X.length c5]) (results_two rfl _ _ _ _ _ rfl rfl hLd) rfl ⟨L, n, s, _, _, _, _, X, rfl, HRW.out, rsw, HBW.out, ⟨hlv, hsn, by omega, by omega, hXl, hXr, h5⟩, HCAP⟩
end Go.Proofs.YtehjafaobaoleaaDoor
