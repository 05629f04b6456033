/-
  Texts of this proof: Start.
-/
import Derived.Test.YtehjafaobaoleaaDoorM20
namespace Go.Proofs.YtehjafaobaoleaaDoor
open Go.RowKit
set_option linter.all false
def colOf (p : UInt8 → Bool) : List UInt8 → Nat → Option Nat
 | [], _ => none
 | c :: l, k => if p c then some k else colOf p l (k + 1)
def tileOf (p : UInt8 → Bool) : Rowz → Nat → Option (Nat × Nat)
 | [], _ => none
 | row :: L, r => match colOf p row 0 with
  | some c => some (r, c)
  | none => tileOf p L (r + 1)
def digitP (player : Nat) (c : UInt8) : Bool := decide (c.toNat = 49 + player)
def openP (c : UInt8) : Bool := decide (c.toNat ≠ 35)
def startT (L : Rowz) (player : Nat) : Option (Nat × Nat) := match tileOf (digitP player) L 0 with
 | some t => some t
 | none => tileOf openP L 0
def placeT : Option (Nat × Nat) → Int × Int
 | some (r, c) => (16 * (c : Int) + 2, 16 * (r : Int) + 2)
 | none => (-1, -1)
def startI (L : Rowz) (player : Int) : Int × Int := if levelB L && inR player 0 3 then placeT (startT L player.toNat) else (-1, -1)
theorem colOf_lt (p : UInt8 → Bool) (l : List UInt8) : ∀ k c, colOf p l k = some c → k ≤ c ∧ c < k + l.length := by
 induction l with
 | nil => intro k c h; cases h
 | cons a l ih =>
  intro k c h
  rw [colOf] at h
  split at h
  ·simp only [Option.some.injEq] at h; subst h; simp
  ·have := ih _ _ h; simp; omega
def NoneTo (p : UInt8 → Bool) (L : Rowz) (r c : Nat) : Prop := tileOf p L 0 = match colOf p ((L.getD r []).drop c) c with
 | some c' => some (r, c')
 | none => tileOf p (L.drop (r + 1)) (r + 1)
theorem tileOf_drop (p : UInt8 → Bool) (L : Rowz) (r : Nat) (hr : r < L.length) (n : Nat) : tileOf p (L.drop r) n = match colOf p L[r] 0 with
 | some c => some (n, c)
 | none => tileOf p (L.drop (r + 1)) (n + 1) := by
 rw [List.drop_eq_getElem_cons hr, tileOf]
theorem NoneTo.zero (p : UInt8 → Bool) {L : Rowz} (h : 0 < L.length) : NoneTo p L 0 0 := by
 unfold NoneTo
 have := tileOf_drop p L 0 h 0
 rw [List.drop_zero] at this
 rw [this, getD_row h, List.drop_zero]
theorem NoneTo.step {p : UInt8 → Bool} {L : Rowz} {r c : Nat} (h : NoneTo p L r c) (hr : r < L.length) (hc : c < L[r].length) (hp : p (L[r][c]) = false) : NoneTo p L r (c + 1) := by
 unfold NoneTo at h ⊢
 rw [getD_row hr] at h ⊢
 rw [List.drop_eq_getElem_cons hc, colOf, if_neg (by rw [hp]; simp)] at h
 exact h
theorem NoneTo.hit {p : UInt8 → Bool} {L : Rowz} {r c : Nat} (h : NoneTo p L r c) (hr : r < L.length) (hc : c < L[r].length) (hp : p (L[r][c]) = true) : tileOf p L 0 = some (r, c) := by
 unfold NoneTo at h
 rw [getD_row hr, List.drop_eq_getElem_cons hc, colOf, if_pos hp] at h
 exact h
theorem NoneTo.row {p : UInt8 → Bool} {L : Rowz} {r : Nat} (h : NoneTo p L r (L.getD r []).length) (hr : r + 1 < L.length) : NoneTo p L (r + 1) 0 := by
 unfold NoneTo at h ⊢
 rw [List.drop_of_length_le (Nat.le_refl _), colOf] at h
 simp only at h
 rw [h, tileOf_drop p L (r + 1) hr, getD_row hr, List.drop_zero]
theorem NoneTo.done {p : UInt8 → Bool} {L : Rowz} {r : Nat} (h : NoneTo p L r (L.getD r []).length) (hr : r + 1 = L.length) : tileOf p L 0 = none := by
 unfold NoneTo at h
 rw [List.drop_of_length_le (Nat.le_refl _), colOf] at h
 simp only at h
 rw [h, List.drop_of_length_le (by omega)]; rfl
def NT (p : UInt8 → Bool) (L : Rowz) (r c : Nat) : Prop := if r < L.length then NoneTo p L r c else tileOf p L 0 = none
theorem NT.next {p : UInt8 → Bool} {L : Rowz} {r : Nat} (hr : r < L.length) (h : NT p L r L[r].length) : NT p L (r + 1) 0 := by
 unfold NT at h ⊢
 rw [if_pos hr] at h
 rw [← getD_row hr] at h
 split
 ·exact h.row (by assumption)
 ·exact h.done (by omega)
theorem NT.at_ {p : UInt8 → Bool} {L : Rowz} {r c : Nat} (hr : r < L.length) (h : NT p L r c) : NoneTo p L r c := by unfold NT at h; rwa [if_pos hr] at h
theorem NT.of {p : UInt8 → Bool} {L : Rowz} {r c : Nat} (hr : r < L.length) (h : NoneTo p L r c) : NT p L r c := by unfold NT; rwa [if_pos hr]
def StAt (L : Rowz) (player r c : Nat) (x y : Int) : Prop :=
 NT (digitP player) L r c ∧ ((x = -1 ∧ y = -1 ∧ NT openP L r c) ∨ (0 ≤ x ∧ (x, y) = placeT (tileOf openP L 0)))
theorem StAt.zero (L : Rowz) (player : Nat) (h : 0 < L.length) : StAt L player 0 0 (-1) (-1) := ⟨NT.of h (NoneTo.zero _ h), .inl ⟨rfl, rfl, NT.of h (NoneTo.zero _ h)⟩⟩
theorem StAt.row {L : Rowz} {player r : Nat} {x y : Int} (hr : r < L.length) (h : StAt L player r L[r].length x y) : StAt L player (r + 1) 0 x y := by
 refine ⟨NT.next hr h.1, ?_⟩
 rcases h.2 with ⟨h1, h2, h3⟩ | h2
 ·exact .inl ⟨h1, h2, NT.next hr h3⟩
 ·exact .inr h2
theorem StAt.done {L : Rowz} {player : Nat} {x y : Int} (h : StAt L player L.length 0 x y) : placeT (startT L player) = (x, y) := by
 obtain ⟨h1, h2⟩ := h
 unfold NT at h1 h2
 rw [if_neg (by omega)] at h1
 unfold startT
 rw [h1]
 rcases h2 with ⟨rfl, rfl, h3⟩ | ⟨_, h3⟩
 ·rw [if_neg (by omega)] at h3; simp only [h3]; rfl
 ·exact h3.symm
theorem StAt.hit {L : Rowz} {player r c : Nat} {x y : Int} (h : StAt L player r c x y) (hr : r < L.length) (hc : c < L[r].length) (hp : L[r][c].toNat = 49 + player) : placeT (startT L player) = (16 * (c : Int) + 2, 16 * (r : Int) + 2) := by
 unfold startT
 rw [(h.1.at_ hr).hit hr hc (by unfold digitP; simpa using hp)]; rfl
theorem StAt.wall {L : Rowz} {player r c : Nat} {x y : Int} (h : StAt L player r c x y) (hr : r < L.length) (hc : c < L[r].length) (hp : L[r][c].toNat ≠ 49 + player) (hw : L[r][c].toNat = 35) : StAt L player r (c + 1) x y := by
 refine ⟨NT.of hr ((h.1.at_ hr).step hr hc (by unfold digitP; simpa using hp)), ?_⟩
 rcases h.2 with ⟨h1, h2, h3⟩ | h2
 ·exact .inl ⟨h1, h2, NT.of hr ((h3.at_ hr).step hr hc (by unfold openP; simpa using hw))⟩
 ·exact .inr h2
theorem StAt.first {L : Rowz} {player r c : Nat} {x y : Int} (h : StAt L player r c x y) (hr : r < L.length) (hc : c < L[r].length) (hp : L[r][c].toNat ≠ 49 + player) (hw : L[r][c].toNat ≠ 35) (hx : x < 0) : StAt L player r (c + 1) (16 * (c : Int) + 2) (16 * (r : Int) + 2) := by
 refine ⟨NT.of hr ((h.1.at_ hr).step hr hc (by unfold digitP; simpa using hp)), ?_⟩
 rcases h.2 with ⟨h1, h2, h3⟩ | h2
 ·exact .inr ⟨by omega, by rw [(h3.at_ hr).hit hr hc (by unfold openP; simpa using hw)]; rfl⟩
 ·omega
theorem StAt.later {L : Rowz} {player r c : Nat} {x y : Int} (h : StAt L player r c x y) (hr : r < L.length) (hc : c < L[r].length) (hp : L[r][c].toNat ≠ 49 + player) (hx : 0 ≤ x) : StAt L player r (c + 1) x y := by
 refine ⟨NT.of hr ((h.1.at_ hr).step hr hc (by unfold digitP; simpa using hp)), ?_⟩
 rcases h.2 with ⟨h1, h2, h3⟩ | h2
 ·omega
 ·exact .inr h2
theorem StAt.x {L : Rowz} {player r c : Nat} {x y : Int} (h : StAt L player r c x y) : x = -1 ∨ 0 ≤ x := by
 rcases h.2 with ⟨h1, _⟩ | h2
 ·exact .inl h1
 ·exact .inr h2.1
def retXY (p : Int × Int) : Value := .tuple #[.int .i64 p.1, .int .i64 p.2]
theorem startI_no {L : Rowz} {p : Int} (h : levelB L = false ∨ inR p 0 3 = false) : startI L p = (-1, -1) := by
 unfold startI; rcases h with h | h <;> rw [h] <;> simp
theorem startI_yes {L : Rowz} {p : Nat} (h : levelB L = true) (h2 : inR (p : Int) 0 3 = true) : startI L (p : Int) = placeT (startT L p) := by
 unfold startI; rw [h, h2]; simp
set_option maxRecDepth 100000 in
set_option maxHeartbeats 4000000 in
theorem startOf_spec {w : World} {v : Value} {L : Rowz} (h : RdS w v L) (hs : Sane L) (p : Int) :
  Calls Tryd.prog 46 #[.agg #[v], .int .i64 p] w fun e w' => e = .returned (retXY (startI L p)) ∧ Below w.heap.size w w' := by
 obtain ⟨a, cap, rfl, h0⟩ := id h
 obtain ⟨W1, hW, hA1, hb1⟩ : ∃ W1, w.alloc (.cells #[.slice a L.length cap] 26) = W1 ∧ W1.heap[w.heap.size]? = some (.cells #[.slice a L.length cap] 26 (0, 0)) ∧ Below w.heap.size w W1 := ⟨_, rfl, heap_alloc_new w _, below1 _ _⟩
 have cA1 := rowCells hA1
 have r1 := h.keep hb1
 have hs1 := hb1.size
 go_enter Tryd.func46, Tryd.ntmps46
 go_wp2_with (fail)
 clear hW
 refine (levelOk_spec r1 hs).mono ?_
 rintro e w2 ⟨rfl, hb2⟩
 have hb12 := hb1.trans (hb2.mono hs1)
 have hA2 := keepHeap hb2 hA1
 have cA2 := rowCells hA2
 clear cA1 r1 hA1 hb1 hb2
 cases hl : levelB L with
 | false =>
  have HF := Lib.hid (startI_no (p := p) (.inl hl))
  clear hl
  go_wp2_with (fail)
  go_ret2
  exact ⟨by rw [HF.out]; rfl, hb12⟩
 | true =>
  cases hq : inR p 0 3 with
  | false =>
   have HF := Lib.hid (startI_no (L := L) (.inr hq))
   have Q := Lib.hid hq
   clear hl hq
   go_wp2_with (go_at_call 47; refine (in_spec _ _ _ _).mono ?_; rintro e w3 ⟨rfl, rfl⟩; rw [Q.out])
   go_ret2
   exact ⟨by rw [HF.out]; rfl, hb12⟩
  | true =>
   have hg : Good L := levelB_facts hl
   have hq2 := (inR_iff _ _ _).1 hq
   obtain ⟨P, rfl⟩ := Int.eq_ofNat_of_zero_le (a := p) (by omega)
   have HF := Lib.hid (startI_yes hl hq)
   have Q := Lib.hid hq
   have hP3 : P ≤ 3 := by omega
   have hP3' : (P : Int) ≤ 3 := by omega
   obtain ⟨hn3, hn12, hw4, hw20, -⟩ := id hg
   obtain ⟨b, off, rfl, hc⟩ := h0.resolve_left (by intro e; rw [e] at hn3; simp at hn3)
   have hlt := World.block_lt_of_cell? w _ (hc 0 (by omega))
   have HC := Lib.hid (fun r (hr : r < L.length) => (hb12.cell (p := ⟨b, off + r, none⟩) hlt).trans (hc r hr))
   have hnc : (L.length : Int) ≤ 12 := by omega
   clear hl hq hq2 hc h0 h
   go_wp2_with (go_at_call 47; refine (in_spec _ _ _ _).mono ?_; rintro e w3 ⟨rfl, rfl⟩; rw [Q.out])
   go_loop [6, 7, 8] (fun vx vy i => ∃ (r : Nat) (x y : Int), r ≤ L.length ∧ i = .int .i64 (r : Int) ∧ vx = .int .i64 x ∧ vy = .int .i64 y ∧ StAt L P r 0 x y) (fun _ _ i => L.length - (intOf i).toNat)
   case atStart => exact ⟨0, -1, -1, Nat.zero_le _, rfl, rfl, rfl, StAt.zero L P (by omega)⟩
   case round =>
    obtain ⟨r, x, y, hr, rfl, rfl, rfl, hat⟩ := hrel
    by_cases hrn : r < L.length
    ·have hrn' : (r : Int) < (L.length : Int) := by omega
     obtain ⟨row, hrow⟩ : ∃ x, x = L[r] := ⟨_, rfl⟩
     have cr := HC.out r hrn
     have hrl := hg.row hrn
     rw [← hrow] at cr hrl
     have hrl20 : (row.length : Int) ≤ 20 := by omega
     have HR := Lib.hid hrow
     have HRL := Lib.hid hrl
     clear hrow hrl
     go_wp2_with (fail)
     go_loop [6, 7, 9] (fun vx vy j => ∃ (c : Nat) (x y : Int), c ≤ row.length ∧ j = .int .i64 (c : Int) ∧ vx = .int .i64 x ∧ vy = .int .i64 y ∧ StAt L P r c x y) (fun _ _ j => row.length - (intOf j).toNat)
     case atStart => exact ⟨0, x, y, Nat.zero_le _, rfl, rfl, rfl, hat⟩
     case round =>
      clear hat
      obtain ⟨c, x, y, hc, rfl, rfl, rfl, hat⟩ := hrel
      by_cases hcn : c < row.length
      ·have hcn' : (c : Int) < (row.length : Int) := by omega
       obtain ⟨t, ht⟩ : ∃ t, t = row[c] := ⟨_, rfl⟩
       have hix : (ByteArray.mk row.toArray)[c]'hcn = t := ht.symm
       have hidx := fun W => run_at W hcn hix
       have hcl : c < L[r].length := by rw [← HR.out]; exact hcn
       have htl : L[r][c]'hcl = t := by rw [ht]; congr 1; exact HR.out.symm
       have hx255 := t.toNat_lt
       have hit := fun h => hat.hit hrn hcl h
       have wall := fun h h2 => hat.wall hrn hcl h h2
       have first := fun h h2 h3 => hat.first hrn hcl h h2 h3
       have later := fun h h2 => hat.later hrn hcl h h2
       have hxs := hat.x
       rw [htl] at hit wall first later
       obtain ⟨z, hz⟩ : ∃ z : Int, z = (t.toNat : Int) := ⟨_, rfl⟩
       rw [← hz] at hidx
       have hz0 : 0 ≤ z := by omega
       have hz1 : z ≤ 255 := by omega
       have HZ := Lib.hid hz
       have HHit := Lib.hid hit
       have HWall := Lib.hid wall
       have HFirst := Lib.hid first
       have HLater := Lib.hid later
       clear hix htl hz hat hit wall first later ht
       have hw0 : IntKind.i64.wrap z = z := IntWalk.i64_in _ (by omega)
       by_cases hd : z = 49 + (P : Int)
       ·have HP := Lib.hid (HHit.out (by have := HZ.out; omega))
        have z1 : (z != 35) = true := nq (by omega)
        have z2 : (z - 49 == (P : Int)) = true := bq (by omega)
        clear hd
        cases z3 : decide (x < 0)
        all_goals
         go_wp2_with (fail)
         go_ret2
         exact ⟨by rw [HF.out, HP.out]; rfl, hb12⟩
       ·have z2 : (z - 49 == (P : Int)) = false := bqn (by omega)
        by_cases h35 : z = 35
        ·have HN := Lib.hid (HWall.out (by have := HZ.out; omega) (by have := HZ.out; omega))
         have z1 : (z != 35) = false := nqn h35
         clear hd h35
         go_wp2_with (fail)
         go_round
         case rel => exact ⟨c + 1, x, y, by omega, by go_num, rfl, rfl, HN.out⟩
         case measure => simp [intOf]; omega
        ·have z1 : (z != 35) = true := nq h35
         by_cases hxn : x < 0
         ·have HN := Lib.hid (HFirst.out (by have := HZ.out; omega) (by have := HZ.out; omega) hxn)
          have z3 : decide (x < 0) = true := by simpa using hxn
          clear hd h35 hxn hxs
          go_wp2_with (fail)
          go_round
          case rel => exact ⟨c + 1, _, _, by omega, by go_num, rfl, rfl, HN.out⟩
          case measure => simp [intOf]; omega
         ·have HN := Lib.hid (HLater.out (by have := HZ.out; omega) (by omega))
          have z3 : decide (x < 0) = false := by simpa using hxn
          clear hd h35 hxn hxs
          go_wp2_with (fail)
          go_round
          case rel => exact ⟨c + 1, x, y, by omega, by go_num, rfl, rfl, HN.out⟩
          case measure => simp [intOf]; omega
      ·have e : c = row.length := by omega
       subst e
       have HS := Lib.hid (StAt.row hrn (by rw [← HR.out]; exact hat))
       clear hat
       go_wp2_with (fail)
       go_round
       case rel => exact ⟨r + 1, x, y, by omega, by go_num, rfl, rfl, HS.out⟩
       case measure => simp [intOf]; omega
    ·have e : r = L.length := by omega
     subst e
     have HP := Lib.hid hat.done
     clear hat
     go_wp2_with (fail)
     go_ret2
     exact ⟨by rw [HF.out, HP.out]; rfl, hb12⟩
end Go.Proofs.YtehjafaobaoleaaDoor
