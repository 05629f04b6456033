/-
  The inputs of players and their texts, in the model and in the program. At most 400 rows, at most four players.
-/
import Derived.Test.YtecimgennncjkaaDoorColI
import Derived.Test.YtecimgennncjkaaDoorPkT
import Derived.Test.YtecimgennncjkaaDoorText
namespace Go.Proofs.YtecimgennncjkaaDoor
open Go.RowKit
set_option linter.all false
theorem OwnR.capB (w : World) (B n : Nat) (hB : B ≤ w.heap.size) (hn : n ≤ 1099511627776) : OwnR (w.alloc (.cells (madeCells #[.int .i64 0] n) 3)) B (.slice (some ⟨w.heap.size, 0, none⟩) 0 n) [] := by
  have hsz : (madeCells #[Value.int .i64 0] n).size = n := by simp [madeCells]
  have := OwnR.made w (madeCells #[.int .i64 0] n) B hB (by rw [hsz]; unfold maxLen; omega)
  rwa [hsz] at this
/-- A row of the call's own is no longer than its room. -/
theorem OwnR.cap {w : World} {B : Nat} {v : Value} {xs : List Int} (h : OwnR w B v xs) : CapI v := by
  rcases h.2 with ⟨rfl, h0⟩ | ⟨g, cap, cur, rfl, hB, hg, hn, hc, hsz, htk⟩
  · exact ⟨_, _, _, rfl, Nat.le_refl _⟩
  · exact ⟨_, _, _, rfl, hn⟩
/-- A player's inputs, in a slice of the call's own. -/
def RetCol (w : World) (xs : List Int) (e : Ending) (w' : World) : Prop := ∃ v, e = .returned v ∧ RdI w' v xs ∧ CapI v ∧ Below w.heap.size w w'
set_option maxHeartbeats 1000000 in
theorem l07Column_any {w : World} {v : Value} {X : Rowi} (h : RdR w v X) (hn : X.length ≤ 1048576) (p : Nat) (hp : ∀ k (hk : k < X.length), p < X[k].length) (hi : ∀ x ∈ X, x.length ≤ 1048576) :
    Calls Tryd.prog 67 #[v, .int .i64 (p : Int)] w (RetCol w (colL X p)) := by
  obtain ⟨a, cap, rfl, h⟩ := h
  have hown0 : OwnR (w.alloc (.cells #[] 3)) w.heap.size (.slice (some ⟨w.heap.size, 0, none⟩) 0 0) [] := OwnR.made w #[] w.heap.size (Nat.le_refl _) (by simp)
  go_enter Tryd.func67, Tryd.ntmps67
  go_wp2_with (fail)
  go_loopw [5, 6] (fun c i wr => ∃ k : Nat, k ≤ X.length ∧ i = .int .i64 (k : Int) ∧ OwnR wr w.heap.size c ((colL X p).take k) ∧ Below w.heap.size w wr) (fun _ i _ => X.length - (intOf i).toNat)
  case atStart => exact ⟨0, Nat.zero_le _, rfl, hown0, below1 _ _⟩
  case round =>
    obtain ⟨k, hk, rfl, hown, hbel⟩ := hrel
    by_cases hkl : k < X.length
    · obtain ⟨b, off, rfl, hc⟩ := h.resolve_left (by intro e; rw [e] at hkl; simp at hkl)
      obtain ⟨u, c0, r0⟩ := hc k hkl
      have c1 : wr.cell? ⟨b, off + k, none⟩ = some u := (hbel.cell (World.block_lt_of_cell? w _ c0)).trans c0
      have hkl2 : k < (colL X p).length := by rw [colL_len]; exact hkl
      have HT := Lib.hid (List.take_succ_eq_append_getElem hkl2)
      have hpk := hp k hkl
      rw [colL_at hkl hpk] at HT
      have htl : ((colL X p).take k).length = k := by rw [List.length_take]; omega
      have hl1 : (k : Int) < (X.length : Int) := by omega
      have hsz := hbel.size
      have hxl := hi X[k] (List.getElem_mem _)
      have R := r0.keep hbel
      obtain ⟨y, hy⟩ : ∃ y, y = X[k][p] := ⟨_, rfl⟩
      rw [← hy] at HT
      obtain ⟨ax, cx, rfl, hrr⟩ := id R
      obtain ⟨b2, off2, rfl, hc2⟩ := hrr.resolve_left (by intro e; rw [e] at hpk; simp at hpk)
      have c2 := hc2 p hpk
      rw [← hy] at c2
      have hpl : (p : Int) < (X[k].length : Int) := by omega
      clear hc h c0 r0 R hc2 hrr hy
      generalize X[k].length = m at *
      have HTL := Lib.hid htl
      clear htl
      generalize (colL X p).take k = acc at *
      go_wp2_with (at_builtin; refine app_int rfl _ _ rfl w.heap.size _ acc rfl hown _ rfl (by rw [HTL.out]; omega) hsz ?_; intro v' w4 hown' hb')
      go_roundw
      case rel => exact ⟨k + 1, by omega, by go_num, by rw [HT.out]; exact hown', hbel.trans hb'⟩
      case measure => simp [intOf]; omega
    · have e : (colL X p).take k = colL X p := List.take_of_length_le (by rw [colL_len]; omega)
      rw [e] at hown
      clear e
      go_wp2_with (fail)
      go_ret
      exact ⟨_, rfl, hown.own.rd, hown.cap, hbel⟩
set_option maxRecDepth 100000 in
set_option maxHeartbeats 2000000 in
theorem packRows_impl {w : World} {v : Value} {X : Rowi} (h : RdR w v X) (hn : X.length ≤ 400) (n : Nat) (hn4 : n ≤ 4) (hp : ∀ k (hk : k < X.length), n ≤ X[k].length) (hi : ∀ x ∈ X, x.length ≤ 1048576) :
    Calls Tryd.prog 71 #[v, .int .i64 (n : Int)] w fun e w' => e = .returned (.string ⟨(colsT X n).toArray⟩) ∧ Below w.heap.size w w' := by
  obtain ⟨a, cap, rfl, h⟩ := h
  have hbld1 := Bld.fresh w
  have hB1 := below1 w (.cells #[.pointer none, .slice none 0 0] 88)
  have hmk := fun W => run_make_cap W X.length (by omega)
  go_enter Tryd.func71, Tryd.ntmps71
  go_wp2_with (fail)
  go_loopw [11] (fun i wr => ∃ k : Nat, k ≤ n ∧ i = .int .i64 (k : Int) ∧ Bld wr w.heap.size w.heap.size (colsT X k) ∧ Below w.heap.size w wr ∧ w.heap.size < wr.heap.size) (fun i _ => n - (intOf i).toNat)
  case atStart => exact ⟨0, Nat.zero_le _, rfl, hbld1, hB1, by simp⟩
  case round =>
    obtain ⟨k, hk, rfl, hbl, hbel, hsz⟩ := hrel
    have hcl := colsT_len X k
    have hlen : (colsT X k).length ≤ 9624 := by
      have : k * (6 * X.length + 6) ≤ 4 * (6 * 400 + 6) := Nat.mul_le_mul (by omega) (by omega)
      omega
    by_cases hkn : k < n
    · have hkn' : (k : Int) < (n : Int) := by omega
      have HS := Lib.hid (colsT_succ X k)
      have hct := colT_len X k
      have hpk : (packTr (colL X k)).length ≤ 2400 := by have := packTr_len (colL X k); rw [colL_len] at this; omega
      unfold colT at HS hct
      have hcol := colL_len X k
      have HCA : Hid (∀ j (hj : j < X.length) (hk2 : k < X[j].length), (colL X k).take (j + 1) = (colL X k).take j ++ [X[j][k]]) := Lib.hid (fun j hj hk2 => by rw [List.take_succ_eq_append_getElem (by rw [colL_len]; exact hj), colL_at hj hk2])
      have hrow0 := OwnR.capB wr wr.heap.size X.length (Nat.le_refl _) (by omega)
      have hb1 := below1 wr (.cells (madeCells #[.int .i64 0] X.length) 3)
      generalize colsT X k = acc at *
      generalize colL X k = C at *
      clear hcl hbld1 hB1
      go_wp2_with (fail)
      go_loopw [7, 19] (fun c i wj => ∃ j : Nat, j ≤ X.length ∧ i = .int .i64 (j : Int) ∧ OwnR wj wr.heap.size c (C.take j) ∧ Below wr.heap.size wr wj) (fun _ i _ => X.length - (intOf i).toNat)
      case atStart => exact ⟨0, Nat.zero_le _, rfl, hrow0, hb1⟩
      case round =>
        clear hrow0 hb1
        obtain ⟨j, hj, rfl, hrow, hbj⟩ := hrel
        have hszj := hbj.size
        by_cases hjl : j < X.length
        · obtain ⟨b, off, rfl, hc⟩ := h.resolve_left (by intro e; rw [e] at hjl; simp at hjl)
          obtain ⟨u, c0, r0⟩ := hc j hjl
          have hbw := hbel.trans (hbj.mono (by omega))
          have c1 := (hbw.cell (World.block_lt_of_cell? w _ c0)).trans c0
          have R := r0.keep hbw
          have hkx : k < X[j].length := by have := hp j hjl; omega
          have HT := Lib.hid (HCA.out j hjl hkx)
          have htl : (C.take j).length = j := by rw [List.length_take]; omega
          have HTL := Lib.hid htl
          have hl1 : (j : Int) < (X.length : Int) := by omega
          have hxl := hi X[j] (List.getElem_mem _)
          obtain ⟨y, hy⟩ : ∃ y, y = X[j][k] := ⟨_, rfl⟩
          rw [← hy] at HT
          obtain ⟨ax, cx, rfl, hrr⟩ := id R
          obtain ⟨b2, off2, rfl, hc2⟩ := hrr.resolve_left (by intro e; rw [e] at hkx; simp at hkx)
          have c2 := hc2 k hkx
          rw [← hy] at c2
          have hpl : (k : Int) < (X[j].length : Int) := by omega
          clear hc h c0 r0 R hc2 hrr hy htl HCA
          generalize X[j].length = m at *
          generalize C.take j = row at *
          go_wp2_with (at_builtin; refine app_int rfl _ _ rfl _ _ row rfl hrow _ rfl (by rw [HTL.out]; omega) hszj ?_; intro v' w4 hown' hb')
          go_roundw
          case rel => exact ⟨j + 1, by omega, by go_num, by rw [HT.out]; exact hown', hbj.trans hb'⟩
          case measure => simp [intOf]; omega
        · have e : C.take j = C := List.take_of_length_le (by omega)
          rw [e] at hrow
          clear e
          have hcp := hrow.cap
          have hrd := hrow.own.rd
          have hblj := hbl.keep hbj
          have hP := packTrack_impl hrd hcp (by omega)
          obtain ⟨P, eP⟩ : ∃ l, packTr C = l := ⟨_, rfl⟩
          rw [eP] at hP hct hpk HS
          obtain ⟨Q, eQ⟩ : ∃ l, packT P = l := ⟨_, rfl⟩
          have hpt := packText_impl P
          rw [eQ] at hct HS hpt
          have hbj0 := hbel.trans (hbj.mono (by omega))
          have hsj := hbj.size
          clear hrow HCA eP eQ h hcp hcol hbl
          obtain ⟨a3, c3, rfl, -⟩ := id hrd
          clear hrd
          go_wp2_with (fail)
          refine hP.mono ?_
          rintro e w5 ⟨rfl, hb5⟩
          have hbl5 := hblj.keep hb5
          have hb05 := hbj0.trans (hb5.mono hbj0.size)
          have hs5 := hb5.size
          clear hP hblj hbj0
          go_wp2_with (fail)
          refine (hpt w5 (by omega)).mono ?_
          rintro e w6 ⟨rfl, hb6⟩
          have hbl6 := hbl5.keep hb6
          have hb06 := hb05.trans (hb6.mono hb05.size)
          have hs6 := hb6.size
          clear hpt hbl5 hb05
          go_wp2_with (fail)
          refine (bld_write hbl6 _ (by omega) (by omega)).mono ?_
          rintro e w7 ⟨rfl, hbl7, hb7, hk7⟩
          have hs7 := hb7.size
          have hb07 := hb06.trans (hb7.mono (by omega))
          go_wp2_with (fail)
          go_roundw
          case rel => exact ⟨k + 1, by omega, by go_num, by rw [HS.out]; exact hbl7, hb07, by omega⟩
          case measure => simp [intOf]; omega
    · have e : k = n := by omega
      subst e
      obtain ⟨acc, ea⟩ : ∃ l, colsT X k = l := ⟨_, rfl⟩
      rw [ea] at hbl hlen
      have EA := Lib.hid ea
      clear ea hcl
      go_wp2_with (go_at_call 72; refine (bld_string hbl (by omega)).mono ?_; rintro e w3 ⟨rfl, hbld3, hb3, hk3⟩)
      go_ret
      exact ⟨by rw [EA.out]; rfl, hbel.trans (hb3.mono (by omega))⟩
end Go.Proofs.YtecimgennncjkaaDoor
