/-
  EncodeReplay: the plain mathematics; the contracts of the model and of the program. Keys of at most 2^20 bytes in all.
-/
import Derived.Test.YtecimgennncjkaaDoorRpO
import Derived.Test.YtecimgennncjkaaDoorColS
import Derived.Test.YtecimgennncjkaaDoorNum
import Derived.Test.YtecimgennncjkaaDoorSealB
import Derived.Test.YtecimgennncjkaaDoorFormL
import Derived.Test.YtecimgennncjkaaDoorReg
import Derived.Test.YtecimgennncjkaaDoorFar
import Derived.Laws.Concat
import Derived.Deep.RegionHeld3
import Derived.Deep.Cut
namespace Go.Proofs.YtecimgennncjkaaDoor
open Go.RowKit
set_option linter.all false
theorem fmtL_len (L : Rowz) : (fmtL L).length ≤ 252 := by
  unfold fmtL
  split
  · rename_i h
    obtain ⟨-, h1, -, h2, h3⟩ := levelB_facts h
    have h4 := jn_len L 20 (fun row hr => by have := h3 row hr; omega)
    have h5 : L.length * 21 ≤ 12 * 21 := Nat.mul_le_mul_right _ h1
    omega
  · simp
def keysT (K : Rowz) : List UInt8 := (K.map packT).flatten
theorem keysT_take (K : Rowz) (k : Nat) (hk : k < K.length) : keysT (K.take (k + 1)) = keysT (K.take k) ++ packT K[k] := by
  unfold keysT; rw [List.take_succ_eq_append_getElem hk, List.map_append, List.flatten_append]; simp
theorem keysT_len (K : Rowz) : (keysT K).length ≤ totalS K + 6 * K.length := by
  unfold keysT totalS
  induction K with
  | nil => simp
  | cons a K ih =>
    have := packT_le a
    simp only [List.map_cons, List.flatten_cons, List.length_append, List.sum_cons, List.length_cons]
    omega
theorem totalS_take_le (K : Rowz) (k : Nat) : totalS (K.take k) ≤ totalS K := by
  have h : totalS K = totalS (K.take k) + totalS (K.drop k) := by
    unfold totalS
    rw [← List.sum_append, ← List.map_append, List.take_append_drop]
  omega
theorem totalS_mem {K : Rowz} {s : List UInt8} (h : s ∈ K) : s.length ≤ totalS K := by
  unfold totalS
  induction K with
  | nil => cases h
  | cons a K ih =>
    simp only [List.map_cons, List.sum_cons]
    rcases List.mem_cons.1 h with rfl | h
    · omega
    · have := ih h; omega
/-- The bytes that are sealed. -/
def rpBody (x : Rp) : List UInt8 := packT (fmtL x.lv) ++ packI [x.players, x.seed, x.every, (x.rows.length : Int)] ++ colsT x.rows x.players.toNat ++ keysT x.keys
def encRp (x : Rp) : List UInt8 := if replayB x then sealL (rpBody x) else []
theorem encRp_no {x : Rp} (h : replayB x = false) : encRp x = [] := by unfold encRp; rw [h]; rfl
theorem encRp_yes {x : Rp} (h : replayB x = true) : encRp x = sealL (rpBody x) := by unfold encRp; rw [h]; rfl
set_option maxRecDepth 100000 in
set_option maxHeartbeats 8000000 in
theorem encodeReplay_impl {w : World} {x : Rp} {vl vs vb : Value} (h : RdRp w x vl vs vb) (hs : x.sane) (hn : x.few) (hk : totalS x.keys ≤ 1048576) (hcp : CapOk vl) :
    Calls Tryd.prog 31 #[.agg (rpC x vl vs vb)] w fun e w' => e = .returned (.string ⟨(encRp x).toArray⟩) ∧ Below w.heap.size w w' := by
  obtain ⟨hs1, hs2, hs3⟩ := id hs
  obtain ⟨hn1, ⟨hn2, hn4⟩, hn3⟩ := hn
  have h0 := h
  have hok := fun {W : World} (hb : Below w.heap.size w W) => replayOk_impl (h0.keep hb) hs
  obtain ⟨al, cl, rfl, -⟩ := id h.1
  obtain ⟨aq, cq, rfl, -⟩ := id h.2.1
  obtain ⟨ab, cb, rfl, hkc⟩ := id h.2.2
  unfold rpC at hok ⊢
  obtain ⟨W0, hW, hA, hB0, hS0⟩ := rows1 w #[Value.slice al x.lv.length cl, .int .i64 x.players, .int .i64 x.seed, .int .i64 x.every, .slice aq x.rows.length cq, .slice ab x.keys.length cb] 44
  have cA := rowCells hA
  cases hq : replayB x with
  | false =>
    have HF := Lib.hid (encRp_no hq)
    rw [hq] at hok
    clear hq
    go_enter Tryd.func31, Tryd.ntmps31
    go_wp2_with (fail)
    try rw [hW]
    clear hW
    refine (hok hB0).mono ?_
    rintro e w1 ⟨rfl, hb1⟩
    go_wp2_with (fail)
    go_ret
    exact ⟨by rw [HF.out]; rfl, hB0.trans (hb1.mono hB0.size)⟩
  | true =>
  have HF := encRp_yes hq
  obtain ⟨-, hp4, -, -, h400, hrw, -⟩ := rp_facts hq
  have hp4 := (inR_iff _ _ _).1 hp4
  rw [hq] at hok
  obtain ⟨n, hpn⟩ : ∃ n : Nat, x.players = (n : Int) := ⟨x.players.toNat, by omega⟩
  have hn4' : n ≤ 4 := by omega
  have hpk : ∀ k (hk : k < x.rows.length), n ≤ x.rows[k].length := fun k hk => by have := (rokB_facts (rowsB_at hrw hk)).1; omega
  have HPK := Lib.hid hpk
  unfold rpBody at HF
  rw [show x.players.toNat = n by omega] at HF
  have n1 : (packT (fmtL x.lv)).length ≤ 258 := by have := packT_le (fmtL x.lv); have := fmtL_len x.lv; omega
  have n0 := fmtL_len x.lv
  have n2 : (packI [x.players, x.seed, x.every, (x.rows.length : Int)]).length ≤ 30 := by have := packI_len [x.players, x.seed, x.every, (x.rows.length : Int)]; simp only [List.length_cons, List.length_nil] at this; omega
  obtain ⟨L1, e1⟩ : ∃ l, fmtL x.lv = l := ⟨_, rfl⟩
  rw [e1] at HF n1 n0
  obtain ⟨L2, e2⟩ : ∃ l, packT L1 = l := ⟨_, rfl⟩
  rw [e2] at HF n1
  obtain ⟨L3, e3⟩ : ∃ l, packI [x.players, x.seed, x.every, (x.rows.length : Int)] = l := ⟨_, rfl⟩
  rw [e3] at HF n2
  have E1 := Lib.hid e1
  have E2 := Lib.hid e2
  have E3 := Lib.hid e3
  have HF := Lib.hid HF
  have HPN := Lib.hid hpn
  clear e1 e2 e3 hq hrw hpk hpn
  have hlb : (x.keys.length : Int) ≤ 9223372036854775807 := by omega
  go_enter Tryd.func31, Tryd.ntmps31
  go_wp2_with (fail)
  try rw [hW]
  clear hW
  refine (hok hB0).mono ?_
  rintro e w1 ⟨rfl, hb1⟩
  have hb01 := hB0.trans (hb1.mono hB0.size)
  have hA1 := keepHeap hb1 hA
  clear hok cA hA hb1 hB0
  have hbld2 := Bld.fresh w1
  have hB2 := hb01.trans ((below1 w1 (.cells #[.pointer none, .slice none 0 0] 88)).mono hb01.size)
  have hA2 := keepHeap (below1 w1 (.cells #[.pointer none, .slice none 0 0] 88)) hA1
  have cA2 := rowCells hA2
  have hsz1 := hb01.size
  have hlt1 : w.heap.size < w1.heap.size := blockLt hA1
  have hwx : w1.heap.size < (w1.alloc (.cells #[.pointer none, .slice none 0 0] 88)).heap.size := by simp
  go_wp2_with (fail)
  refine (formatLevel_impl (h0.keep hB2).1 hs1 hcp).mono ?_
  rintro e w3 ⟨rfl, hb3⟩
  rw [E1.out]
  have hb03 := hB2.trans (hb3.mono hB2.size)
  have hbl3 := hbld2.keep hb3
  have hA3 := keepHeap hb3 hA2
  have hs3' := hb3.size
  go_wp2_with (fail)
  refine (packText_impl L1 _ (by omega)).mono ?_
  rintro e w4 ⟨rfl, hb4⟩
  rw [E2.out]
  have hb04 := hb03.trans (hb4.mono hb03.size)
  have hbl4 := hbl3.keep hb4
  have hA4 := keepHeap hb4 hA3
  have hs4 := hb4.size
  go_wp2_with (fail)
  refine (bld_write hbl4 L2 (by simp; omega) (by omega)).mono ?_
  rintro e w5 ⟨rfl, hbl5, hb5, -⟩
  rw [List.nil_append] at hbl5
  have hb05 := hb04.trans (hb5.mono (by omega))
  have hA5 := (hb5.block w.heap.size (by omega)).trans hA4
  have cA5 := rowCells hA5
  have hs5 := hb5.size
  clear hb3 hb4 hb5 hbl3 hbl4 hA3 hA4 hb03 hb04 cA2 hA2 hB2 hbld2
  obtain ⟨W6, hW6, rx6, hb6⟩ : ∃ W, w5.alloc (.cells #[.int .i64 x.players, .int .i64 x.seed, .int .i64 x.every, .int .i64 (x.rows.length : Int)] 3) = W ∧ RdI W (.slice (some ⟨w5.heap.size, 0, none⟩) 4 4) [x.players, x.seed, x.every, (x.rows.length : Int)] ∧ Below w5.heap.size w5 W := ⟨_, rfl, RdI.fresh _ _ rfl rfl, below1 _ _⟩
  have hb06 := hb05.trans (hb6.mono hb05.size)
  have hbl6 := hbl5.keep hb6
  have hA6 := keepHeap hb6 hA5
  have hs6 := hb6.size
  go_wp2_with (fail)
  try rw [hW6]
  clear hW6
  refine (packNumbers_impl rx6 (by simp)).mono ?_
  rintro e w7 ⟨rfl, hb7⟩
  rw [E3.out]
  have hb07 := hb06.trans (hb7.mono hb06.size)
  have hbl7 := hbl6.keep hb7
  have hA7 := keepHeap hb7 hA6
  have hs7 := hb7.size
  go_wp2_with (fail)
  refine (bld_write hbl7 L3 (by omega) (by omega)).mono ?_
  rintro e w8 ⟨rfl, hbl8, hb8, -⟩
  have hb08 := hb07.trans (hb8.mono (by omega))
  have hA8 := (hb8.block w.heap.size (by omega)).trans hA7
  have hs8 := hb8.size
  clear hb6 hb7 hb8 hbl5 hbl6 hbl7 hA5 hA6 hA7 hb05 hb06 hb07 cA5 rx6
  have hpr := packRows_impl (h0.keep hb08).2.1 h400 n hn4' HPK.out hn4
  rw [← HPN.out] at hpr
  have hcl : (colsT x.rows n).length ≤ 9624 := by
    have h1 := colsT_len x.rows n
    have h2 : n * (6 * x.rows.length + 6) ≤ 4 * (6 * 400 + 6) := Nat.mul_le_mul (by omega) (by omega)
    omega
  obtain ⟨L4, e4⟩ : ∃ l, colsT x.rows n = l := ⟨_, rfl⟩
  rw [e4] at hpr hcl HF
  have cA8 := rowCells hA8
  clear e4
  go_wp2_with (fail)
  refine hpr.mono ?_
  rintro e w9 ⟨rfl, hb9⟩
  have hb09 := hb08.trans (hb9.mono hb08.size)
  have hbl9 := hbl8.keep hb9
  have hA9 := keepHeap hb9 hA8
  have hs9 := hb9.size
  go_wp2_with (fail)
  refine (bld_write hbl9 L4 (by simp; omega) (by omega)).mono ?_
  rintro e w10 ⟨rfl, hbl10, hb10, -⟩
  have hb010 := hb09.trans (hb10.mono (by omega))
  have hA10 := (hb10.block w.heap.size (by omega)).trans hA9
  have cA10 := rowCells hA10
  have hs10 := hb10.size
  clear hb9 hb10 hbl8 hbl9 hA8 hA9 hb08 hb09 cA8 hpr
  obtain ⟨P, eP⟩ : ∃ l, L2 ++ L3 ++ L4 = l := ⟨_, rfl⟩
  rw [eP] at hbl10 HF
  have hPl : P.length ≤ 10000 := by rw [← eP]; simp; omega
  clear eP
  have hKL := keysT_len x.keys
  go_wp2_with (fail)
  go_loopw [35] (fun i wr => ∃ k : Nat, k ≤ x.keys.length ∧ i = .int .i64 (k : Int) ∧ Bld wr w1.heap.size w1.heap.size (P ++ keysT (x.keys.take k)) ∧ Below w.heap.size w wr ∧ w1.heap.size < wr.heap.size) (fun i _ => x.keys.length - (intOf i).toNat)
  case atStart => exact ⟨0, Nat.zero_le _, rfl, by simpa [keysT] using hbl10, hb010, by omega⟩
  case round =>
    obtain ⟨k, hk, rfl, hbl, hbel, hsz⟩ := hrel
    have hac : (P ++ keysT (x.keys.take k)).length ≤ 7400000 := by
      have h1 := keysT_len (x.keys.take k)
      have h2 := totalS_take_le x.keys k
      rw [List.length_take] at h1
      simp; omega
    by_cases hkl : k < x.keys.length
    · obtain ⟨b, off, rfl, hc⟩ := hkc.resolve_left (by intro e; rw [e] at hkl; simp at hkl)
      have c0 := hc k hkl
      have c1 := (hbel.cell (World.block_lt_of_cell? w _ c0)).trans c0
      have hkk : (k : Int) < (x.keys.length : Int) := by omega
      have hxl := totalS_mem (List.getElem_mem hkl)
      have HS : Hid (P ++ keysT (x.keys.take (k + 1)) = (P ++ keysT (x.keys.take k)) ++ packT x.keys[k]) := Lib.hid (by rw [keysT_take _ _ hkl, List.append_assoc])
      obtain ⟨s, es⟩ : ∃ s, x.keys[k] = s := ⟨_, rfl⟩
      rw [es] at c1 hxl HS
      obtain ⟨T, eT⟩ : ∃ l, packT s = l := ⟨_, rfl⟩
      have hTl := packT_le s
      have hpt := packText_impl s
      rw [eT] at HS hTl hpt
      obtain ⟨acc, ea⟩ : ∃ l, P ++ keysT (x.keys.take k) = l := ⟨_, rfl⟩
      rw [ea] at HS hbl hac
      clear c0 hc es eT ea
      go_wp2_with (fail)
      refine (hpt wr (by omega)).mono ?_
      rintro e w2 ⟨rfl, hb2⟩
      have hbl2 := hbl.keep hb2
      have hs2' := hb2.size
      have hb02 := hbel.trans (hb2.mono hbel.size)
      go_wp2_with (fail)
      refine (bld_write hbl2 T (by omega) (by omega)).mono ?_
      rintro e w3 ⟨rfl, hbl3, hb3, -⟩
      have hs3'' := hb3.size
      have hb03 := hb02.trans (hb3.mono (by omega))
      go_wp2_with (fail)
      go_roundw
      case rel => exact ⟨k + 1, by omega, by go_num, by rw [HS.out]; exact hbl3, hb03, by omega⟩
      case measure => simp [intOf]; omega
    · have e : x.keys.take k = x.keys := List.take_of_length_le (by omega)
      rw [e] at hbl hac
      obtain ⟨Z, ez⟩ : ∃ l, P ++ keysT x.keys = l := ⟨_, rfl⟩
      rw [ez] at hbl hac HF
      clear e ez
      go_wp2_with (fail)
      refine (bld_string hbl (by omega)).mono ?_
      rintro e w2 ⟨rfl, -, hb2, -⟩
      have hb02 := hbel.trans (hb2.mono (by omega))
      go_wp2_with (fail)
      refine (sealText_impl Z _ (by omega)).mono ?_
      rintro e w3 ⟨rfl, hb3⟩
      go_wp2_with (fail)
      go_ret
      exact ⟨by rw [HF.out]; rfl, hb02.trans (hb3.mono hb02.size)⟩
set_option maxRecDepth 100000 in
set_option maxHeartbeats 8000000 in
theorem encodeReplay_spec {w : World} {x : Rp} {vl vs vb : Value} (h : RdRp w x vl vs vb) (hs : x.sane) (hn : x.few) (hk : totalS x.keys ≤ 1048576) :
    Calls Tryd.prog 30 #[.agg (rpC x vl vs vb)] w fun e w' => e = .returned (.string ⟨(encRp x).toArray⟩) ∧ Below w.heap.size w w' := by
  obtain ⟨hs1, hs2, hs3⟩ := id hs
  obtain ⟨hn1, ⟨hn2, hn4⟩, hn3⟩ := hn
  have h0 := h
  have hok := fun {W : World} (hb : Below w.heap.size w W) => replayOk_spec (h0.keep hb) hs
  obtain ⟨al, cl, rfl, -⟩ := id h.1
  obtain ⟨aq, cq, rfl, -⟩ := id h.2.1
  obtain ⟨ab, cb, rfl, hkc⟩ := id h.2.2
  unfold rpC at hok ⊢
  obtain ⟨W0, hW, hA, hB0, hS0⟩ := rows1 w #[Value.slice al x.lv.length cl, .int .i64 x.players, .int .i64 x.seed, .int .i64 x.every, .slice aq x.rows.length cq, .slice ab x.keys.length cb] 44
  have cA := rowCells hA
  cases hq : replayB x with
  | false =>
    have HF := Lib.hid (encRp_no hq)
    rw [hq] at hok
    clear hq
    go_enter Tryd.func30, Tryd.ntmps30
    go_wp2_with (fail)
    try rw [hW]
    clear hW
    refine (hok hB0).mono ?_
    rintro e w1 ⟨rfl, hb1⟩
    go_wp2_with (fail)
    go_ret
    exact ⟨by rw [HF.out]; rfl, hB0.trans (hb1.mono hB0.size)⟩
  | true =>
  have HF := encRp_yes hq
  obtain ⟨-, hp4, -, -, h400, hrw, -⟩ := rp_facts hq
  have hp4 := (inR_iff _ _ _).1 hp4
  rw [hq] at hok
  obtain ⟨n, hpn⟩ : ∃ n : Nat, x.players = (n : Int) := ⟨x.players.toNat, by omega⟩
  have hn4' : n ≤ 4 := by omega
  have hpk : ∀ k (hk : k < x.rows.length), n ≤ x.rows[k].length := fun k hk => by have := (rokB_facts (rowsB_at hrw hk)).1; omega
  have HPK := Lib.hid hpk
  unfold rpBody at HF
  rw [show x.players.toNat = n by omega] at HF
  have n1 : (packT (fmtL x.lv)).length ≤ 258 := by have := packT_le (fmtL x.lv); have := fmtL_len x.lv; omega
  have n0 := fmtL_len x.lv
  have n2 : (packI [x.players, x.seed, x.every, (x.rows.length : Int)]).length ≤ 30 := by have := packI_len [x.players, x.seed, x.every, (x.rows.length : Int)]; simp only [List.length_cons, List.length_nil] at this; omega
  obtain ⟨L1, e1⟩ : ∃ l, fmtL x.lv = l := ⟨_, rfl⟩
  rw [e1] at HF n1 n0
  obtain ⟨L2, e2⟩ : ∃ l, packT L1 = l := ⟨_, rfl⟩
  rw [e2] at HF n1
  obtain ⟨L3, e3⟩ : ∃ l, packI [x.players, x.seed, x.every, (x.rows.length : Int)] = l := ⟨_, rfl⟩
  rw [e3] at HF n2
  have E1 := Lib.hid e1
  have E2 := Lib.hid e2
  have E3 := Lib.hid e3
  have HF := Lib.hid HF
  have HPN := Lib.hid hpn
  clear e1 e2 e3 hq hrw hpk hpn
  have hlb : (x.keys.length : Int) ≤ 9223372036854775807 := by omega
  obtain ⟨L23, e5⟩ : ∃ l, L2 ++ L3 = l := ⟨_, rfl⟩
  rw [e5] at HF
  have hL23 : L23.length ≤ 300 := by rw [← e5]; simp; omega
  have hcc : ∀ W, (Op.stringOp .add ⟨L2.toArray⟩ ⟨L3.toArray⟩).run Tryd.prog W = .ok (.string ⟨L23.toArray⟩) W := fun W => by rw [run_string_add_lists W _ _ (by omega) (by omega), e5]
  clear e5
  go_enter Tryd.func30, Tryd.ntmps30
  go_wp2_with (fail)
  try rw [hW]
  clear hW
  refine (hok hB0).mono ?_
  rintro e w1 ⟨rfl, hb1⟩
  have hb01 := hB0.trans (hb1.mono hB0.size)
  have hA1 := keepHeap hb1 hA
  have rl1 := (h0.keep hb01).1
  clear hok cA hA hb1 hB0
  go_upto_region 3 with (fail)
  go_cut [3] from 9 (fun s wr => s = .string ⟨L23.toArray⟩ ∧ Below w1.heap.size w1 wr)
  case first =>
    have bs_0 : Below w1.heap.size w1 w1.drew := belowDrew w1 1
    refine wp_region_held_drew (S := (fun w' => (∀ j, w'.cell? ⟨w.heap.size, j, none⟩ = #[Value.slice al x.lv.length cl, .int .i64 x.players, .int .i64 x.seed, .int .i64 x.every, .slice aq x.rows.length cq, .slice ab x.keys.length cb][j]?))) (by kernel_rfl) ?_ (fun hHeld => ?_)
    · exact rowCells (keepHeap bs_0 hA1)
    refine take_on (i := 0) (v := ?_) (some 9) rfl (by kernel_rfl) (by kernel_rfl) (by kernel_rfl) rfl (fun _ _ _ h => h) (by rfl) ?_ (by assumption) ?_
    rotate_left
    · intro w hSw; (try dsimp only at hSw); go_simp; (try with_reducible rfl)
    (try simp only [Act.put, List.setIfInBounds_toArray, List.set_cons_zero, List.set_cons_succ])
    refine take_on (i := 1) (v := ?_) (some 10) rfl (by kernel_rfl) (by kernel_rfl) (by kernel_rfl) rfl (fun _ _ _ h => h) (by rfl) ?_ (by assumption) ?_
    rotate_left
    · intro w hSw; (try dsimp only at hSw); go_simp; (try with_reducible rfl)
    (try simp only [Act.put, List.setIfInBounds_toArray, List.set_cons_zero, List.set_cons_succ])
    refine take_on (i := 4) (v := ?_) (some 13) rfl (by kernel_rfl) (by kernel_rfl) (by kernel_rfl) rfl (fun _ _ _ h => h) (by rfl) ?_ (by assumption) ?_
    rotate_left
    · intro w hSw; (try dsimp only at hSw); go_simp; (try with_reducible rfl)
    (try simp only [Act.put, List.setIfInBounds_toArray, List.set_cons_zero, List.set_cons_succ])
    refine take_on (i := 5) (v := ?_) (some 14) rfl (by kernel_rfl) (by kernel_rfl) (by kernel_rfl) rfl (fun _ _ _ h => h) (by rfl) ?_ (by assumption) ?_
    rotate_left
    · intro w hSw; (try dsimp only at hSw); go_simp; (try with_reducible rfl)
    (try simp only [Act.put, List.setIfInBounds_toArray, List.set_cons_zero, List.set_cons_succ])
    refine take_on (i := 6) (v := ?_) (some 15) rfl (by kernel_rfl) (by kernel_rfl) (by kernel_rfl) rfl (fun _ _ _ h => h) (by rfl) ?_ (by assumption) ?_
    rotate_left
    · intro w hSw; (try dsimp only at hSw); go_simp; (try with_reducible rfl)
    (try simp only [Act.put, List.setIfInBounds_toArray, List.set_cons_zero, List.set_cons_succ])
    refine take_on (i := 7) (v := ?_) (some 16) rfl (by kernel_rfl) (by kernel_rfl) (by kernel_rfl) rfl (fun _ _ _ h => h) (by rfl) ?_ (by assumption) ?_
    rotate_left
    · intro w hSw; (try dsimp only at hSw); go_simp; (try with_reducible rfl)
    (try simp only [Act.put, List.setIfInBounds_toArray, List.set_cons_zero, List.set_cons_succ])
    refine take_on (i := 8) (v := ?_) (some 17) rfl (by kernel_rfl) (by kernel_rfl) (by kernel_rfl) rfl (fun _ _ _ h => h) (by rfl) ?_ (by assumption) ?_
    rotate_left
    · intro w hSw; (try dsimp only at hSw); go_simp; (try with_reducible rfl)
    (try simp only [Act.put, List.setIfInBounds_toArray, List.set_cons_zero, List.set_cons_succ])
    refine take_on (i := 9) (v := ?_) (some 18) rfl (by kernel_rfl) (by kernel_rfl) (by kernel_rfl) rfl (fun _ _ _ h => h) (by rfl) ?_ (by assumption) ?_
    rotate_left
    · intro w hSw; (try dsimp only at hSw); go_simp; (try with_reducible rfl)
    (try simp only [Act.put, List.setIfInBounds_toArray, List.set_cons_zero, List.set_cons_succ])
    refine take_on (i := 10) (v := ?_) (some 19) rfl (by kernel_rfl) (by kernel_rfl) (by kernel_rfl) rfl (fun _ _ _ h => h) (by rfl) ?_ (by assumption) ?_
    rotate_left
    · intro w hSw; (try dsimp only at hSw); go_simp; (try with_reducible rfl)
    (try simp only [Act.put, List.setIfInBounds_toArray, List.set_cons_zero, List.set_cons_succ])
    refine take_on (i := 11) (v := ?_) (some 20) rfl (by kernel_rfl) (by kernel_rfl) (by kernel_rfl) rfl (fun _ _ _ h => h) (by rfl) ?_ (by assumption) ?_
    rotate_left
    · intro w hSw; (try dsimp only at hSw); go_simp; (try with_reducible rfl)
    (try simp only [Act.put, List.setIfInBounds_toArray, List.set_cons_zero, List.set_cons_succ])
    refine take_on (i := 12) (v := ?_) (some 21) rfl (by kernel_rfl) (by kernel_rfl) (by kernel_rfl) rfl (fun _ _ _ h => h) (by rfl) ?_ (by assumption) ?_
    rotate_left
    · intro w hSw; (try dsimp only at hSw); go_simp; (try with_reducible rfl)
    (try simp only [Act.put, List.setIfInBounds_toArray, List.set_cons_zero, List.set_cons_succ])
    refine wpAnyH_ready (rs := [2, 13]) (by kernel_rfl) (by simp) ?_
    refine AllReadyH.cons rfl (fun K hK => ?_) (AllReadyH.cons rfl (fun K hK => ?_) AllReadyH.nil)
    · go_simp
      refine (formatLevel_spec (rl1.keep bs_0) hs1).mono ?_
      rintro e w_1 ⟨rfl, hb_1⟩
      have bs_1 := bs_0.trans (hb_1.mono bs_0.size)
      rw [E1.out]
      (try go_wp2_with (fail))
      refine hK.out _ _ ?_ (fun hHeld => ?_)
      · exact rowCells (keepHeap bs_1 hA1)
      clear hK K
      (try simp only [Act.put, List.setIfInBounds_toArray, List.set_cons_zero, List.set_cons_succ])
      refine wpAnyH_ready (rs := [3, 13]) (by kernel_rfl) (by simp) ?_
      refine AllReadyH.cons rfl (fun K hK => ?_) (AllReadyH.cons rfl (fun K hK => ?_) AllReadyH.nil)
      · go_simp
        refine (packText_spec L1 _ (by omega)).mono ?_
        rintro e w_2 ⟨rfl, hb_2⟩
        have bs_2 := bs_1.trans (hb_2.mono bs_1.size)
        rw [E2.out]
        (try go_wp2_with (fail))
        refine hK.out _ _ ?_ (fun hHeld => ?_)
        · exact rowCells (keepHeap bs_2 hA1)
        clear hK K
        (try simp only [Act.put, List.setIfInBounds_toArray, List.set_cons_zero, List.set_cons_succ])
        refine wpAnyH_ready (rs := [13]) (by kernel_rfl) (by simp) ?_
        refine AllReadyH.cons rfl (fun K hK => ?_) AllReadyH.nil
        go_simp
        obtain ⟨w_3, hw_3, nz_3, hb_3⟩ : ∃ W, w_2.alloc (.cells #[.int .i64 x.players, .int .i64 x.seed, .int .i64 x.every, .int .i64 (x.rows.length : Int)] 3) = W ∧ RdI W (.slice (some ⟨w_2.heap.size, 0, none⟩) 4 4) [x.players, x.seed, x.every, (x.rows.length : Int)] ∧ Below w_2.heap.size w_2 W := ⟨_, rfl, RdI.fresh _ _ rfl rfl, below1 w_2 _⟩
        try rw [hw_3]
        clear hw_3
        have bs_3 := bs_2.trans (hb_3.mono bs_2.size)
        refine hK.out _ _ ?_ (fun hHeld => ?_)
        · exact rowCells (keepHeap bs_3 hA1)
        clear hK K
        (try simp only [Act.put, List.setIfInBounds_toArray, List.set_cons_zero, List.set_cons_succ])
        refine wpAnyH_ready (rs := [14]) (by kernel_rfl) (by simp) ?_
        refine AllReadyH.cons rfl (fun K hK => ?_) AllReadyH.nil
        go_simp
        refine (packInts_spec nz_3 (by simp)).mono ?_
        rintro e w_4 ⟨rfl, hb_4⟩
        have bs_4 := bs_3.trans (hb_4.mono bs_3.size)
        have nz_4 := nz_3.keep hb_4
        rw [E3.out]
        (try go_wp2_with (fail))
        refine hK.out _ _ ?_ (fun hHeld => ?_)
        · exact rowCells (keepHeap bs_4 hA1)
        clear hK K
        (try simp only [Act.put, List.setIfInBounds_toArray, List.set_cons_zero, List.set_cons_succ])
        refine take_on (i := 15) (v := ?_) (some 24) rfl (by kernel_rfl) (by kernel_rfl) (by kernel_rfl) rfl (fun _ _ _ h => h) (by rfl) ?_ (by assumption) ?_
        rotate_left
        · intro w hSw; (try dsimp only at hSw); go_simp; (try with_reducible rfl)
        (try simp only [Act.put, List.setIfInBounds_toArray, List.set_cons_zero, List.set_cons_succ])
        refine take_on (i := 16) (v := ?_) (some 3) rfl (by kernel_rfl) (by kernel_rfl) (by kernel_rfl) rfl (fun _ _ _ h => h) (by rfl) ?_ (by assumption) ?_
        rotate_left
        · intro w hSw; (try dsimp only at hSw); go_simp; (try with_reducible rfl)
        (try simp only [Act.put, List.setIfInBounds_toArray, List.set_cons_zero, List.set_cons_succ])
        refine wpAnyH_done (by kernel_rfl) ?_ _
        go_wp2_with (fail)
        go_meet
        case rel => exact ⟨rfl, bs_4⟩
      · go_simp
        obtain ⟨w_2, hw_2, nz_2, hb_2⟩ : ∃ W, w_1.alloc (.cells #[.int .i64 x.players, .int .i64 x.seed, .int .i64 x.every, .int .i64 (x.rows.length : Int)] 3) = W ∧ RdI W (.slice (some ⟨w_1.heap.size, 0, none⟩) 4 4) [x.players, x.seed, x.every, (x.rows.length : Int)] ∧ Below w_1.heap.size w_1 W := ⟨_, rfl, RdI.fresh _ _ rfl rfl, below1 w_1 _⟩
        try rw [hw_2]
        clear hw_2
        have bs_2 := bs_1.trans (hb_2.mono bs_1.size)
        refine hK.out _ _ ?_ (fun hHeld => ?_)
        · exact rowCells (keepHeap bs_2 hA1)
        clear hK K
        (try simp only [Act.put, List.setIfInBounds_toArray, List.set_cons_zero, List.set_cons_succ])
        refine wpAnyH_ready (rs := [3]) (by kernel_rfl) (by simp) ?_
        refine AllReadyH.cons rfl (fun K hK => ?_) AllReadyH.nil
        go_simp
        refine (packText_spec L1 _ (by omega)).mono ?_
        rintro e w_3 ⟨rfl, hb_3⟩
        have bs_3 := bs_2.trans (hb_3.mono bs_2.size)
        have nz_3 := nz_2.keep hb_3
        rw [E2.out]
        (try go_wp2_with (fail))
        refine hK.out _ _ ?_ (fun hHeld => ?_)
        · exact rowCells (keepHeap bs_3 hA1)
        clear hK K
        (try simp only [Act.put, List.setIfInBounds_toArray, List.set_cons_zero, List.set_cons_succ])
        refine wpAnyH_ready (rs := [14]) (by kernel_rfl) (by simp) ?_
        refine AllReadyH.cons rfl (fun K hK => ?_) AllReadyH.nil
        go_simp
        refine (packInts_spec nz_3 (by simp)).mono ?_
        rintro e w_4 ⟨rfl, hb_4⟩
        have bs_4 := bs_3.trans (hb_4.mono bs_3.size)
        have nz_4 := nz_3.keep hb_4
        rw [E3.out]
        (try go_wp2_with (fail))
        refine hK.out _ _ ?_ (fun hHeld => ?_)
        · exact rowCells (keepHeap bs_4 hA1)
        clear hK K
        (try simp only [Act.put, List.setIfInBounds_toArray, List.set_cons_zero, List.set_cons_succ])
        refine take_on (i := 15) (v := ?_) (some 24) rfl (by kernel_rfl) (by kernel_rfl) (by kernel_rfl) rfl (fun _ _ _ h => h) (by rfl) ?_ (by assumption) ?_
        rotate_left
        · intro w hSw; (try dsimp only at hSw); go_simp; (try with_reducible rfl)
        (try simp only [Act.put, List.setIfInBounds_toArray, List.set_cons_zero, List.set_cons_succ])
        refine take_on (i := 16) (v := ?_) (some 3) rfl (by kernel_rfl) (by kernel_rfl) (by kernel_rfl) rfl (fun _ _ _ h => h) (by rfl) ?_ (by assumption) ?_
        rotate_left
        · intro w hSw; (try dsimp only at hSw); go_simp; (try with_reducible rfl)
        (try simp only [Act.put, List.setIfInBounds_toArray, List.set_cons_zero, List.set_cons_succ])
        refine wpAnyH_done (by kernel_rfl) ?_ _
        go_wp2_with (fail)
        go_meet
        case rel => exact ⟨rfl, bs_4⟩
    · go_simp
      obtain ⟨w_1, hw_1, nz_1, hb_1⟩ : ∃ W, (w1.alloc (.cells #[.int .i64 x.players, .int .i64 x.seed, .int .i64 x.every, .int .i64 (x.rows.length : Int)] 3)).drew = W ∧ RdI W (.slice (some ⟨w1.heap.size, 0, none⟩) 4 4) [x.players, x.seed, x.every, (x.rows.length : Int)] ∧ Below w1.drew.heap.size w1.drew W := ⟨_, rfl, RdI.fresh _ _ rfl rfl, below1 w1.drew _⟩
      try rw [hw_1]
      clear hw_1
      have bs_1 := bs_0.trans (hb_1.mono bs_0.size)
      refine hK.out _ _ ?_ (fun hHeld => ?_)
      · exact rowCells (keepHeap bs_1 hA1)
      clear hK K
      (try simp only [Act.put, List.setIfInBounds_toArray, List.set_cons_zero, List.set_cons_succ])
      refine wpAnyH_ready (rs := [2]) (by kernel_rfl) (by simp) ?_
      refine AllReadyH.cons rfl (fun K hK => ?_) AllReadyH.nil
      go_simp
      refine (formatLevel_spec (rl1.keep bs_1) hs1).mono ?_
      rintro e w_2 ⟨rfl, hb_2⟩
      have bs_2 := bs_1.trans (hb_2.mono bs_1.size)
      have nz_2 := nz_1.keep hb_2
      rw [E1.out]
      (try go_wp2_with (fail))
      refine hK.out _ _ ?_ (fun hHeld => ?_)
      · exact rowCells (keepHeap bs_2 hA1)
      clear hK K
      (try simp only [Act.put, List.setIfInBounds_toArray, List.set_cons_zero, List.set_cons_succ])
      refine wpAnyH_ready (rs := [3]) (by kernel_rfl) (by simp) ?_
      refine AllReadyH.cons rfl (fun K hK => ?_) AllReadyH.nil
      go_simp
      refine (packText_spec L1 _ (by omega)).mono ?_
      rintro e w_3 ⟨rfl, hb_3⟩
      have bs_3 := bs_2.trans (hb_3.mono bs_2.size)
      have nz_3 := nz_2.keep hb_3
      rw [E2.out]
      (try go_wp2_with (fail))
      refine hK.out _ _ ?_ (fun hHeld => ?_)
      · exact rowCells (keepHeap bs_3 hA1)
      clear hK K
      (try simp only [Act.put, List.setIfInBounds_toArray, List.set_cons_zero, List.set_cons_succ])
      refine wpAnyH_ready (rs := [14]) (by kernel_rfl) (by simp) ?_
      refine AllReadyH.cons rfl (fun K hK => ?_) AllReadyH.nil
      go_simp
      refine (packInts_spec nz_3 (by simp)).mono ?_
      rintro e w_4 ⟨rfl, hb_4⟩
      have bs_4 := bs_3.trans (hb_4.mono bs_3.size)
      have nz_4 := nz_3.keep hb_4
      rw [E3.out]
      (try go_wp2_with (fail))
      refine hK.out _ _ ?_ (fun hHeld => ?_)
      · exact rowCells (keepHeap bs_4 hA1)
      clear hK K
      (try simp only [Act.put, List.setIfInBounds_toArray, List.set_cons_zero, List.set_cons_succ])
      refine take_on (i := 15) (v := ?_) (some 24) rfl (by kernel_rfl) (by kernel_rfl) (by kernel_rfl) rfl (fun _ _ _ h => h) (by rfl) ?_ (by assumption) ?_
      rotate_left
      · intro w hSw; (try dsimp only at hSw); go_simp; (try with_reducible rfl)
      (try simp only [Act.put, List.setIfInBounds_toArray, List.set_cons_zero, List.set_cons_succ])
      refine take_on (i := 16) (v := ?_) (some 3) rfl (by kernel_rfl) (by kernel_rfl) (by kernel_rfl) rfl (fun _ _ _ h => h) (by rfl) ?_ (by assumption) ?_
      rotate_left
      · intro w hSw; (try dsimp only at hSw); go_simp; (try with_reducible rfl)
      (try simp only [Act.put, List.setIfInBounds_toArray, List.set_cons_zero, List.set_cons_succ])
      refine wpAnyH_done (by kernel_rfl) ?_ _
      go_wp2_with (fail)
      go_meet
      case rel => exact ⟨rfl, bs_4⟩
  obtain ⟨rfl, hbc⟩ := hcut
  obtain ⟨w3, ew⟩ : ∃ w3, w3 = wc := ⟨_, rfl⟩
  subst ew
  have hb03 := hb01.trans (hbc.mono hb01.size)
  have hA3 := keepHeap hbc hA1
  clear hcc rl1 hbc hA1
  go_wp2_with (fail)
  go_loopw [3, 4] (fun s i wr => ∃ k : Nat, k ≤ n ∧ i = .int .i64 (k : Int) ∧ s = .string ⟨(L23 ++ colsT x.rows k).toArray⟩ ∧ Below w3.heap.size w3 wr) (fun _ i _ => n - (intOf i).toNat)
  case atStart => exact ⟨0, Nat.zero_le _, rfl, by rw [colsT_zero, List.append_nil], Below.refl _ _⟩
  case round =>
    obtain ⟨k, hk, rfl, rfl, hb3r⟩ := hrel
    have hbel := hb03.trans (hb3r.mono hb03.size)
    have hAr := keepHeap hb3r hA3
    have cAr := rowCells hAr
    have hlen : (colsT x.rows k).length ≤ 9624 := by
      have h1 := colsT_len x.rows k
      have h2 : k * (6 * x.rows.length + 6) ≤ 4 * (6 * 400 + 6) := Nat.mul_le_mul (by omega) (by omega)
      omega
    by_cases hkn : k < n
    · have hkn' : (k : Int) < x.players := by have := HPN.out; omega
      have hC := l07Column_any (h0.keep hbel).2.1 hn2 k (fun j hj => by have := HPK.out j hj; omega) hn4
      have HS := colsT_succ x.rows k
      have hpk : (packTr (colL x.rows k)).length ≤ 2400 := by have := packTr_len (colL x.rows k); rw [colL_len] at this; omega
      unfold colT at HS
      have hcol := colL_len x.rows k
      generalize colL x.rows k = C at *
      obtain ⟨P, eP⟩ : ∃ l, packTr C = l := ⟨_, rfl⟩
      rw [eP] at HS hpk
      have EP := Lib.hid eP
      obtain ⟨Q, eQ⟩ : ∃ l, packT P = l := ⟨_, rfl⟩
      have hQl := packT_le P
      have hpt := packText_spec P
      rw [eQ] at HS hQl hpt
      obtain ⟨A1, ea⟩ : ∃ l, L23 ++ colsT x.rows k = l := ⟨_, rfl⟩
      have HS2 : Hid (L23 ++ colsT x.rows (k + 1) = A1 ++ Q) := Lib.hid (by rw [HS, ← ea, List.append_assoc])
      have hA1l : A1.length ≤ 10000 := by rw [← ea]; simp; omega
      rw [ea]
      have hc1 : ∀ W, (Op.stringOp .add ⟨A1.toArray⟩ ⟨Q.toArray⟩).run Tryd.prog W = .ok (.string ⟨(A1 ++ Q).toArray⟩) W := fun W => by rw [run_string_add_lists W _ _ (by omega) (by omega)]
      have hcl : C.length ≤ 1099511627776 := by omega
      clear HS ea eP eQ hcol
      go_wp2_with (fail)
      refine hC.mono ?_
      rintro e w4 ⟨v4, rfl, hrd4, -, hb4⟩
      have hb34 := hb3r.trans (hb4.mono hb3r.size)
      have hT := packTrack_spec hrd4 hcl
      rw [EP.out] at hT
      obtain ⟨a4, c4, rfl, -⟩ := id hrd4
      go_wp2_with (fail)
      refine hT.mono ?_
      rintro e w5 ⟨rfl, hb5⟩
      have hb35 := hb34.trans (hb5.mono hb34.size)
      go_wp2_with (fail)
      refine (hpt w5 (by omega)).mono ?_
      rintro e w6 ⟨rfl, hb6⟩
      have hb36 := hb35.trans (hb6.mono hb35.size)
      go_wp2_with (fail)
      go_roundw
      case rel => exact ⟨k + 1, by omega, by go_num, by rw [HS2.out], hb36⟩
      case measure => simp [intOf]; omega
    · have hkn' : ¬ (k : Int) < x.players := by have := HPN.out; omega
      have e : k = n := by omega
      subst e
      obtain ⟨P, eP⟩ : ∃ l, L23 ++ colsT x.rows k = l := ⟨_, rfl⟩
      have hPl : P.length ≤ 10000 := by rw [← eP]; simp; omega
      rw [eP] at HF ⊢
      have hKL := keysT_len x.keys
      clear eP hlen
      go_wp2_with (fail)
      go_loopw [3, 5] (fun s i wj => ∃ m : Nat, m ≤ x.keys.length ∧ i = .int .i64 (m : Int) ∧ s = .string ⟨(P ++ keysT (x.keys.take m)).toArray⟩ ∧ Below wr.heap.size wr wj) (fun _ i _ => x.keys.length - (intOf i).toNat)
      case atStart => exact ⟨0, Nat.zero_le _, rfl, by simp [keysT], Below.refl _ _⟩
      case round =>
        obtain ⟨m, hm, rfl, rfl, hbj⟩ := hrel
        have hbw := hbel.trans (hbj.mono hbel.size)
        have hAj := keepHeap hbj hAr
        have cAj := rowCells hAj
        have hac : (P ++ keysT (x.keys.take m)).length ≤ 7400000 := by
          have h1 := keysT_len (x.keys.take m)
          have h2 := totalS_take_le x.keys m
          rw [List.length_take] at h1
          simp; omega
        by_cases hkl : m < x.keys.length
        · obtain ⟨b, off, rfl, hc⟩ := hkc.resolve_left (by intro e; rw [e] at hkl; simp at hkl)
          have c0 := hc m hkl
          have c1 := (hbw.cell (World.block_lt_of_cell? w _ c0)).trans c0
          have hkk : (m : Int) < (x.keys.length : Int) := by omega
          have hxl := totalS_mem (List.getElem_mem hkl)
          have HS : Hid (P ++ keysT (x.keys.take (m + 1)) = (P ++ keysT (x.keys.take m)) ++ packT x.keys[m]) := Lib.hid (by rw [keysT_take _ _ hkl, List.append_assoc])
          obtain ⟨s, es⟩ : ∃ s, x.keys[m] = s := ⟨_, rfl⟩
          rw [es] at c1 hxl HS
          obtain ⟨T, eT⟩ : ∃ l, packT s = l := ⟨_, rfl⟩
          have hTl := packT_le s
          have hpt := packText_spec s
          rw [eT] at HS hTl hpt
          obtain ⟨acc, ea⟩ : ∃ l, P ++ keysT (x.keys.take m) = l := ⟨_, rfl⟩
          rw [ea] at HS hac ⊢
          have hc1 : ∀ W, (Op.stringOp .add ⟨acc.toArray⟩ ⟨T.toArray⟩).run Tryd.prog W = .ok (.string ⟨(acc ++ T).toArray⟩) W := fun W => by rw [run_string_add_lists W _ _ (by omega) (by omega)]
          clear c0 hc es eT ea
          go_wp2_with (fail)
          refine (hpt _ (by omega)).mono ?_
          rintro e w4 ⟨rfl, hb4⟩
          have hb4j := hbj.trans (hb4.mono hbj.size)
          go_wp2_with (fail)
          go_roundw
          case rel => exact ⟨m + 1, by omega, by go_num, by rw [HS.out], hb4j⟩
          case measure => simp [intOf]; omega
        · have e : x.keys.take m = x.keys := List.take_of_length_le (by omega)
          rw [e] at hac ⊢
          obtain ⟨Z, ez⟩ : ∃ l, P ++ keysT x.keys = l := ⟨_, rfl⟩
          rw [ez] at hac HF ⊢
          clear e ez
          go_wp2_with (fail)
          refine (sealText_spec Z _ (by omega)).mono ?_
          rintro e w4 ⟨rfl, hb4⟩
          go_wp2_with (fail)
          go_ret
          exact ⟨by rw [HF.out]; rfl, hbw.trans (hb4.mono hbw.size)⟩
end Go.Proofs.YtecimgennncjkaaDoor
