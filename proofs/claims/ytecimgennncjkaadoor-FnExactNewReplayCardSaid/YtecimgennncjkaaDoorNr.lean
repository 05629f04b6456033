/-
  NewReplay: the contracts of the model and of the program. Levels of at most 2^20 rows.
-/
import Derived.Test.YtecimgennncjkaaDoorRpM
import Derived.Test.YtecimgennncjkaaDoorRpO
import Derived.Test.YtecimgennncjkaaDoorCpL
import Derived.Deep.Cut
namespace Go.Proofs.YtecimgennncjkaaDoor
open Go.RowKit
set_option linter.all false
def rp0 : Rp := ⟨[], 0, 0, 0, [], []⟩
/-- A replay without rows. -/
def nrY (L : Rowz) (p s t : Int) : Rp := ⟨L, p, s, t, [], []⟩
def nrX (L : Rowz) (p s t : Int) : Rp := if replayB (nrY L p s t) then nrY L p s t else rp0
theorem nr_no {L : Rowz} {p s t : Int} (h : replayB (nrY L p s t) = false) : nrX L p s t = rp0 := by unfold nrX; rw [h]; rfl
theorem nr_yes {L : Rowz} {p s t : Int} (h : replayB (nrY L p s t) = true) : nrX L p s t = nrY L p s t := by unfold nrX; rw [h]; rfl
theorem nrX_few {L : Rowz} {p s t : Int} (h : L.length ≤ 1048576) : (nrX L p s t).few ∧ totalR (nrX L p s t).rows ≤ 1048576 := by
  unfold nrX
  split
  · exact ⟨⟨h, ⟨Nat.zero_le _, by simp [nrY]⟩, Nat.zero_le _⟩, by simp [nrY, totalR]⟩
  · exact ⟨⟨Nat.zero_le _, ⟨Nat.zero_le _, by simp [rp0]⟩, Nat.zero_le _⟩, by simp [rp0, totalR]⟩
theorem RdR.nil (w : World) : RdR w (.slice none 0 0) [] := ⟨none, 0, rfl, .inl rfl⟩
theorem RdS.nil (w : World) : RdS w (.slice none 0 0) [] := ⟨none, 0, rfl, .inl rfl⟩
/-- A replay and whether it is one, the replay in memory of the call's own. -/
def RetRpB (w : World) (X : Rp) (b : Bool) (e : Ending) (w' : World) : Prop := ∃ vl vs vb, e = .returned (.tuple #[.agg (rpC X vl vs vb), .bool b]) ∧ OwnRpIn w' w.heap.size w'.heap.size X vl vs vb ∧ Below w.heap.size w w'
theorem ownRp_zero (w : World) (B : Nat) (hB : B ≤ w.heap.size) : OwnRpIn w B w.heap.size rp0 (.slice none 0 0) (.slice none 0 0) (.slice none 0 0) :=
  ⟨B, B, B, w.heap.size, w.heap.size, w.heap.size, ⟨Nat.le_refl _, Nat.le_refl _, hB⟩, ⟨Nat.le_refl _, hB, Nat.le_refl _⟩, ⟨hB, Nat.le_refl _, Nat.le_refl _⟩, .inl (Nat.le_refl _), .inl hB, .inl (Nat.le_refl _), ⟨none, 0, rfl, .inl rfl⟩, .inl rfl, OwnRR.nil _ _ hB, ⟨none, 0, rfl, .inl rfl⟩, .inl rfl⟩
theorem ownRp_new {w : World} {B T : Nat} {v : Value} {L : Rowz} (p s t : Int) (h : WrS w B v L) (hT : LowS T v L) (hB : B ≤ T) (hTw : T ≤ w.heap.size) : OwnRpIn w B w.heap.size (nrY L p s t) v (.slice none 0 0) (.slice none 0 0) :=
  ⟨B, T, T, w.heap.size, w.heap.size, w.heap.size, ⟨Nat.le_refl _, hB, hTw⟩, ⟨hB, hTw, Nat.le_refl _⟩, ⟨by omega, Nat.le_refl _, Nat.le_refl _⟩, .inl (Nat.le_refl _), .inl hTw, .inl (Nat.le_refl _), h, hT, OwnRR.nil _ _ hTw, ⟨none, 0, rfl, .inl rfl⟩, .inl rfl⟩
theorem putRp_farB (w : World) (c : Nat) (x : Rp) (vl vs vb : Value) : FarB c (c + 1) w (putRp w c x vl vs vb) :=
  ⟨putRp_below (Below.refl _ _) (Nat.le_refl _) x vl vs vb, fun j hj _ => putRp_block w (by omega) x vl vs vb⟩
set_option maxRecDepth 100000 in
set_option maxHeartbeats 4000000 in
theorem newReplay_impl {w : World} {v : Value} {L : Rowz} (h : RdS w v L) (hs : Sane L) (hfew : L.length ≤ 1048576) (p s t : Int) :
    Calls Tryd.prog 23 #[.agg #[v], .int .i64 p, .int .i64 s, .int .i64 t] w (RetRpB w (nrX L p s t) (replayB (nrY L p s t))) := by
  obtain ⟨a, cap, rfl, -⟩ := id h
  obtain ⟨W0, hW, hA, hC, hB0, hS0⟩ := rows2 w #[.slice a L.length cap] #[.slice none 0 0, .int .i64 0, .int .i64 0, .int .i64 0, .slice none 0 0, .slice none 0 0] 42 44
  have cA := rowCells hA
  have hltC : w.heap.size + 1 < W0.heap.size := blockLt hC
  go_enter Tryd.func23, Tryd.ntmps23
  go_wp2_with (fail)
  try rw [hW]
  clear hW
  refine (copyLevel_impl (h.keep hB0) hfew).mono ?_
  rintro e w1 ⟨v1, rfl, wl1, -, hb1⟩
  have hb01 := hB0.trans (hb1.mono hB0.size)
  have hC1 := keepHeap hb1 hC
  have lo1 := WrS.low wl1
  have hs1 := hb1.size
  obtain ⟨a1, c1, rfl, -⟩ := id wl1.rd
  obtain ⟨w3, hW3, hP3, hb3⟩ : ∃ W, w1.alloc (.cells #[Value.slice a1 L.length c1, .int .i64 p, .int .i64 s, .int .i64 t, .slice none 0 0, .slice none 0 0] 44) = W ∧ W.heap[w1.heap.size]? = some (.cells #[Value.slice a1 L.length c1, .int .i64 p, .int .i64 s, .int .i64 t, .slice none 0 0, .slice none 0 0] 44 (0, 0)) ∧ Below w1.heap.size w1 W := ⟨_, rfl, heap_alloc_new _ _, below1 _ _⟩
  have HW3 := Lib.hid hW3
  clear hW3 cA hC hb1 hA
  go_upto_region 2 with (fail)
  rw [HW3.out]
  have hb03 := hb01.trans (hb3.mono hb01.size)
  have hC3 := keepHeap hb3 hC1
  have wl3 := wl1.keep hb3
  have cP3 := rowCells hP3
  have hs3 := hb3.size
  have hlt3 := blockLt hP3
  have hok := replayOk_impl (w := w3) (x := nrY L p s t) (vl := .slice a1 L.length c1) (vs := (.slice none 0 0)) (vb := (.slice none 0 0)) ⟨wl3.rd, RdR.nil _, RdS.nil _⟩ ⟨hs, ⟨by simp [nrY], by simp [nrY]⟩, ⟨by simp [nrY], by simp [nrY]⟩⟩
  clear hC1 hb01 hb3 wl1 HW3
  have hno : replayB (nrY L p s t) = false → nrX L p s t = rp0 := nr_no
  have hyes : replayB (nrY L p s t) = true → nrX L p s t = nrY L p s t := nr_yes
  unfold rpC nrY at hok
  unfold nrY at hno hyes
  dsimp only at hok
  go_wp2_with (fail)
  refine hok.mono ?_
  rintro e w4 ⟨rfl, hb4⟩
  have hP4 := keepHeap hb4 hP3
  have hC4 := keepHeap hb4 hC3
  have hb04 := hb03.trans (hb4.mono (by omega))
  have wl4 := wl3.keep hb4
  have hs4 := hb4.size
  have fC4 := fun j => frozenHeap hC4 j
  have cC4 := rowCells hC4
  have cP4 := rowCells hP4
  clear cP3 hP3 hC3 hb03 wl3 hok
  cases hq : replayB ⟨L, p, s, t, [], []⟩ with
  | false =>
    have HX := Lib.hid (hno hq)
    have HQ : Hid (replayB (nrY L p s t) = false) := Lib.hid hq
    clear hq hno hyes
    go_wp2_with (fail)
    have hP := putRp_heap hC4 rfl rp0 (.slice none 0 0) (.slice none 0 0) (.slice none 0 0)
    have hbP := putRp_below hb04 (c := w.heap.size + 1) (by omega) rp0 (.slice none 0 0) (.slice none 0 0) (.slice none 0 0)
    have hW0 := ownRp_zero (putRp w4 (w.heap.size + 1) rp0 (.slice none 0 0) (.slice none 0 0) (.slice none 0 0)) w.heap.size (by have := hbP.size; omega)
    have hL := load_rp hP rfl
    unfold putRp at hL hbP hW0
    refine bodyPost_ret (v := .tuple #[.agg (rpC rp0 (.slice none 0 0) (.slice none 0 0) (.slice none 0 0)), .bool false]) (results_two rfl _ _ _ _ _ rfl rfl hL) rfl ⟨(.slice none 0 0), (.slice none 0 0), (.slice none 0 0), ?_, ?_, hbP⟩
    · rw [HQ.out, HX.out]
    · rw [HX.out]; exact hW0
  | true =>
    have HX := Lib.hid (hyes hq)
    have HQ : Hid (replayB (nrY L p s t) = true) := Lib.hid hq
    clear hq hno hyes
    go_wp2_with (fail)
    have hP := putRp_heap hC4 rfl (nrY L p s t) (.slice a1 L.length c1) (.slice none 0 0) (.slice none 0 0)
    have hbP := putRp_below hb04 (c := w.heap.size + 1) (by omega) (nrY L p s t) (.slice a1 L.length c1) (.slice none 0 0) (.slice none 0 0)
    have FP := putRp_farB w4 (w.heap.size + 1) (nrY L p s t) (.slice a1 L.length c1) (.slice none 0 0) (.slice none 0 0)
    have hsP := FP.1.size
    have hO := (ownRp_new p s t (wl4.apartR lo1 FP (.inl (by omega))) lo1 (by omega) (by omega)).wide (lo' := w.heap.size) (hi' := (putRp w4 (w.heap.size + 1) (nrY L p s t) (.slice a1 L.length c1) (.slice none 0 0) (.slice none 0 0)).heap.size) (by omega) (Nat.le_refl _)
    have hL := load_rp hP rfl
    unfold putRp at hL hbP hO
    refine bodyPost_ret (v := .tuple #[.agg (rpC (nrY L p s t) (.slice a1 L.length c1) (.slice none 0 0) (.slice none 0 0)), .bool true]) (results_two rfl _ _ _ _ _ rfl rfl hL) rfl ⟨(.slice a1 L.length c1), (.slice none 0 0), (.slice none 0 0), ?_, ?_, hbP⟩
    · rw [HQ.out, HX.out]; rfl
    · rw [HX.out]; exact hO
set_option maxRecDepth 100000 in
set_option maxHeartbeats 4000000 in
theorem newReplay_spec {w : World} {v : Value} {L : Rowz} (h : RdS w v L) (hs : Sane L) (hfew : L.length ≤ 1048576) (p s t : Int) :
    Calls Tryd.prog 21 #[.agg #[v], .int .i64 p, .int .i64 s, .int .i64 t] w (RetRpB w (nrX L p s t) (replayB (nrY L p s t))) := by
  obtain ⟨a, cap, rfl, -⟩ := id h
  obtain ⟨W0, hW, hA, hC, hB0, hS0⟩ := rows2 w #[.slice a L.length cap] #[.slice none 0 0, .int .i64 0, .int .i64 0, .int .i64 0, .slice none 0 0, .slice none 0 0] 42 44
  have cA := rowCells hA
  have hltC : w.heap.size + 1 < W0.heap.size := blockLt hC
  go_enter Tryd.func21, Tryd.ntmps21
  go_wp2_with (fail)
  try rw [hW]
  clear hW
  refine (copyLevel_spec (h.keep hB0) hfew).mono ?_
  rintro e w1 ⟨v1, rfl, wl1, -, hb1⟩
  have hb01 := hB0.trans (hb1.mono hB0.size)
  have hC1 := keepHeap hb1 hC
  have lo1 := WrS.low wl1
  have hs1 := hb1.size
  obtain ⟨a1, c1, rfl, -⟩ := id wl1.rd
  obtain ⟨w3, hW3, hP3, hb3⟩ : ∃ W, w1.alloc (.cells #[Value.slice a1 L.length c1, .int .i64 p, .int .i64 s, .int .i64 t, .slice none 0 0, .slice none 0 0] 44) = W ∧ W.heap[w1.heap.size]? = some (.cells #[Value.slice a1 L.length c1, .int .i64 p, .int .i64 s, .int .i64 t, .slice none 0 0, .slice none 0 0] 44 (0, 0)) ∧ Below w1.heap.size w1 W := ⟨_, rfl, heap_alloc_new _ _, below1 _ _⟩
  have HW3 := Lib.hid hW3
  clear hW3 cA hC hb1 hA
  go_upto_region 2 with (fail)
  rw [HW3.out]
  have hb03 := hb01.trans (hb3.mono hb01.size)
  have hC3 := keepHeap hb3 hC1
  have wl3 := wl1.keep hb3
  have cP3 := rowCells hP3
  have hs3 := hb3.size
  have hlt3 := blockLt hP3
  have hok := replayOk_spec (w := w3) (x := nrY L p s t) (vl := .slice a1 L.length c1) (vs := (.slice none 0 0)) (vb := (.slice none 0 0)) ⟨wl3.rd, RdR.nil _, RdS.nil _⟩ ⟨hs, ⟨by simp [nrY], by simp [nrY]⟩, ⟨by simp [nrY], by simp [nrY]⟩⟩
  clear hC1 hb01 hb3 wl1 HW3
  have hno : replayB (nrY L p s t) = false → nrX L p s t = rp0 := nr_no
  have hyes : replayB (nrY L p s t) = true → nrX L p s t = nrY L p s t := nr_yes
  unfold rpC nrY at hok
  unfold nrY at hno hyes
  dsimp only at hok
  go_wp2_with (fail)
  refine hok.mono ?_
  rintro e w4 ⟨rfl, hb4⟩
  have hP4 := keepHeap hb4 hP3
  have hC4 := keepHeap hb4 hC3
  have hb04 := hb03.trans (hb4.mono (by omega))
  have wl4 := wl3.keep hb4
  have hs4 := hb4.size
  have fC4 := fun j => frozenHeap hC4 j
  have cC4 := rowCells hC4
  have cP4 := rowCells hP4
  clear cP3 hP3 hC3 hb03 wl3 hok
  cases hq : replayB ⟨L, p, s, t, [], []⟩ with
  | false =>
    have HX := Lib.hid (hno hq)
    have HQ : Hid (replayB (nrY L p s t) = false) := Lib.hid hq
    clear hq hno hyes
    go_wp2_with (fail)
    have hP := putRp_heap hC4 rfl rp0 (.slice none 0 0) (.slice none 0 0) (.slice none 0 0)
    have hbP := putRp_below hb04 (c := w.heap.size + 1) (by omega) rp0 (.slice none 0 0) (.slice none 0 0) (.slice none 0 0)
    have hW0 := ownRp_zero (putRp w4 (w.heap.size + 1) rp0 (.slice none 0 0) (.slice none 0 0) (.slice none 0 0)) w.heap.size (by have := hbP.size; omega)
    have hL := load_rp hP rfl
    unfold putRp at hL hbP hW0
    refine bodyPost_ret (v := .tuple #[.agg (rpC rp0 (.slice none 0 0) (.slice none 0 0) (.slice none 0 0)), .bool false]) (results_two rfl _ _ _ _ _ rfl rfl hL) rfl ⟨(.slice none 0 0), (.slice none 0 0), (.slice none 0 0), ?_, ?_, hbP⟩
    · rw [HQ.out, HX.out]
    · rw [HX.out]; exact hW0
  | true =>
    have HX := Lib.hid (hyes hq)
    have HQ : Hid (replayB (nrY L p s t) = true) := Lib.hid hq
    clear hq hno hyes
    go_wp2_with (fail)
    have hP := putRp_heap hC4 rfl (nrY L p s t) (.slice a1 L.length c1) (.slice none 0 0) (.slice none 0 0)
    have hbP := putRp_below hb04 (c := w.heap.size + 1) (by omega) (nrY L p s t) (.slice a1 L.length c1) (.slice none 0 0) (.slice none 0 0)
    have FP := putRp_farB w4 (w.heap.size + 1) (nrY L p s t) (.slice a1 L.length c1) (.slice none 0 0) (.slice none 0 0)
    have hsP := FP.1.size
    have hO := (ownRp_new p s t (wl4.apartR lo1 FP (.inl (by omega))) lo1 (by omega) (by omega)).wide (lo' := w.heap.size) (hi' := (putRp w4 (w.heap.size + 1) (nrY L p s t) (.slice a1 L.length c1) (.slice none 0 0) (.slice none 0 0)).heap.size) (by omega) (Nat.le_refl _)
    have hL := load_rp hP rfl
    unfold putRp at hL hbP hO
    refine bodyPost_ret (v := .tuple #[.agg (rpC (nrY L p s t) (.slice a1 L.length c1) (.slice none 0 0) (.slice none 0 0)), .bool true]) (results_two rfl _ _ _ _ _ rfl rfl hL) rfl ⟨(.slice a1 L.length c1), (.slice none 0 0), (.slice none 0 0), ?_, ?_, hbP⟩
    · rw [HQ.out, HX.out]; rfl
    · rw [HX.out]; exact hO
end Go.Proofs.YtecimgennncjkaaDoor
