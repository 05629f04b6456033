/-
  FnScripts: the rows of scripts are their inputs after the delay. No condition.
-/
import Derived.Test.YtlffkcmbeolohaaDrT
import Derived.Test.YtlffkcmbeolohaaSrw
import Derived.Test.YtlffkcmbeolohaaGet
import Derived.Deep.Cut
import Derived.Deep.CutBlock
namespace Go.Proofs.Ytlffkcmbeolohaa
open Go.RowKit
set_option linter.all false
def ScrOk (x : List Int) : Prop := 1 ≤ x.length ∧ x.length ≤ 36 ∧ Ins x
theorem ScrOk.vOk {x : List Int} (h : ScrOk x) {d : Int} (hd : 0 ≤ d ∧ d ≤ 5) : vOk x d = true := by
  obtain ⟨h1, h2, h3⟩ := h
  have e1 : trkB x = true := by
    unfold trkB
    rw [decide_eq_true (by omega : x.length ≤ 400), Bool.true_and]
    unfold allW
    rw [List.all_eq_true]
    exact fun y hy => (inR_iff _ _ _).2 (h3 y hy)
  unfold Go.Proofs.Ytlffkcmbeolohaa.vOk
  rw [show decide (x.length ≠ 0) = true by simp; intro e; rw [e] at h1; simp at h1, e1, (inR_iff _ _ _).2 hd]; rfl
theorem ScrOk.snoc {x : List Int} (h : Ins x) (hl : x.length ≤ 35) {m : Nat} (hm : m ≤ 15) : ScrOk (x ++ [(m : Int)]) := by
  refine ⟨by simp, by simp; omega, fun y hy => ?_⟩
  rcases List.mem_append.1 hy with hy | hy
  · exact h y hy
  · have : y = (m : Int) := by simpa using hy
    omega
set_option maxRecDepth 100000 in
set_option maxHeartbeats 8000000 in
theorem lawScripts (a : Option Addr) (len cap : Nat) (zs : List Int) (w : World) (hr : IsRow .u8 w a len cap zs) :
    Calls Try.prog 3 #[.slice a len cap] w fun e w' => e = .returned (.bool true) ∧ Below w.heap.size w w' := by
  obtain ⟨hrd, hl⟩ := RdC.of_row hr
  clear hr
  by_cases h : 1048576 < (len : Int)
  · have b1 : decide (1048576 < (len : Int)) = true := by simpa using h
    go_enter Try.func3, Try.ntmps3
    go_wp2_with (go_at_call 5; refine (big_any hrd hl).mono ?_; rintro e w' ⟨rfl, rfl⟩)
    go_ret
    exact ⟨rfl, Below.refl _ _⟩
  have b1 : decide (1048576 < (len : Int)) = false := by simpa using h
  go_enter Try.func3, Try.ntmps3
  go_wp2_with (go_at_call 5; refine (big_any hrd hl).mono ?_; rintro e w' ⟨rfl, rfl⟩)
  refine (drawTracks_any hrd (by omega)).mono ?_
  rintro e w1 ⟨v1, X, rfl, o1, hcr, hX, hX1, hX4, htr, hb1⟩
  have ht1 := o1.rd
  obtain ⟨a1, c1, rfl, -⟩ := id ht1
  have HX := Lib.hid hX
  clear hX htr hcr o1
  have hb12 := below1 w1 (.cells #[] 27)
  have ho0 := OwnRR.made w1 w1.heap.size #[] (Nat.le_refl _) (by unfold maxLen; decide)
  go_wp2_with (fail)
  go_loopw [4, 5] (fun c i wr => ∃ (k : Nat) (S : Rowi), k ≤ X.length ∧ i = .int .i64 (k : Int) ∧ S.length = k ∧ Hid (∀ x ∈ S, ScrOk x) ∧ OwnRR wr w1.heap.size wr.heap.size c S ∧ Below w1.heap.size w1 wr) (fun _ i _ => X.length - (intOf i).toNat)
  case atStart => exact ⟨0, [], Nat.zero_le _, rfl, rfl, Lib.hid (by simp), ho0, hb12⟩
  case round =>
    clear ho0 hb12
    obtain ⟨k, S, hk, rfl, hS, HS, hown, hbel⟩ := hrel
    by_cases hkl : k < X.length
    · obtain ⟨b, off, cap', u, e0, cr0, rx0⟩ := ht1.at hkl
      obtain ⟨rfl, -, rfl⟩ := Value.slice.inj e0
      clear e0
      have cr : wr.cell? ⟨b, off + k, none⟩ = some u := (hbel.cell (World.block_lt_of_cell? w1 _ cr0)).trans cr0
      have rx := rx0.keep hbel
      have hins := HX.out X[k] (List.getElem_mem _)
      have hx35 := hins.2
      have HI := Lib.hid hins.1
      have hkX : (k : Int) < (X.length : Int) := by omega
      have hsz := hbel.size
      clear cr0 rx0 hins
      generalize X[k] = x at *
      obtain ⟨ax, cx, rfl, -⟩ := id rx
      obtain ⟨W1, hW1, hm1, hbW1⟩ : ∃ W, wr.alloc (.cells #[] 3) = W ∧ OwnR W wr.heap.size (.slice (some ⟨wr.heap.size, 0, none⟩) 0 0) [] ∧ Below wr.heap.size wr W := ⟨_, rfl, OwnR.made wr #[] wr.heap.size (Nat.le_refl _) (by unfold maxLen; decide), below1 _ _⟩
      have rx1 := rx.keep hbW1
      have cr1 : W1.cell? ⟨b, off + k, none⟩ = some (.slice ax x.length cx) := (hbW1.cell (World.block_lt_of_cell? wr _ cr)).trans cr
      go_wp2_with (at_builtin; (try rw [hW1]); refine app_ints rfl _ _ rfl wr.heap.size _ [] rfl hm1 _ x rfl rx1 (by simp; omega) hbW1.size ?_; intro v2 w2 ho2 hb2)
      have hbw2 : Below w.heap.size w w2 := (hb1.trans (hbel.mono hb1.size)).trans ((hbW1.trans (hb2.mono (Nat.le_refl _))).mono (by have := hb1.size; omega))
      rw [List.nil_append] at ho2
      obtain ⟨a2, c2, rfl, -⟩ := id ho2.own
      refine (at_any (hrd.keep hbw2) hl (k : Int) (by omega) (by omega)).mono ?_
      rintro e w3 ⟨y, hy, rfl, rfl⟩
      obtain ⟨m, hm⟩ : ∃ m, m = y % 16 := ⟨_, rfl⟩
      have e1 : (y : Int) % 16 = (m : Int) := by omega
      have hm15 : m ≤ 15 := by omega
      have hs2 := hb2.size
      have hs1 := hbW1.size
      have hs12 := Nat.le_trans hs1 hs2
      have M1 : True := trivial
      clear hm hy rx rx1 cr cr1 hm1 hW1 ht1
      go_wp2_with (first
        | (clear M1; at_builtin; refine app_int rfl _ _ rfl wr.heap.size _ x rfl ho2 (m : Int) rfl (by omega) (by omega) ?_; intro v4 w4 ho4 hb4; obtain ⟨x5, hx5⟩ : ∃ x5, x5 = x ++ [(m : Int)] := ⟨_, rfl⟩; rw [← hx5] at ho4; have HX5 := Lib.hid hx5; clear hx5; have hu4 := ho4.own; obtain ⟨a4, c4, rfl, -⟩ := id hu4; have hs4 := hb4.size; have M2 : True := trivial; have hown4 := (hown.keep ((hbW1.trans (hb2.mono (Nat.le_refl _))).trans hb4) (Nat.le_refl _)))
        | (clear M2; at_builtin; refine app_row rfl _ _ rfl w1.heap.size _ _ S rfl hown4 _ _ hu4 rfl (by omega) (by omega) ?_; intro v5 w5 ho5 hb5))
      have hbel5 := hbel.trans (((hbW1.trans (hb2.mono (Nat.le_refl _))).trans (hb4.mono (Nat.le_refl _))).mono hsz)
      have HS5 : Hid (∀ z ∈ S ++ [x5], ScrOk z) := Lib.hid (fun z hz => by
        rcases List.mem_append.1 hz with hz | hz
        · exact HS.out z hz
        · have e : z = x5 := by simpa using hz
          rw [e, HX5.out]; exact ScrOk.snoc HI.out hx35 hm15)
      go_roundw
      case rel => exact ⟨k + 1, S ++ [x5], by omega, by go_num, by simp [hS], HS5, ho5, hbel5.trans (hb5.mono (Nat.le_refl _))⟩
      case measure => simp [intOf]; omega
    · have hbwr := hb1.trans (hbel.mono hb1.size)
      have hS4 : S.length ≤ 4 ∧ 1 ≤ S.length := by omega
      have rS := hown.rd
      obtain ⟨aS, cS, rfl, -⟩ := id rS
      have hfS : Few S := ⟨by omega, fun x hx => by have := (HS.out x hx).2.1; omega⟩
      have hkl2 : ¬ (k : Int) < (X.length : Int) := by omega
      clear hown ht1 hS
      go_wp2_with (fail)
      refine (at_any (hrd.keep hbwr) hl 9 (by omega) (by omega)).mono ?_
      rintro e w3 ⟨y, hy, rfl, rfl⟩
      obtain ⟨d, hd⟩ : ∃ d, d = y % 6 := ⟨_, rfl⟩
      have e1 : (y : Int) % 6 = (d : Int) := by omega
      have hd5 : d ≤ 5 := by omega
      clear hd hy
      go_wp2_with (fail)
      refine (scriptRows_impl rS hfS (d : Int) 60).mono ?_
      rintro e w7 ⟨v7, rfl, o7, hb7⟩
      have hbw7 := hbwr.trans (hb7.mono hbwr.size)
      have hV : ∀ k (hk : k < S.length), vOk S[k] (d : Int) = true := fun k hk => (HS.out _ (List.getElem_mem hk)).vOk ⟨by omega, by omega⟩
      have hF : srR S (d : Int) 60 = srF S (d : Int) 60 := sr_ok ((inR_iff _ _ _).2 ⟨by omega, by omega⟩) ((inR_iff _ _ _).2 ⟨by omega, by omega⟩) hV
      rw [hF] at o7
      have r7 := o7.rd
      have hYl : (srF S (d : Int) 60).length = 60 := srF_len _ _ _
      have HY := Lib.hid (fun t (h : t < (srF S (d : Int) 60).length) => srF_at h)
      have HV := Lib.hid hV
      have rS7 := rS.keep hb7
      clear hF o7 hV rS
      generalize srF S (d : Int) 60 = Y at *
      obtain ⟨a7, c7, rfl, -⟩ := id r7
      have r7' := r7
      rw [hYl] at r7'
      rw [hYl]
      go_wp2_with (fail)
      go_loopw [8] (fun i wr => ∃ t : Nat, t ≤ 60 ∧ i = .int .i64 (t : Int) ∧ Below w7.heap.size w7 wr) (fun i _ => 60 - (intOf i).toNat)
      case atStart => exact ⟨0, by omega, rfl, Below.refl _ _⟩
      case round =>
        obtain ⟨t, ht, rfl, hbt⟩ := hrel
        by_cases htl : t < 60
        · have htt : (t : Int) < 60 := by omega
          go_wp2_with (fail)
          go_loopw [9] (fun i wj => ∃ k : Nat, k ≤ S.length ∧ i = .int .i64 (k : Int) ∧ Below w7.heap.size w7 wj) (fun i _ => S.length - (intOf i).toNat)
          case atStart => exact ⟨0, by omega, rfl, hbt⟩
          case round =>
            clear hbt
            obtain ⟨k, hk, rfl, hbj⟩ := hrel
            by_cases hkl : k < S.length
            · have hkS : (k : Int) < (S.length : Int) := by omega
              obtain ⟨b, off, cap', u, e0, cr0, rx0⟩ := rS7.at hkl
              obtain ⟨rfl, -, rfl⟩ := Value.slice.inj e0
              have ht' : t < Y.length := by omega
              obtain ⟨b2, off2, cap2, u2, e2, cy0, ry0⟩ := r7.at ht'
              obtain ⟨rfl, -, rfl⟩ := Value.slice.inj e2
              clear e0 e2
              have cr := (hbj.cell (World.block_lt_of_cell? w7 _ cr0)).trans cr0
              have cy := (hbj.cell (World.block_lt_of_cell? w7 _ cy0)).trans cy0
              have rx := rx0.keep hbj
              have ry := ry0.keep hbj
              have hv := HV.out k hkl
              obtain ⟨g1, g2, g3, -⟩ := vOk_facts hv
              have hYt := HY.out t ht'
              have hkY : k < Y[t].length := by rw [hYt, srRow_len]; exact hkl
              have HYK : Hid (Y[t][k] = scrV S[k] (d : Int) (t : Int)) := Lib.hid (by simp only [hYt]; exact srRow_at hkl)
              have hyl : Y[t].length ≤ 4 := by rw [hYt, srRow_len]; omega
              have HSC : Hid (scrI S[k] (d : Int) (t : Int) = scrV S[k] (d : Int) (t : Int)) := Lib.hid (scr_v hv)
              clear cr0 cy0 rx0 ry0 hv hYt
              generalize Y[t] = yr at *
              generalize S[k] = x at *
              obtain ⟨ax, cx, rfl, hxx⟩ := id rx
              obtain ⟨ay, cy', rfl, -⟩ := id ry
              by_cases htd : (t : Int) < (d : Int)
              · have z1 : decide ((d : Int) ≤ (t : Int)) = false := by simp; omega
                have z2 : decide (d ≤ t) = false := by simp; omega
                have z3 : ¬ d ≤ t := by omega
                have HV0 := Lib.hid (scrV_early (xs := x) htd)
                rw [HV0.out] at HYK HSC
                clear htd hxx
                go_wp2_with (fail)
                refine (get_any ry (by omega) k hkY).mono ?_
                rintro e w8 ⟨rfl, rfl⟩
                rw [HYK.out]
                go_wp2_with (fail)
                refine (scriptInput_impl rx (by omega) (d : Int) (t : Int) ⟨by omega, by omega⟩).mono ?_
                rintro e w9 ⟨rfl, hb9⟩
                rw [HSC.out]
                have hbel9 := hbj.trans (hb9.mono hbj.size)
                go_wp2_with (fail)
                go_roundw
                case rel => exact ⟨k + 1, by omega, by go_num, hbel9⟩
                case measure => simp [intOf]; omega
              · have z1 : decide ((d : Int) ≤ (t : Int)) = true := by simp; omega
                have z2 : decide (d ≤ t) = true := by simp; omega
                have z3 : d ≤ t := by omega
                obtain ⟨j, hj, hjl, hjw, hjs⟩ := late_facts g1 htd g3 ⟨by omega, by omega⟩
                have hsv := scrV_late htd hj hjl
                obtain ⟨bx, ox, rfl, hcx⟩ := hxx.resolve_left (by intro e; rw [e] at g1; simp at g1)
                have cxj := hcx j hjl
                rw [hsv] at HYK HSC
                have hjx : (j : Int) < (x.length : Int) := by omega
                have hp0 : 0 ≤ (t : Int) - (d : Int) := by omega
                have hxz : ¬ (x.length : Int) = 0 := by omega
                have hx400 : (x.length : Int) ≤ 400 := by omega
                clear hsv hcx htd
                generalize x[j] = q at *
                have hj2 : ((t : Int) - (d : Int)) % (x.length : Int) = (j : Int) := hj.symm
                have hj3 : ((t : Int) - (d : Int)).tmod (x.length : Int) = (j : Int) := by rw [Int.tmod_eq_emod_of_nonneg hp0]; exact hj2
                have hj4 : IntKind.i64.wrap (j : Int) = (j : Int) := IntWalk.i64_in _ (by omega)
                have hn4 : IntKind.i64.wrap (x.length : Int) = (x.length : Int) := IntWalk.i64_in _ (by omega)
                clear hj
                go_upto_region 19 with (fail)
                go_quiet (fail)
                have hbd := belowDrew wr nq
                have ry := ry.keep hbd
                have rx := rx.keep hbd
                have hbj := hbj.trans (hbd.mono hbj.size)
                have cy := (hbd.cell (World.block_lt_of_cell? wr _ cy)).trans cy
                have cr := (hbd.cell (World.block_lt_of_cell? wr _ cr)).trans cr
                clear hbd cxj
                generalize wr.drewN nq = wd at *
                go_wp2_with (fail)
                refine (get_any ry (by omega) k hkY).mono ?_
                rintro e w8 ⟨rfl, rfl⟩
                rw [HYK.out]
                go_wp2_with (fail)
                refine (scriptInput_impl rx (by omega) (d : Int) (t : Int) ⟨by omega, by omega⟩).mono ?_
                rintro e w9 ⟨rfl, hb9⟩
                rw [HSC.out]
                have hbel9 := hbj.trans (hb9.mono hbj.size)
                go_wp2_with (fail)
                go_roundw
                case rel => exact ⟨k + 1, by omega, by go_num, hbel9⟩
                case measure => simp [intOf]; omega
            · have hbt := hbj
              go_wp2_with (fail)
              go_roundw
              case rel => exact ⟨t + 1, by omega, by go_num, hbj⟩
              case measure => simp [intOf]; omega
        · go_wp2_with (fail)
          go_ret
          exact ⟨rfl, hbw7.trans (hbt.mono hbw7.size)⟩
end Go.Proofs.Ytlffkcmbeolohaa
