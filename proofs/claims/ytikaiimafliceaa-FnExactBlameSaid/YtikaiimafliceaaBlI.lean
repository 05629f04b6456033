/-
  Blame of the program and of the model. Lists of at most 2^20.
-/
import Derived.Test.YtikaiimafliceaaBlP
import Derived.Test.YtikaiimafliceaaAppI
import Derived.Test.YtikaiimafliceaaSize
import Derived.Deep.Cut
import Derived.Deep.CutBlock
namespace Go.Proofs.Ytikaiimafliceaa
open Go.RowKit Go.Joins Go.ChangeShapes Go.WideShapes Go.Deep
set_option linter.all false
set_option maxHeartbeats 2000000 in
theorem oddOne_impl {w : World} {v : Value} {l : List Int} (h : RdI w v l) (h3 : 3 ≤ l.length) (hn : l.length ≤ 1048576) :
    Calls Try.prog 40 #[v] w fun e w' => e = .returned (.int .i64 (oddI l)) ∧ ∃ n, w' = w.drewN n := by
  obtain ⟨a, cap, rfl, h⟩ := h
  obtain ⟨b, off, rfl, hc⟩ := h.resolve_left (by intro e; rw [e] at h3; simp at h3)
  have c0 := hc 0 (by omega)
  rw [Nat.add_zero] at c0
  have c1 := hc 1 (by omega)
  have c2 := hc 2 (by omega)
  have hl0 : (0 : Int) < (l.length : Int) := by omega
  have hl1 : (1 : Int) < (l.length : Int) := by omega
  have hl2 : (2 : Int) < (l.length : Int) := by omega
  have hlc : (l.length : Int) ≤ 1048576 := by omega
  obtain ⟨u, g, hg, hu, hpick⟩ : ∃ (u : Int) (g : Bool), (l[1] == l[2]) = g ∧ u = usualI l ∧ u = (if g then l[1] else l[0]) := by
    refine ⟨usualI l, l[1] == l[2], rfl, rfl, ?_⟩
    unfold usualI
    simp [show 1 < l.length by omega, show 2 < l.length by omega, show 0 < l.length by omega]
  have HC := Lib.hid hc
  have HU := Lib.hid hu
  clear hc h hu
  generalize l[0] = x0 at *
  generalize l[1] = x1 at *
  generalize l[2] = x2 at *
  cases g with
  | false =>
    obtain rfl : u = x0 := hpick
    go_enter Try.func40, Try.ntmps40
    go_wp2_with (fail)
    go_quiet (fail)
    go_wp2_with (fail)
    clear c0 c1 c2 hl0 hl1 hl2 hg
    go_loopw [22, 4] (fun i x wr => ∃ (k n : Nat) (o : Int), k ≤ l.length ∧ i = .int .i64 (k : Int) ∧ x = .int .i64 o ∧ wr = w.drewN n ∧ Hid (OddAt l k o)) (fun i _ _ => l.length - (intOf i).toNat)
    case atStart => exact ⟨0, _, -1, Nat.zero_le _, rfl, rfl, rfl, Lib.hid (OddAt.start l)⟩
    case round =>
      obtain ⟨k, n, o, hk, rfl, rfl, rfl, HA⟩ := hrel
      by_cases hkl : k < l.length
      · have hkk : (k : Int) < (l.length : Int) := by omega
        have c1 := HC.out k hkl
        have hgd : l[k] = l.getD k 0 := by simp [hkl]
        obtain ⟨x, hx⟩ : ∃ x, x = l[k] := ⟨_, rfl⟩
        rw [← hx] at c1 hgd
        have HX := Lib.hid hgd
        clear hx hgd
        by_cases hxu : x = u
        · have z1 : (x == u) = true := by simpa using hxu
          have HN : Hid (OddAt l (k + 1) o) := Lib.hid (HA.out.same (by rw [← HX.out, hxu]; exact HU.out))
          clear hxu
          go_wp2_with (fail)
          go_roundw
          case rel => exact ⟨k + 1, n, o, by omega, by go_num, rfl, rfl, HN⟩
          case measure => simp [intOf]; omega
        · have z1 : (x == u) = false := by simpa using hxu
          have hne : l.getD k 0 ≠ usualI l := by rw [← HX.out, ← HU.out]; exact hxu
          by_cases ho : o = -1
          · have HN : Hid (OddAt l (k + 1) (k : Int)) := Lib.hid ((ho ▸ HA.out).first hne)
            have z2 : (o != -1) = false := by rw [ho]; rfl
            clear hxu hne ho
            go_wp2_with (fail)
            go_roundw
            case rel => exact ⟨k + 1, n, (k : Int), by omega, by go_num, rfl, rfl, HN⟩
            case measure => simp [intOf]; omega
          · have HF : Hid (oddI l = -1) := Lib.hid (HA.out.second hkl ho hne)
            have z2 : (o != -1) = true := by simpa using ho
            clear hxu hne ho
            go_wp2_with (fail)
            go_ret
            exact ⟨by rw [HF.out]; rfl, _, rfl⟩
      · have ek : k = l.length := by omega
        have HF : Hid (oddI l = o) := Lib.hid ((ek ▸ HA.out).done)
        go_wp2_with (fail)
        go_ret
        exact ⟨by rw [HF.out]; rfl, _, rfl⟩
  | true =>
    obtain rfl : u = x1 := hpick
    go_enter Try.func40, Try.ntmps40
    go_wp2_with (fail)
    go_quiet (fail)
    go_wp2_with (fail)
    clear c0 c1 c2 hl0 hl1 hl2 hg
    go_loopw [22, 4] (fun i x wr => ∃ (k n : Nat) (o : Int), k ≤ l.length ∧ i = .int .i64 (k : Int) ∧ x = .int .i64 o ∧ wr = w.drewN n ∧ Hid (OddAt l k o)) (fun i _ _ => l.length - (intOf i).toNat)
    case atStart => exact ⟨0, _, -1, Nat.zero_le _, rfl, rfl, rfl, Lib.hid (OddAt.start l)⟩
    case round =>
      obtain ⟨k, n, o, hk, rfl, rfl, rfl, HA⟩ := hrel
      by_cases hkl : k < l.length
      · have hkk : (k : Int) < (l.length : Int) := by omega
        have c1 := HC.out k hkl
        have hgd : l[k] = l.getD k 0 := by simp [hkl]
        obtain ⟨x, hx⟩ : ∃ x, x = l[k] := ⟨_, rfl⟩
        rw [← hx] at c1 hgd
        have HX := Lib.hid hgd
        clear hx hgd
        by_cases hxu : x = u
        · have z1 : (x == u) = true := by simpa using hxu
          have HN : Hid (OddAt l (k + 1) o) := Lib.hid (HA.out.same (by rw [← HX.out, hxu]; exact HU.out))
          clear hxu
          go_wp2_with (fail)
          go_roundw
          case rel => exact ⟨k + 1, n, o, by omega, by go_num, rfl, rfl, HN⟩
          case measure => simp [intOf]; omega
        · have z1 : (x == u) = false := by simpa using hxu
          have hne : l.getD k 0 ≠ usualI l := by rw [← HX.out, ← HU.out]; exact hxu
          by_cases ho : o = -1
          · have HN : Hid (OddAt l (k + 1) (k : Int)) := Lib.hid ((ho ▸ HA.out).first hne)
            have z2 : (o != -1) = false := by rw [ho]; rfl
            clear hxu hne ho
            go_wp2_with (fail)
            go_roundw
            case rel => exact ⟨k + 1, n, (k : Int), by omega, by go_num, rfl, rfl, HN⟩
            case measure => simp [intOf]; omega
          · have HF : Hid (oddI l = -1) := Lib.hid (HA.out.second hkl ho hne)
            have z2 : (o != -1) = true := by simpa using ho
            clear hxu hne ho
            go_wp2_with (fail)
            go_ret
            exact ⟨by rw [HF.out]; rfl, _, rfl⟩
      · have ek : k = l.length := by omega
        have HF : Hid (oddI l = o) := Lib.hid ((ek ▸ HA.out).done)
        go_wp2_with (fail)
        go_ret
        exact ⟨by rw [HF.out]; rfl, _, rfl⟩
set_option maxHeartbeats 2000000 in
theorem blame_impl {w : World} {v : Value} {X : Rowi} (h : RdR w v X) (hn : X.length ≤ 1048576) (hi : ∀ x ∈ X, x.length ≤ 1048576) (t : Int) :
    Calls Try.prog 33 #[v, .int .i64 t] w fun e w' => e = .returned (.int .i64 (blameI X t)) ∧ Below w.heap.size w w' := by
  obtain ⟨a, cap, rfl, h⟩ := h
  have hlc : (X.length : Int) ≤ 1048576 := by omega
  by_cases h3 : 3 ≤ X.length
  case neg =>
    have z1 : decide ((X.length : Int) < 3) = true := by simp; omega
    have HF : Hid (blameI X t = -1) := Lib.hid (blameI_few h3)
    go_enter Try.func33, Try.ntmps33
    go_wp2_with (fail)
    go_ret
    exact ⟨by rw [HF.out]; rfl, Below.refl _ _⟩
  have z1 : decide ((X.length : Int) < 3) = false := by simp; omega
  obtain ⟨b, off, rfl, hc⟩ := h.resolve_left (by intro e; rw [e] at h3; simp at h3)
  have HC := Lib.hid hc
  have HI := Lib.hid hi
  have H3 := Lib.hid h3
  clear h hc hi h3
  go_enter Try.func33, Try.ntmps33
  go_wp2_with (fail)
  clear z1
  go_loopw [13, 5] (fun i s wr => ∃ (k : Nat) (acc : List Int), k ≤ X.length ∧ i = .int .i64 (k : Int) ∧ OwnR wr w.heap.size s acc ∧ acc.length = k ∧ Hid (acc = pickI (X.take k) t) ∧ Below w.heap.size w wr ∧ Hid (∀ j (hj : j < X.length), j < k → 0 ≤ t ∧ t ≤ (X[j].length : Int) - 1)) (fun i _ _ => X.length - (intOf i).toNat)
  case atStart => exact ⟨0, [], Nat.zero_le _, rfl, World.ownsRow_nil _ _ _ 1, rfl, Lib.hid rfl, Below.refl _ _, Lib.hid (fun j hj hl => by omega)⟩
  case round =>
    obtain ⟨k, acc, hk, rfl, hown, hal, HT, hbel, HA⟩ := hrel
    have hsz := hbel.size
    by_cases hkl : k < X.length
    · have hkk : (k : Int) < (X.length : Int) := by omega
      obtain ⟨u, c0, r0⟩ := HC.out k hkl
      have c1 : wr.cell? ⟨b, off + k, none⟩ = some u := (hbel.cell (World.block_lt_of_cell? w _ c0)).trans c0
      have r1 := r0.keep hbel
      have hxl := HI.out X[k] (List.getElem_mem _)
      have HN := Lib.hid (pickI_snoc (t := t) hkl)
      have HB : Hid (¬ (0 ≤ t ∧ t ≤ (X[k].length : Int) - 1) → haveB X t = false) := Lib.hid (haveB_bad hkl)
      have HG : Hid (∀ j (hj : j < X.length), j < k + 1 → (j = k → 0 ≤ t ∧ t ≤ (X[k].length : Int) - 1) → 0 ≤ t ∧ t ≤ (X[j].length : Int) - 1) := Lib.hid (fun j hj hl hk' => by
        by_cases e : j = k
        · subst e; exact hk' rfl
        · exact HA.out j hj (by omega))
      clear c0 r0
      generalize X[k] = x at *
      obtain ⟨au, cu, rfl, hu⟩ := id r1
      have hxc : (x.length : Int) ≤ 1048576 := by omega
      go_wp2_with (fail)
      refine (within_impl _ _ _ _).mono ?_
      rintro e w1 ⟨rfl, rfl⟩
      cases q : inR t 0 ((x.length : Int) - 1) with
      | false =>
        have HF : Hid (blameI X t = -1) := Lib.hid (blameI_bad (HB.out (fun hh => by rw [(inR_iff _ _ _).2 hh] at q; cases q)))
        clear q
        go_wp2_with (fail)
        go_ret
        exact ⟨by rw [HF.out]; rfl, hbel⟩
      | true =>
        have hq := (inR_iff _ _ _).1 q
        obtain ⟨tn, rfl⟩ : ∃ tn : Nat, t = tn := ⟨t.toNat, by omega⟩
        have htn : tn < x.length := by omega
        have hti : (tn : Int) < (x.length : Int) := by omega
        obtain ⟨bu, ou, rfl, hcu⟩ := hu.resolve_left (by intro e; rw [e] at htn; simp at htn)
        have c2 := hcu tn htn
        have HY : Hid (x.getD (tn : Int).toNat 0 = x[tn]) := Lib.hid (by simp [htn])
        generalize x[tn] = y at *
        clear q hu hcu r1
        go_wp2_with (at_builtin; refine app_int rfl _ _ rfl w.heap.size _ acc rfl hown _ rfl (by omega) hsz ?_; intro v' w4 hown' hb')
        go_roundw
        case rel => exact ⟨k + 1, acc ++ [y], by omega, by go_num, hown', by simp [hal], Lib.hid (by rw [HN.out, HT.out, HY.out]), hbel.trans hb', Lib.hid (fun j hj hl => HG.out j hj hl (fun _ => hq))⟩
        case measure => simp [intOf]; omega
    · have ek : k = X.length := by omega
      have hacc : acc = pickI X t := by rw [HT.out, List.take_of_length_le (by omega)]
      have HF : Hid (blameI X t = oddI acc) := Lib.hid (by rw [hacc]; exact blameI_ok H3.out (haveB_ok (fun j hj => HA.out j hj (by omega))))
      have h3' := H3.out
      clear hacc
      have hP := oddOne_impl hown.own.rd (by omega) (by omega)
      go_wp2_with (fail)
      refine hP.mono ?_
      rintro e w2 ⟨rfl, n, rfl⟩
      go_wp2_with (fail)
      go_ret
      exact ⟨by rw [HF.out]; rfl, below_drewN hbel _⟩
end Go.Proofs.Ytikaiimafliceaa
