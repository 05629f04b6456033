/-
  UnpackTrack: the contracts of the model and of the program. Condition: a text of at most 2^20 bytes.
-/
import Derived.Test.YtbjbamcpfjlllabRep
import Derived.Test.YtbjbamcpfjlllabPkT
import Derived.Test.YtbjbamcpfjlllabText
namespace Go.Proofs.Ytbjbamcpfjlllab
open Go.RowKit
set_option linter.all false
def unR (l : List UInt8) : Nat → Nat → List Int → Option (List Int)
  | 0, _, out => some out
  | f + 1, p, out => if p < l.length then (match decAt l (p : Int) with | none => none | some (v, m) => if 400 - out.length < v / 16 then none else unR l f (p + m) (out ++ List.replicate (v / 16) ((v % 16 : Nat) : Int))) else some out
/-- What UnpackTrack finds. -/
def unT (l : List UInt8) : Option (List Int) := match unR l l.length 0 [] with
  | none => none
  | some out => if packTr out = l then some out else none
def UnA (l : List UInt8) (p : Nat) (out : List Int) : Prop := ∃ f, unR l l.length 0 [] = unR l f p out ∧ l.length ≤ p + f ∧ p ≤ l.length ∧ out.length ≤ 400
theorem UnA.zero (l : List UInt8) : UnA l 0 [] := ⟨l.length, rfl, by omega, by omega, by simp⟩
theorem UnA.stop {l : List UInt8} {p : Nat} {out : List Int} (h : UnA l p out) (hp : p < l.length) (hd : decAt l (p : Int) = none) : unT l = none := by
  obtain ⟨f, e, hf, -⟩ := h
  obtain ⟨g, rfl⟩ : ∃ g, f = g + 1 := ⟨f - 1, by omega⟩
  unfold unT; rw [e, unR, if_pos hp, hd]
theorem UnA.far {l : List UInt8} {p v m : Nat} {out : List Int} (h : UnA l p out) (hp : p < l.length) (hd : decAt l (p : Int) = some (v, m)) (hv : 400 - out.length < v / 16) : unT l = none := by
  obtain ⟨f, e, hf, -⟩ := h
  obtain ⟨g, rfl⟩ : ∃ g, f = g + 1 := ⟨f - 1, by omega⟩
  unfold unT; rw [e, unR, if_pos hp, hd]; simp only; rw [if_pos hv]
theorem UnA.next {l : List UInt8} {p v m : Nat} {out : List Int} (h : UnA l p out) (hp : p < l.length) (hd : decAt l (p : Int) = some (v, m)) (hv : ¬ 400 - out.length < v / 16) : UnA l (p + m) (out ++ List.replicate (v / 16) ((v % 16 : Nat) : Int)) := by
  obtain ⟨f, e, hf, hpl, ho⟩ := h
  obtain ⟨g, rfl⟩ : ∃ g, f = g + 1 := ⟨f - 1, by omega⟩
  have hfa := decAt_facts hd
  rw [Int.toNat_natCast] at hfa
  refine ⟨g, ?_, by omega, by omega, by simp; omega⟩
  rw [e, unR, if_pos hp, hd]; simp only; rw [if_neg hv]
theorem UnA.done {l : List UInt8} {p : Nat} {out : List Int} (h : UnA l p out) (hp : ¬ p < l.length) : unT l = if packTr out = l then some out else none := by
  obtain ⟨f, e, -⟩ := h
  unfold unT; rw [e]
  cases f with
  | zero => rfl
  | succ f => rw [unR, if_neg hp]
theorem unT_len {l : List UInt8} {xs : List Int} (h : unT l = some xs) : xs.length ≤ 400 := by
  unfold unT at h
  cases hu : unR l l.length 0 [] with
  | none => rw [hu] at h; cases h
  | some out =>
    rw [hu] at h
    simp only at h
    split at h
    · obtain rfl := Option.some.inj h
      have key : ∀ (f p : Nat) (o r : List Int), o.length ≤ 400 → unR l f p o = some r → r.length ≤ 400 := by
        intro f
        induction f with
        | zero => intro p o r ho hr; rw [unR] at hr; obtain rfl := Option.some.inj hr; exact ho
        | succ f ih =>
          intro p o r ho hr
          rw [unR] at hr
          split at hr
          · split at hr
            · cases hr
            · split at hr
              · cases hr
              · exact ih _ _ _ (by simp; omega) hr
          · obtain rfl := Option.some.inj hr; exact ho
      exact key _ _ _ _ (by simp) hu
    · cases h
def RetUT (w : World) (o : Option (List Int)) (e : Ending) (w' : World) : Prop := ∃ v, e = .returned (.tuple #[v, .bool o.isSome]) ∧ OwnI w' w.heap.size v (o.getD []) ∧ Below w.heap.size w w'
theorem OwnR.capI {w : World} {B : Nat} {v : Value} {xs : List Int} (h : OwnR w B v xs) : CapI v := by
  rcases h.2 with ⟨rfl, h0⟩ | ⟨g, cap, cur, rfl, hB, hg, hn, hc, -⟩
  · exact ⟨_, _, _, rfl, Nat.le_refl _⟩
  · exact ⟨_, _, _, rfl, hn⟩
theorem OwnR.nil (w : World) (B : Nat) : OwnR w B (.slice none 0 0) [] := World.ownsRow_nil w B _ _
set_option maxRecDepth 100000 in
set_option maxHeartbeats 4000000 in
theorem unpackTrack_impl (l : List UInt8) (w : World) (hs : l.length ≤ 1048576) :
    Calls Try.prog 13 #[.string ⟨l.toArray⟩] w (RetUT w (unT l)) := by
  have hs' : l.length ≤ 70368744177664 := by omega
  go_enter Try.func13, Try.ntmps13
  go_wp2_with (fail)
  go_loopw [4, 5] (fun v i wr => ∃ (p : Nat) (out : List Int), i = .int .i64 (p : Int) ∧ UnA l p out ∧ OwnR wr w.heap.size v out ∧ Below w.heap.size w wr) (fun _ i _ => l.length - (intOf i).toNat)
  case atStart => exact ⟨0, [], rfl, UnA.zero l, OwnR.nil _ _, Below.refl _ _⟩
  case round =>
    obtain ⟨p, out, rfl, hu, hown, hbel⟩ := hrel
    have hpl : p ≤ l.length := by obtain ⟨_, _, _, h, _⟩ := hu; exact h
    have hol : out.length ≤ 400 := by obtain ⟨_, _, _, _, h⟩ := hu; exact h
    have hsz := hbel.size
    by_cases hp : p < l.length
    · have hp1 : (p : Int) < (l.length : Int) := by omega
      cases hd : decAt l (p : Int) with
      | none =>
        have HF := Lib.hid (hu.stop hp hd)
        have HD := Lib.hid hd
        clear hd hu
        go_wp2_with (go_at_call 27; refine (decodeVarint_impl _ _ _ hs').mono ?_; rintro e w1 ⟨rfl, rfl⟩; rw [HD.out, retDec_none])
        go_ret2
        exact ⟨_, by rw [HF.out]; rfl, by rw [HF.out]; exact ⟨_, _, rfl, .inl rfl⟩, hbel⟩
      | some y =>
        obtain ⟨n, m⟩ := y
        obtain ⟨-, hm1, hm6, hpm, hn⟩ := decAt_facts hd
        rw [Int.toNat_natCast] at hpm
        have HD := Lib.hid hd
        obtain ⟨q, hq⟩ : ∃ q, n / 16 = q := ⟨_, rfl⟩
        obtain ⟨r, hr⟩ : ∃ r, n % 16 = r := ⟨_, rfl⟩
        have eq1 : (n : Int) / 16 = (q : Int) := by omega
        have er1 : (n : Int) % 16 = (r : Int) := by omega
        obtain ⟨av, cv, hveq, -⟩ := hown.own
        rw [hveq] at hown
        by_cases hfar : 400 - out.length < n / 16
        · have HF := Lib.hid (hu.far hp hd hfar)
          have z1 : decide (400 - (out.length : Int) < (q : Int)) = true := by simp; omega
          clear hd hu
          go_wp2_with (go_at_call 27; refine (decodeVarint_impl _ _ _ hs').mono ?_; rintro e w1 ⟨rfl, rfl⟩; rw [HD.out, retDec_some])
          go_ret2
          exact ⟨_, by rw [HF.out]; rfl, by rw [HF.out]; exact ⟨_, _, rfl, .inl rfl⟩, hbel⟩
        · have HN := Lib.hid (hu.next hp hd hfar)
          rw [hq, hr] at HN
          have z1 : decide (400 - (out.length : Int) < (q : Int)) = false := by simp; omega
          have hq4 : q ≤ 400 := by omega
          clear hd hu
          have hO := hown.keep (below1 wr (.cells #[.int .i64 (r : Int)] 3)) (Nat.le_refl _)
          have hr1 : RdI (wr.alloc (.cells #[.int .i64 (r : Int)] 3)) (.slice (some ⟨wr.heap.size, 0, none⟩) 1 1) [(r : Int)] := ⟨some ⟨wr.heap.size, 0, none⟩, 1, rfl, .inr ⟨wr.heap.size, 0, rfl, fun j hj => by
            obtain rfl : j = 0 := by simp at hj; omega
            rw [World.cell?_alloc_mark]; rfl⟩⟩
          have hR := repeat_any (r : Int) hr1 q hq4
          have hb1 := hbel.trans ((below1 wr (.cells #[.int .i64 (r : Int)] 3)).mono hsz)
          have hs1 := hb1.size
          clear hr1
          go_wp2_with (first
            | (go_at_call 27; refine (decodeVarint_impl _ _ _ hs').mono ?_; rintro e w1 ⟨rfl, rfl⟩; rw [HD.out, retDec_some])
            | (go_at_call 28; refine hR.mono ?_; rintro e w2 ⟨u, rfl, hru, hb2⟩; have hO2 := hO.keep hb2 (Nat.le_refl _); have hb02 := hb1.trans (hb2.mono hs1); have hs2 := hb02.size; obtain ⟨au, cu, rfl, -⟩ := id hru; rw [List.length_replicate] at hru)
            | (at_builtin; refine app_ints rfl _ _ rfl w.heap.size _ out rfl hO2 _ (List.replicate q (r : Int)) rfl hru (by rw [List.length_replicate]; omega) hs2 ?_; intro v' w3 hown' hb3))
          go_roundw
          case rel => exact ⟨p + m, _, by go_num, HN.out, hown', hb02.trans hb3⟩
          case measure => simp [intOf]; omega
    · have HF := Lib.hid (hu.done hp)
      have hcap := hown.capI
      have hrd := hown.own.rd
      have ho2 := hown.own
      obtain ⟨av, cv, rfl, -⟩ := id hrd
      clear hu
      have hP := packTrack_impl hrd hcap (by omega)
      have hlen := packTr_len out
      by_cases he : packTr out = l
      · have HE := Lib.hid he
        have HF2 := Lib.hid (HF.out.trans (if_pos he))
        clear he
        rw [HE.out] at hP
        go_wp2_with (go_at_call 14; refine hP.mono ?_; rintro e w1 ⟨rfl, hb1⟩; have ho3 := ho2.keep hb1; have hb01 := hbel.trans (hb1.mono hsz))
        go_ret2
        exact ⟨_, by rw [HF2.out]; rfl, by rw [HF2.out]; exact ho3, hb01⟩
      · have HF2 := Lib.hid (HF.out.trans (if_neg he))
        have zs : (packTr out == l) = false := by simpa using he
        clear he
        go_wp2_with (go_at_call 14; refine hP.mono ?_; rintro e w1 ⟨rfl, hb1⟩; have hb01 := hbel.trans (hb1.mono hsz))
        go_ret2
        exact ⟨_, by rw [HF2.out]; rfl, by rw [HF2.out]; exact ⟨_, _, rfl, .inl rfl⟩, hb01⟩
end Go.Proofs.Ytbjbamcpfjlllab
