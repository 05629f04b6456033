/-
  The law FnExactCleanUpTo returns true for every input, and each argument reads behind the call as it read before it.
  No condition but what the given statement says.
-/
import Derived.Test.YtnlonkkbjkfkmaaGreatDoorRows
import Derived.Test.YtnlonkkbjkfkmaaGreatDoorCards
import Derived.Test.YtnlonkkbjkfkmaaGreatDoorTie
import Derived.SevenTiedAt
import Derived.LaidMore
import Derived.LaidLaws
import Derived.LaidHandle
import Derived.Handed
import Derived.Stop.Joined
import Derived.Lay
import Derived.MakeChecks
import Derived.WalkKit
import Derived.ProofKit
import Derived.OpenShut
import Derived.ShutString
import Derived.ChangeOld
import Derived.Below
import Derived.Test.YtnlonkkbjkfkmaaGreatDoorM49
namespace Go.Proofs.YtnlonkkbjkfkmaaGreatDoor.fnExactCleanUpTo
open Go.ChangeShapes Go.WideShapes Go.ChangeAt Go.RowKit
open Go.ChangeMaps (open_string shut_string)
set_option linter.unusedVariables false

theorem own : ownKnob Tryz.prog.godebug = none := by kernel_rfl
theorem laidOut : laidOutB Tryz.prog = true := by kernel_rfl

set_option maxRecDepth 100000 in
theorem lifted (os : Os) (started : os.Started) (H : Type) (enc : TypeId × Value → H) :
    ReturnsInHanded {} Tryz.checked os 10 .any (fun w args => (Rows.fnExactCleanUpToSpec.pre enc Tryz.prog Tryz.f10 [] false w args ∧ laidMetH Tryz.prog Rows.fnExactCleanUpToRow.laid w) ∧ sizedMet enc Tryz.prog Tryz.f10 (OpenSpec.ofChange Rows.fnExactCleanUpToSpec) false w args)
      (Rows.fnExactCleanUpToSpec.post enc Tryz.prog Tryz.f10 false true false false) := by
  refine returnsInHanded_of_change_and (C := Tryz.checked) (X := fun w _ => laidMetH Tryz.prog Rows.fnExactCleanUpToRow.laid w) (fun _ _ _ hh h => h.of_heap hh) own started (by kernel_rfl) Tryz.func10
    (ChangeSpec.witness_shaped (enc := enc) (C := Tryz.checked) (os := os) (X := fun w _ => laidMetH Tryz.prog Rows.fnExactCleanUpToRow.laid w) false (World.laidAll Tryz.prog os Rows.fnExactCleanUpToRow.laid) #[.agg #[.int .i64 0, .int .i64 0, .int .i64 0, .int .i64 0, .slice none 0 0, .slice none 0 0, .int .i64 0, .int .i64 0, .slice none 0 0, .slice none 0 0, .slice none 0 0, .int .i64 0, .int .i64 0, .slice none 0 0, .slice none 0 0, .slice none 0 0, .slice none 0 0, .slice none 0 0, .int .i64 0, .int .i64 0, .int .i64 0, .int .i64 0, .int .i64 0], .agg #[.int .i64 0, .int .i64 0, .int .i64 0, .int .i64 0, .slice none 0 0, .slice none 0 0, .int .i64 0, .int .i64 0, .slice none 0 0, .slice none 0 0, .slice none 0 0, .int .i64 0, .int .i64 0, .slice none 0 0, .slice none 0 0, .slice none 0 0, .slice none 0 0, .slice none 0 0, .int .i64 0, .int .i64 0, .int .i64 0, .int .i64 0, .int .i64 0]] 8 (World.laidAll_os _ _ _) (World.shaped_of_ZipB (by kernel_rfl) (by kernel_rfl)) (by kernel_rfl) (by kernel_rfl) (by kernel_rfl) (by rw [MakeChecks.laidMetH_plain _ _ _ (by kernel_rfl)]; exact laidMet_laidAll _ (by kernel_rfl) (by kernel_rfl))) ?_
  intro W base args ds gs before hval0 hW _ _ hL _
  have hval : ∀ (j : Nat) t v, Tryz.f10.params[j]? = some t → args[j]? = some v → Value.okWide Tryz.prog W .any base t v := hval0
  have hW' := hW
  obtain ⟨p, q, hA0, hV, rfl, hfz, hnd⟩ := hW
  have hA : DataW.TrodAll enc Tryz.prog W 0 (fun _ => true) true Tryz.f10.params.toList args.toList ds p := hA0
  rw [Tryz.params10] at hA hval
  obtain ⟨v0, vs0, d0, ds0, p0, q0, hargs, rfl, rfl, h0, r0⟩ := trodAll_cons hA
  obtain ⟨v1, vs1, d1, ds1, p1, q1, rfl, rfl, rfl, h1, r1⟩ := trodAll_cons r0
  obtain ⟨rfl, rfl, rfl⟩ := trodAll_nil r1
  obtain rfl : args = #[v0, v1] := by cases args; simp_all
  obtain ⟨rfl, rfl⟩ := trodVars_none hV
  obtain ⟨b0, yt0, yl0, ys0, yb0, nl0, ns0, nb0, yu0, yv0, yw0, rfl, w0, x0⟩ := Go.Proofs.YtnlonkkbjkfkmaaGreatDoor.open_peer (hval 0 75 v0 rfl rfl) h0
  have k0 := h0
  have lt0 : ∀ x ∈ p0, x.block < W.heap.size := by obtain ⟨m, hm⟩ := k0; exact DataW.trod_lt m _ _ _ hm
  obtain ⟨b1, yt1, yl1, ys1, yb1, nl1, ns1, nb1, yu1, yv1, yw1, rfl, w1, x1⟩ := Go.Proofs.YtnlonkkbjkfkmaaGreatDoor.open_peer (hval 1 75 v1 rfl rfl) h1
  have k1 := h1
  have lt1 : ∀ x ∈ p1, x.block < W.heap.size := by obtain ⟨m, hm⟩ := k1; exact DataW.trod_lt m _ _ _ hm
  clear hA0 hval0
  refine (Go.Proofs.YtnlonkkbjkfkmaaGreatDoor.lawCleanUpTo b0 yt0 yl0 ys0 yb0 nl0 ns0 nb0 yu0 yv0 yw0 w0 x0 b1 yt1 yl1 ys1 yb1 nl1 ns1 nb1 yu1 yv1 yw1 w1 x1 (w := W)).mono fun e W' ⟨he, bel⟩ => ?_
  subst he
  exact ⟨_, rfl, _, _, _, [], _, [], hW', trodAll_mk1 (shut_bool Tryz.underlying4 _), (trodAll_cons_mk (Below.trod laidOut (by kernel_rfl) (of_decide_eq_true (by kernel_rfl)) k0 bel lt0) (trodAll_cons_mk (Below.trod laidOut (by kernel_rfl) (of_decide_eq_true (by kernel_rfl)) k1 bel lt1) (trodAll_mk0))), rfl, bel.frame _, fun h => by cases h⟩

set_option maxRecDepth 100000 in
theorem overNamed : Tryz.pinned.checked.prog.funcNamed Rows.fnExactCleanUpToRow.func = some 10 := by kernel_rfl
set_option maxRecDepth 100000 in
theorem overJoined : joinedFacts Tryz.pinned.checked.prog 10 Tryz.f10 Rows.fnExactCleanUpToSpec Rows.fnExactCleanUpToRow = true := by kernel_rfl
theorem overInst : Tryz.f10.isInstance Tryz.pinned.checked.prog Rows.fnExactCleanUpToRow.origin Rows.fnExactCleanUpToRow.targs := of_decide_eq_true (by kernel_rfl)
theorem overWrap : Tryz.f10.isWrapper Tryz.pinned.checked.prog Rows.fnExactCleanUpToRow.wrapper Rows.fnExactCleanUpToRow.mainSum := by unfold Func.isWrapper; first | (rw [if_pos (by decide +kernel)]; kernel_rfl) | (rw [if_neg (by decide +kernel)]; exact ⟨rfl, rfl⟩)
theorem over : Rows.FnExactCleanUpToSaid :=
  OpenClaim.holds_of_wide 10 Tryz.f10 rfl rfl rfl rfl rfl rfl rfl ⟨rfl, rfl, rfl, rfl, rfl⟩ rfl rfl rfl rfl rfl overNamed Tryz.func10 overJoined
    overInst overWrap
    (fun os started H enc _ => lifted os started H enc)
theorem proved : Rows.FnExactCleanUpToCardSaid :=
  Claim7.holds_tied_plain_at .later [] [.data, .pinned] true (true, "938035ed7b55b8cfbb261b7a8f2e885c7e9dee2290bd8a9649edb1ad5bb2369e") true
    over (fun _ h => by cases h) (by kernel_rfl) (fun _ h => by cases h) Go.Proofs.YtnlonkkbjkfkmaaGreatDoor.fnExactCleanUpTo_row_tie rfl ⟨rfl, rfl⟩ (by kernel_rfl) rfl
    (fun f fn hf hfn => by
      obtain rfl : f = 10 := Option.some.inj ((show Tryz.prog.funcNamed "loop.example/g03315/laws.FnExactCleanUpTo" = some 10 by kernel_rfl).symm.trans hf) |>.symm
      obtain rfl : fn = Tryz.f10 := (Option.some.inj (Tryz.func10.symm.trans hfn)).symm
      exact ⟨by kernel_rfl, fun j t ht => by
        rw [Tryz.params10] at ht
        have hm : t ∈ [75] := by first | (simpa using Array.mem_of_getElem? ht) | (have h0 := Array.mem_of_getElem? ht; simp at h0 ⊢; omega)
        have hall : ([75].all fun u => !Tryz.prog.wantsStandIn u) = true := by kernel_rfl
        exact (show Tryz.prog.wantsStandIn t = false by simpa using List.all_eq_true.1 hall t hm)⟩)
    (by kernel_rfl)
#print axioms proved
end Go.Proofs.YtnlonkkbjkfkmaaGreatDoor.fnExactCleanUpTo
