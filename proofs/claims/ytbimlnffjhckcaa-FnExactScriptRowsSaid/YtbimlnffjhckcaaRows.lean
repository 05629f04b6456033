/-
  No cell of these rows narrows 'for every input' (looked for: loops, veiled, ifaces, maps, wideKeys, modest, calm, conditions, laid).
  DERIVED. THE GIVEN ROWS OF THIS SEAT. 12 by the template 'for every input the law returns true; each argument reads behind the call as it read before'; 0 by the template 'total and deterministic' (their statements: YtbimlnffjhckcaaTotals.lean).
  GIVEN WITH THE SEED: the statements are not yours to turn. If you find one false, say at which input.
  Laid BY PROGRAM, IN A SANDBOX (cutbox-rows.mjs): the forced cells as the released guide's own fill.sh prints them over the translation b6579f9fe08ce175… (all of the seat's roots in one cut). By AI agents, Wed Nov 11 2026. No macro, syntax, notation, axiom, sorry.
-/
import Derived.Test.YtbimlnffjhckcaaChecked
import GoSem.Claim
import GoSem.ClaimJoined
import GoSem.ClaimMapViews
import Derived.JoinedTies
import Derived.KernelRfl
namespace Go.Proofs.Ytbimlnffjhckcaa
/- THE CELL 'sum', in the pinned program and in every row, IS THE sha256 OF THE DUMP (.gsa) THAT YtbimlnffjhckcaaProg.lean LOADS. Nothing in Lean hashes anything: it is a label: what it is worth is what the hold of that sum in a sandbox is worth. -/
noncomputable def Try.pinned : Pinned := { name := "ytbimlnffjhckcaa", sum := "b6579f9fe08ce175f4de54ffb690664b9171a9446e78ff5f52e83b3de14ea039", checked := Try.checked }
namespace Rows
def none {H : Type} : Left H := { results := [], args := [] }

/-- 'laws.FnExactTrackOk': WHATEVER THE INPUT: true; the input reads as it did. -/
def fnExactTrackOkSpec : ChangeSpec := { name := "fnExactTrackOk", fn := fun _ => fun
  | [d] => { results := [.lit (.bool true)], args := [d] }
  | _ => none }
def fnExactTrackOkRow : OpenClaim := { program := "ytbimlnffjhckcaa", sum := "b6579f9fe08ce175f4de54ffb690664b9171a9446e78ff5f52e83b3de14ea039", func := "loop.example/g03315/laws.FnExactTrackOk", spec := "fnExactTrackOk", apart := false }
def FnExactTrackOkSaid : Prop := fnExactTrackOkRow.holds Try.pinned (OpenSpec.ofChange fnExactTrackOkSpec)

/-- ITS FALSE NEIGHBOUR: 'it returns false'. Refute it at one input. -/
def fnExactTrackOkWrong : ChangeSpec := { name := "fnExactTrackOk", fn := fun _ => fun
  | [d] => { results := [.lit (.bool false)], args := [d] }
  | _ => none }
def FnExactTrackOkWrongFalsely : Prop := fnExactTrackOkRow.holds Try.pinned (OpenSpec.ofChange fnExactTrackOkWrong)

/-- 'laws.FnExactTracksOk': WHATEVER THE INPUT: true; the input reads as it did. -/
def fnExactTracksOkSpec : ChangeSpec := { name := "fnExactTracksOk", fn := fun _ => fun
  | [d] => { results := [.lit (.bool true)], args := [d] }
  | _ => none }
def fnExactTracksOkRow : OpenClaim := { program := "ytbimlnffjhckcaa", sum := "b6579f9fe08ce175f4de54ffb690664b9171a9446e78ff5f52e83b3de14ea039", func := "loop.example/g03315/laws.FnExactTracksOk", spec := "fnExactTracksOk", apart := false }
def FnExactTracksOkSaid : Prop := fnExactTracksOkRow.holds Try.pinned (OpenSpec.ofChange fnExactTracksOkSpec)

/-- ITS FALSE NEIGHBOUR: 'it returns false'. Refute it at one input. -/
def fnExactTracksOkWrong : ChangeSpec := { name := "fnExactTracksOk", fn := fun _ => fun
  | [d] => { results := [.lit (.bool false)], args := [d] }
  | _ => none }
def FnExactTracksOkWrongFalsely : Prop := fnExactTracksOkRow.holds Try.pinned (OpenSpec.ofChange fnExactTracksOkWrong)

/-- 'laws.FnExactKnownTicks': WHATEVER THE INPUT: true; the input reads as it did. -/
def fnExactKnownTicksSpec : ChangeSpec := { name := "fnExactKnownTicks", fn := fun _ => fun
  | [d] => { results := [.lit (.bool true)], args := [d] }
  | _ => none }
def fnExactKnownTicksRow : OpenClaim := { program := "ytbimlnffjhckcaa", sum := "b6579f9fe08ce175f4de54ffb690664b9171a9446e78ff5f52e83b3de14ea039", func := "loop.example/g03315/laws.FnExactKnownTicks", spec := "fnExactKnownTicks", apart := false }
def FnExactKnownTicksSaid : Prop := fnExactKnownTicksRow.holds Try.pinned (OpenSpec.ofChange fnExactKnownTicksSpec)

/-- ITS FALSE NEIGHBOUR: 'it returns false'. Refute it at one input. -/
def fnExactKnownTicksWrong : ChangeSpec := { name := "fnExactKnownTicks", fn := fun _ => fun
  | [d] => { results := [.lit (.bool false)], args := [d] }
  | _ => none }
def FnExactKnownTicksWrongFalsely : Prop := fnExactKnownTicksRow.holds Try.pinned (OpenSpec.ofChange fnExactKnownTicksWrong)

/-- 'laws.FnExactPredict': WHATEVER THE INPUT: true; the input reads as it did. -/
def fnExactPredictSpec : ChangeSpec := { name := "fnExactPredict", fn := fun _ => fun
  | [d1, d2] => { results := [.lit (.bool true)], args := [d1, d2] }
  | _ => none }
def fnExactPredictRow : OpenClaim := { program := "ytbimlnffjhckcaa", sum := "b6579f9fe08ce175f4de54ffb690664b9171a9446e78ff5f52e83b3de14ea039", func := "loop.example/g03315/laws.FnExactPredict", spec := "fnExactPredict", apart := false }
def FnExactPredictSaid : Prop := fnExactPredictRow.holds Try.pinned (OpenSpec.ofChange fnExactPredictSpec)

/-- ITS FALSE NEIGHBOUR: 'it returns false'. Refute it at one input. -/
def fnExactPredictWrong : ChangeSpec := { name := "fnExactPredict", fn := fun _ => fun
  | [d1, d2] => { results := [.lit (.bool false)], args := [d1, d2] }
  | _ => none }
def FnExactPredictWrongFalsely : Prop := fnExactPredictRow.holds Try.pinned (OpenSpec.ofChange fnExactPredictWrong)

/-- 'laws.FnExactRowAt': WHATEVER THE INPUT: true; the input reads as it did. -/
def fnExactRowAtSpec : ChangeSpec := { name := "fnExactRowAt", fn := fun _ => fun
  | [d1, d2] => { results := [.lit (.bool true)], args := [d1, d2] }
  | _ => none }
def fnExactRowAtRow : OpenClaim := { program := "ytbimlnffjhckcaa", sum := "b6579f9fe08ce175f4de54ffb690664b9171a9446e78ff5f52e83b3de14ea039", func := "loop.example/g03315/laws.FnExactRowAt", spec := "fnExactRowAt", apart := false }
def FnExactRowAtSaid : Prop := fnExactRowAtRow.holds Try.pinned (OpenSpec.ofChange fnExactRowAtSpec)

/-- ITS FALSE NEIGHBOUR: 'it returns false'. Refute it at one input. -/
def fnExactRowAtWrong : ChangeSpec := { name := "fnExactRowAt", fn := fun _ => fun
  | [d1, d2] => { results := [.lit (.bool false)], args := [d1, d2] }
  | _ => none }
def FnExactRowAtWrongFalsely : Prop := fnExactRowAtRow.holds Try.pinned (OpenSpec.ofChange fnExactRowAtWrong)

/-- 'laws.FnExactRowsOf': WHATEVER THE INPUT: true; the input reads as it did. -/
def fnExactRowsOfSpec : ChangeSpec := { name := "fnExactRowsOf", fn := fun _ => fun
  | [d1, d2, d3] => { results := [.lit (.bool true)], args := [d1, d2, d3] }
  | _ => none }
def fnExactRowsOfRow : OpenClaim := { program := "ytbimlnffjhckcaa", sum := "b6579f9fe08ce175f4de54ffb690664b9171a9446e78ff5f52e83b3de14ea039", func := "loop.example/g03315/laws.FnExactRowsOf", spec := "fnExactRowsOf", apart := false }
def FnExactRowsOfSaid : Prop := fnExactRowsOfRow.holds Try.pinned (OpenSpec.ofChange fnExactRowsOfSpec)

/-- ITS FALSE NEIGHBOUR: 'it returns false'. Refute it at one input. -/
def fnExactRowsOfWrong : ChangeSpec := { name := "fnExactRowsOf", fn := fun _ => fun
  | [d1, d2, d3] => { results := [.lit (.bool false)], args := [d1, d2, d3] }
  | _ => none }
def FnExactRowsOfWrongFalsely : Prop := fnExactRowsOfRow.holds Try.pinned (OpenSpec.ofChange fnExactRowsOfWrong)

/-- 'laws.FnExactAddInputs': WHATEVER THE INPUT: true; the input reads as it did. -/
def fnExactAddInputsSpec : ChangeSpec := { name := "fnExactAddInputs", fn := fun _ => fun
  | [d1, d2, d3] => { results := [.lit (.bool true)], args := [d1, d2, d3] }
  | _ => none }
def fnExactAddInputsRow : OpenClaim := { program := "ytbimlnffjhckcaa", sum := "b6579f9fe08ce175f4de54ffb690664b9171a9446e78ff5f52e83b3de14ea039", func := "loop.example/g03315/laws.FnExactAddInputs", spec := "fnExactAddInputs", apart := false }
def FnExactAddInputsSaid : Prop := fnExactAddInputsRow.holds Try.pinned (OpenSpec.ofChange fnExactAddInputsSpec)

/-- ITS FALSE NEIGHBOUR: 'it returns false'. Refute it at one input. -/
def fnExactAddInputsWrong : ChangeSpec := { name := "fnExactAddInputs", fn := fun _ => fun
  | [d1, d2, d3] => { results := [.lit (.bool false)], args := [d1, d2, d3] }
  | _ => none }
def FnExactAddInputsWrongFalsely : Prop := fnExactAddInputsRow.holds Try.pinned (OpenSpec.ofChange fnExactAddInputsWrong)

/-- 'laws.FnExactSameTrack': WHATEVER THE INPUT: true; the input reads as it did. -/
def fnExactSameTrackSpec : ChangeSpec := { name := "fnExactSameTrack", fn := fun _ => fun
  | [d1, d2] => { results := [.lit (.bool true)], args := [d1, d2] }
  | _ => none }
def fnExactSameTrackRow : OpenClaim := { program := "ytbimlnffjhckcaa", sum := "b6579f9fe08ce175f4de54ffb690664b9171a9446e78ff5f52e83b3de14ea039", func := "loop.example/g03315/laws.FnExactSameTrack", spec := "fnExactSameTrack", apart := false }
def FnExactSameTrackSaid : Prop := fnExactSameTrackRow.holds Try.pinned (OpenSpec.ofChange fnExactSameTrackSpec)

/-- ITS FALSE NEIGHBOUR: 'it returns false'. Refute it at one input. -/
def fnExactSameTrackWrong : ChangeSpec := { name := "fnExactSameTrack", fn := fun _ => fun
  | [d1, d2] => { results := [.lit (.bool false)], args := [d1, d2] }
  | _ => none }
def FnExactSameTrackWrongFalsely : Prop := fnExactSameTrackRow.holds Try.pinned (OpenSpec.ofChange fnExactSameTrackWrong)

/-- 'laws.FnExactPackTrack': WHATEVER THE INPUT: true; the input reads as it did. -/
def fnExactPackTrackSpec : ChangeSpec := { name := "fnExactPackTrack", fn := fun _ => fun
  | [d] => { results := [.lit (.bool true)], args := [d] }
  | _ => none }
def fnExactPackTrackRow : OpenClaim := { program := "ytbimlnffjhckcaa", sum := "b6579f9fe08ce175f4de54ffb690664b9171a9446e78ff5f52e83b3de14ea039", func := "loop.example/g03315/laws.FnExactPackTrack", spec := "fnExactPackTrack", inPlace := ["internal/abi.NoEscape"], apart := false }
def FnExactPackTrackSaid : Prop := fnExactPackTrackRow.holds Try.pinned (OpenSpec.ofChange fnExactPackTrackSpec)

/-- ITS FALSE NEIGHBOUR: 'it returns false'. Refute it at one input. -/
def fnExactPackTrackWrong : ChangeSpec := { name := "fnExactPackTrack", fn := fun _ => fun
  | [d] => { results := [.lit (.bool false)], args := [d] }
  | _ => none }
def FnExactPackTrackWrongFalsely : Prop := fnExactPackTrackRow.holds Try.pinned (OpenSpec.ofChange fnExactPackTrackWrong)

/-- 'laws.FnExactUnpackTrack': WHATEVER THE INPUT: true; the input reads as it did. -/
def fnExactUnpackTrackSpec : ChangeSpec := { name := "fnExactUnpackTrack", fn := fun _ => fun
  | [d] => { results := [.lit (.bool true)], args := [d] }
  | _ => none }
def fnExactUnpackTrackRow : OpenClaim := { program := "ytbimlnffjhckcaa", sum := "b6579f9fe08ce175f4de54ffb690664b9171a9446e78ff5f52e83b3de14ea039", func := "loop.example/g03315/laws.FnExactUnpackTrack", spec := "fnExactUnpackTrack", inPlace := ["internal/abi.NoEscape"], apart := false }
def FnExactUnpackTrackSaid : Prop := fnExactUnpackTrackRow.holds Try.pinned (OpenSpec.ofChange fnExactUnpackTrackSpec)

/-- ITS FALSE NEIGHBOUR: 'it returns false'. Refute it at one input. -/
def fnExactUnpackTrackWrong : ChangeSpec := { name := "fnExactUnpackTrack", fn := fun _ => fun
  | [d] => { results := [.lit (.bool false)], args := [d] }
  | _ => none }
def FnExactUnpackTrackWrongFalsely : Prop := fnExactUnpackTrackRow.holds Try.pinned (OpenSpec.ofChange fnExactUnpackTrackWrong)

/-- 'laws.FnExactScriptInput': WHATEVER THE INPUT: true; the input reads as it did. -/
def fnExactScriptInputSpec : ChangeSpec := { name := "fnExactScriptInput", fn := fun _ => fun
  | [d1, d2, d3] => { results := [.lit (.bool true)], args := [d1, d2, d3] }
  | _ => none }
def fnExactScriptInputRow : OpenClaim := { program := "ytbimlnffjhckcaa", sum := "b6579f9fe08ce175f4de54ffb690664b9171a9446e78ff5f52e83b3de14ea039", func := "loop.example/g03315/laws.FnExactScriptInput", spec := "fnExactScriptInput", apart := false }
def FnExactScriptInputSaid : Prop := fnExactScriptInputRow.holds Try.pinned (OpenSpec.ofChange fnExactScriptInputSpec)

/-- ITS FALSE NEIGHBOUR: 'it returns false'. Refute it at one input. -/
def fnExactScriptInputWrong : ChangeSpec := { name := "fnExactScriptInput", fn := fun _ => fun
  | [d1, d2, d3] => { results := [.lit (.bool false)], args := [d1, d2, d3] }
  | _ => none }
def FnExactScriptInputWrongFalsely : Prop := fnExactScriptInputRow.holds Try.pinned (OpenSpec.ofChange fnExactScriptInputWrong)

/-- 'laws.FnExactScriptRows': WHATEVER THE INPUT: true; the input reads as it did. -/
def fnExactScriptRowsSpec : ChangeSpec := { name := "fnExactScriptRows", fn := fun _ => fun
  | [d1, d2, d3] => { results := [.lit (.bool true)], args := [d1, d2, d3] }
  | _ => none }
def fnExactScriptRowsRow : OpenClaim := { program := "ytbimlnffjhckcaa", sum := "b6579f9fe08ce175f4de54ffb690664b9171a9446e78ff5f52e83b3de14ea039", func := "loop.example/g03315/laws.FnExactScriptRows", spec := "fnExactScriptRows", apart := false }
def FnExactScriptRowsSaid : Prop := fnExactScriptRowsRow.holds Try.pinned (OpenSpec.ofChange fnExactScriptRowsSpec)

/-- ITS FALSE NEIGHBOUR: 'it returns false'. Refute it at one input. -/
def fnExactScriptRowsWrong : ChangeSpec := { name := "fnExactScriptRows", fn := fun _ => fun
  | [d1, d2, d3] => { results := [.lit (.bool false)], args := [d1, d2, d3] }
  | _ => none }
def FnExactScriptRowsWrongFalsely : Prop := fnExactScriptRowsRow.holds Try.pinned (OpenSpec.ofChange fnExactScriptRowsWrong)

/- THE SECOND FORM. 'bulk': how many values and letters a reading holds, each counted each time it is reached (what is shared counts as often as it is met; a slice's spare places count too). A statement '..UptoSaid' is the law's where the arguments, and the package variables that the reading takes, are together of bulk at most 1048576: NARROWER than '..Said'. Prove '..Said' where nothing that the law and all that it calls make is longer than what came in: it says more and counts as full. Else prove '..UptoSaid'. A law counts once. -/
mutual
def uptoBulk {H : Type} : DataW H → Nat
  | .lit (.string bytes) => bytes.length + 1
  | .lit _ => 1
  | .nil => 1
  | .ptr d => uptoBulk d + 1
  | .slice elems spare => uptoBulkAll elems + uptoBulkAll spare + 1
  | .agg parts => uptoBulkAll parts + 1
  | .iface _ d => uptoBulk d + 1
  | .map entries => uptoBulkEntries entries + 1
  | .held _ => 1
def uptoBulkAll {H : Type} : List (DataW H) → Nat
  | [] => 0
  | d :: r => uptoBulk d + uptoBulkAll r
def uptoBulkEntries {H : Type} : List (Lit × DataW H) → Nat
  | [] => 0
  | x :: r => uptoBulkEntry x + uptoBulkEntries r
def uptoBulkEntry {H : Type} : Lit × DataW H → Nat
  | (.string bytes, d) => bytes.length + uptoBulk d + 1
  | (_, d) => uptoBulk d + 1
 end
def uptoSmall : (H : Type) → List (DataW H) → Bool := fun _ ds => decide (uptoBulkAll ds ≤ 1048576)
def OpenSpec.upto (s : _root_.Go.ChangeSpec) : _root_.Go.OpenSpec := { _root_.Go.OpenSpec.ofChange s with cond := some uptoSmall }

/-- 'laws.FnExactTrackOk', WHERE WHAT IT READS IS OF BULK AT MOST 1048576: true; the input reads as it did. -/
def fnExactTrackOkUptoRow : OpenClaim := { program := "ytbimlnffjhckcaa", sum := "b6579f9fe08ce175f4de54ffb690664b9171a9446e78ff5f52e83b3de14ea039", func := "loop.example/g03315/laws.FnExactTrackOk", spec := "fnExactTrackOk", apart := false, narrowed := true }
def FnExactTrackOkUptoSaid : Prop := fnExactTrackOkUptoRow.holds Try.pinned (OpenSpec.upto fnExactTrackOkSpec)

/-- 'laws.FnExactTracksOk', WHERE WHAT IT READS IS OF BULK AT MOST 1048576: true; the input reads as it did. -/
def fnExactTracksOkUptoRow : OpenClaim := { program := "ytbimlnffjhckcaa", sum := "b6579f9fe08ce175f4de54ffb690664b9171a9446e78ff5f52e83b3de14ea039", func := "loop.example/g03315/laws.FnExactTracksOk", spec := "fnExactTracksOk", apart := false, narrowed := true }
def FnExactTracksOkUptoSaid : Prop := fnExactTracksOkUptoRow.holds Try.pinned (OpenSpec.upto fnExactTracksOkSpec)

/-- 'laws.FnExactKnownTicks', WHERE WHAT IT READS IS OF BULK AT MOST 1048576: true; the input reads as it did. -/
def fnExactKnownTicksUptoRow : OpenClaim := { program := "ytbimlnffjhckcaa", sum := "b6579f9fe08ce175f4de54ffb690664b9171a9446e78ff5f52e83b3de14ea039", func := "loop.example/g03315/laws.FnExactKnownTicks", spec := "fnExactKnownTicks", apart := false, narrowed := true }
def FnExactKnownTicksUptoSaid : Prop := fnExactKnownTicksUptoRow.holds Try.pinned (OpenSpec.upto fnExactKnownTicksSpec)

/-- 'laws.FnExactPredict', WHERE WHAT IT READS IS OF BULK AT MOST 1048576: true; the input reads as it did. -/
def fnExactPredictUptoRow : OpenClaim := { program := "ytbimlnffjhckcaa", sum := "b6579f9fe08ce175f4de54ffb690664b9171a9446e78ff5f52e83b3de14ea039", func := "loop.example/g03315/laws.FnExactPredict", spec := "fnExactPredict", apart := false, narrowed := true }
def FnExactPredictUptoSaid : Prop := fnExactPredictUptoRow.holds Try.pinned (OpenSpec.upto fnExactPredictSpec)

/-- 'laws.FnExactRowAt', WHERE WHAT IT READS IS OF BULK AT MOST 1048576: true; the input reads as it did. -/
def fnExactRowAtUptoRow : OpenClaim := { program := "ytbimlnffjhckcaa", sum := "b6579f9fe08ce175f4de54ffb690664b9171a9446e78ff5f52e83b3de14ea039", func := "loop.example/g03315/laws.FnExactRowAt", spec := "fnExactRowAt", apart := false, narrowed := true }
def FnExactRowAtUptoSaid : Prop := fnExactRowAtUptoRow.holds Try.pinned (OpenSpec.upto fnExactRowAtSpec)

/-- 'laws.FnExactRowsOf', WHERE WHAT IT READS IS OF BULK AT MOST 1048576: true; the input reads as it did. -/
def fnExactRowsOfUptoRow : OpenClaim := { program := "ytbimlnffjhckcaa", sum := "b6579f9fe08ce175f4de54ffb690664b9171a9446e78ff5f52e83b3de14ea039", func := "loop.example/g03315/laws.FnExactRowsOf", spec := "fnExactRowsOf", apart := false, narrowed := true }
def FnExactRowsOfUptoSaid : Prop := fnExactRowsOfUptoRow.holds Try.pinned (OpenSpec.upto fnExactRowsOfSpec)

/-- 'laws.FnExactAddInputs', WHERE WHAT IT READS IS OF BULK AT MOST 1048576: true; the input reads as it did. -/
def fnExactAddInputsUptoRow : OpenClaim := { program := "ytbimlnffjhckcaa", sum := "b6579f9fe08ce175f4de54ffb690664b9171a9446e78ff5f52e83b3de14ea039", func := "loop.example/g03315/laws.FnExactAddInputs", spec := "fnExactAddInputs", apart := false, narrowed := true }
def FnExactAddInputsUptoSaid : Prop := fnExactAddInputsUptoRow.holds Try.pinned (OpenSpec.upto fnExactAddInputsSpec)

/-- 'laws.FnExactSameTrack', WHERE WHAT IT READS IS OF BULK AT MOST 1048576: true; the input reads as it did. -/
def fnExactSameTrackUptoRow : OpenClaim := { program := "ytbimlnffjhckcaa", sum := "b6579f9fe08ce175f4de54ffb690664b9171a9446e78ff5f52e83b3de14ea039", func := "loop.example/g03315/laws.FnExactSameTrack", spec := "fnExactSameTrack", apart := false, narrowed := true }
def FnExactSameTrackUptoSaid : Prop := fnExactSameTrackUptoRow.holds Try.pinned (OpenSpec.upto fnExactSameTrackSpec)

/-- 'laws.FnExactPackTrack', WHERE WHAT IT READS IS OF BULK AT MOST 1048576: true; the input reads as it did. -/
def fnExactPackTrackUptoRow : OpenClaim := { program := "ytbimlnffjhckcaa", sum := "b6579f9fe08ce175f4de54ffb690664b9171a9446e78ff5f52e83b3de14ea039", func := "loop.example/g03315/laws.FnExactPackTrack", spec := "fnExactPackTrack", inPlace := ["internal/abi.NoEscape"], apart := false, narrowed := true }
def FnExactPackTrackUptoSaid : Prop := fnExactPackTrackUptoRow.holds Try.pinned (OpenSpec.upto fnExactPackTrackSpec)

/-- 'laws.FnExactUnpackTrack', WHERE WHAT IT READS IS OF BULK AT MOST 1048576: true; the input reads as it did. -/
def fnExactUnpackTrackUptoRow : OpenClaim := { program := "ytbimlnffjhckcaa", sum := "b6579f9fe08ce175f4de54ffb690664b9171a9446e78ff5f52e83b3de14ea039", func := "loop.example/g03315/laws.FnExactUnpackTrack", spec := "fnExactUnpackTrack", inPlace := ["internal/abi.NoEscape"], apart := false, narrowed := true }
def FnExactUnpackTrackUptoSaid : Prop := fnExactUnpackTrackUptoRow.holds Try.pinned (OpenSpec.upto fnExactUnpackTrackSpec)

/-- 'laws.FnExactScriptInput', WHERE WHAT IT READS IS OF BULK AT MOST 1048576: true; the input reads as it did. -/
def fnExactScriptInputUptoRow : OpenClaim := { program := "ytbimlnffjhckcaa", sum := "b6579f9fe08ce175f4de54ffb690664b9171a9446e78ff5f52e83b3de14ea039", func := "loop.example/g03315/laws.FnExactScriptInput", spec := "fnExactScriptInput", apart := false, narrowed := true }
def FnExactScriptInputUptoSaid : Prop := fnExactScriptInputUptoRow.holds Try.pinned (OpenSpec.upto fnExactScriptInputSpec)

/-- 'laws.FnExactScriptRows', WHERE WHAT IT READS IS OF BULK AT MOST 1048576: true; the input reads as it did. -/
def fnExactScriptRowsUptoRow : OpenClaim := { program := "ytbimlnffjhckcaa", sum := "b6579f9fe08ce175f4de54ffb690664b9171a9446e78ff5f52e83b3de14ea039", func := "loop.example/g03315/laws.FnExactScriptRows", spec := "fnExactScriptRows", apart := false, narrowed := true }
def FnExactScriptRowsUptoSaid : Prop := fnExactScriptRowsUptoRow.holds Try.pinned (OpenSpec.upto fnExactScriptRowsSpec)

end Rows
end Go.Proofs.Ytbimlnffjhckcaa
