/-
  No cell of these rows narrows 'for every input' (looked for: loops, veiled, ifaces, maps, wideKeys, modest, calm, conditions, laid).
  DERIVED. THE GIVEN ROWS OF THIS SEAT. 8 by the template 'for every input the law returns true; each argument reads behind the call as it read before'; 0 by the template 'total and deterministic' (their statements: YtjdiflomgalpdaaTotals.lean).
  GIVEN WITH THE SEED: the statements are not yours to turn. If you find one false, say at which input.
  Laid BY PROGRAM, IN A SANDBOX (cutbox-rows.mjs): the forced cells as the released guide's own fill.sh prints them over the translation 72419ed29a1f50c6… (all of the seat's roots in one cut). By AI agents, Wed Nov 11 2026. No macro, syntax, notation, axiom, sorry.
-/
import Derived.Test.YtjdiflomgalpdaaChecked
import GoSem.Claim
import GoSem.ClaimJoined
import GoSem.ClaimMapViews
import Derived.JoinedTies
import Derived.KernelRfl
namespace Go.Proofs.Ytjdiflomgalpdaa
/- THE CELL 'sum', in the pinned program and in every row, IS THE sha256 OF THE DUMP (.gsa) THAT YtjdiflomgalpdaaProg.lean LOADS. Nothing in Lean hashes anything: it is a label: what it is worth is what the hold of that sum in a sandbox is worth. -/
noncomputable def Try.pinned : Pinned := { name := "ytjdiflomgalpdaa", sum := "72419ed29a1f50c68e28f2a70e0916500ddd07bee636c0128d41b943d4842303", checked := Try.checked }
namespace Rows
def none {H : Type} : Left H := { results := [], args := [] }

/-- 'laws.FnTrackBytes': WHATEVER THE INPUT: true; the input reads as it did. -/
def fnTrackBytesSpec : ChangeSpec := { name := "fnTrackBytes", fn := fun _ => fun
  | [d] => { results := [.lit (.bool true)], args := [d] }
  | _ => none }
def fnTrackBytesRow : OpenClaim := { program := "ytjdiflomgalpdaa", sum := "72419ed29a1f50c68e28f2a70e0916500ddd07bee636c0128d41b943d4842303", func := "loop.example/g03315/laws.FnTrackBytes", spec := "fnTrackBytes", inPlace := ["internal/abi.NoEscape"], apart := false }
def FnTrackBytesSaid : Prop := fnTrackBytesRow.holds Try.pinned (OpenSpec.ofChange fnTrackBytesSpec)

/-- ITS FALSE NEIGHBOUR: 'it returns false'. Refute it at one input. -/
def fnTrackBytesWrong : ChangeSpec := { name := "fnTrackBytes", fn := fun _ => fun
  | [d] => { results := [.lit (.bool false)], args := [d] }
  | _ => none }
def FnTrackBytesWrongFalsely : Prop := fnTrackBytesRow.holds Try.pinned (OpenSpec.ofChange fnTrackBytesWrong)

/-- 'laws.FnPredicted': WHATEVER THE INPUT: true; the input reads as it did. -/
def fnPredictedSpec : ChangeSpec := { name := "fnPredicted", fn := fun _ => fun
  | [d] => { results := [.lit (.bool true)], args := [d] }
  | _ => none }
def fnPredictedRow : OpenClaim := { program := "ytjdiflomgalpdaa", sum := "72419ed29a1f50c68e28f2a70e0916500ddd07bee636c0128d41b943d4842303", func := "loop.example/g03315/laws.FnPredicted", spec := "fnPredicted", apart := false }
def FnPredictedSaid : Prop := fnPredictedRow.holds Try.pinned (OpenSpec.ofChange fnPredictedSpec)

/-- ITS FALSE NEIGHBOUR: 'it returns false'. Refute it at one input. -/
def fnPredictedWrong : ChangeSpec := { name := "fnPredicted", fn := fun _ => fun
  | [d] => { results := [.lit (.bool false)], args := [d] }
  | _ => none }
def FnPredictedWrongFalsely : Prop := fnPredictedRow.holds Try.pinned (OpenSpec.ofChange fnPredictedWrong)

/-- 'laws.FnTold': WHATEVER THE INPUT: true; the input reads as it did. -/
def fnToldSpec : ChangeSpec := { name := "fnTold", fn := fun _ => fun
  | [d] => { results := [.lit (.bool true)], args := [d] }
  | _ => none }
def fnToldRow : OpenClaim := { program := "ytjdiflomgalpdaa", sum := "72419ed29a1f50c68e28f2a70e0916500ddd07bee636c0128d41b943d4842303", func := "loop.example/g03315/laws.FnTold", spec := "fnTold", apart := false }
def FnToldSaid : Prop := fnToldRow.holds Try.pinned (OpenSpec.ofChange fnToldSpec)

/-- ITS FALSE NEIGHBOUR: 'it returns false'. Refute it at one input. -/
def fnToldWrong : ChangeSpec := { name := "fnTold", fn := fun _ => fun
  | [d] => { results := [.lit (.bool false)], args := [d] }
  | _ => none }
def FnToldWrongFalsely : Prop := fnToldRow.holds Try.pinned (OpenSpec.ofChange fnToldWrong)

/-- 'laws.FnScripts': WHATEVER THE INPUT: true; the input reads as it did. -/
def fnScriptsSpec : ChangeSpec := { name := "fnScripts", fn := fun _ => fun
  | [d] => { results := [.lit (.bool true)], args := [d] }
  | _ => none }
def fnScriptsRow : OpenClaim := { program := "ytjdiflomgalpdaa", sum := "72419ed29a1f50c68e28f2a70e0916500ddd07bee636c0128d41b943d4842303", func := "loop.example/g03315/laws.FnScripts", spec := "fnScripts", apart := false }
def FnScriptsSaid : Prop := fnScriptsRow.holds Try.pinned (OpenSpec.ofChange fnScriptsSpec)

/-- ITS FALSE NEIGHBOUR: 'it returns false'. Refute it at one input. -/
def fnScriptsWrong : ChangeSpec := { name := "fnScripts", fn := fun _ => fun
  | [d] => { results := [.lit (.bool false)], args := [d] }
  | _ => none }
def FnScriptsWrongFalsely : Prop := fnScriptsRow.holds Try.pinned (OpenSpec.ofChange fnScriptsWrong)

/-- 'laws.FnExactSameWorld': WHATEVER THE INPUT: true; the input reads as it did. -/
def fnExactSameWorldSpec : ChangeSpec := { name := "fnExactSameWorld", fn := fun _ => fun
  | [d1, d2] => { results := [.lit (.bool true)], args := [d1, d2] }
  | _ => none }
def fnExactSameWorldRow : OpenClaim := { program := "ytjdiflomgalpdaa", sum := "72419ed29a1f50c68e28f2a70e0916500ddd07bee636c0128d41b943d4842303", func := "loop.example/g03315/laws.FnExactSameWorld", spec := "fnExactSameWorld", apart := false }
def FnExactSameWorldSaid : Prop := fnExactSameWorldRow.holds Try.pinned (OpenSpec.ofChange fnExactSameWorldSpec)

/-- ITS FALSE NEIGHBOUR: 'it returns false'. Refute it at one input. -/
def fnExactSameWorldWrong : ChangeSpec := { name := "fnExactSameWorld", fn := fun _ => fun
  | [d1, d2] => { results := [.lit (.bool false)], args := [d1, d2] }
  | _ => none }
def FnExactSameWorldWrongFalsely : Prop := fnExactSameWorldRow.holds Try.pinned (OpenSpec.ofChange fnExactSameWorldWrong)

/-- 'laws.FnExactAddInputs': WHATEVER THE INPUT: true; the input reads as it did. -/
def fnExactAddInputsSpec : ChangeSpec := { name := "fnExactAddInputs", fn := fun _ => fun
  | [d1, d2, d3] => { results := [.lit (.bool true)], args := [d1, d2, d3] }
  | _ => none }
def fnExactAddInputsRow : OpenClaim := { program := "ytjdiflomgalpdaa", sum := "72419ed29a1f50c68e28f2a70e0916500ddd07bee636c0128d41b943d4842303", func := "loop.example/g03315/laws.FnExactAddInputs", spec := "fnExactAddInputs", apart := false }
def FnExactAddInputsSaid : Prop := fnExactAddInputsRow.holds Try.pinned (OpenSpec.ofChange fnExactAddInputsSpec)

/-- ITS FALSE NEIGHBOUR: 'it returns false'. Refute it at one input. -/
def fnExactAddInputsWrong : ChangeSpec := { name := "fnExactAddInputs", fn := fun _ => fun
  | [d1, d2, d3] => { results := [.lit (.bool false)], args := [d1, d2, d3] }
  | _ => none }
def FnExactAddInputsWrongFalsely : Prop := fnExactAddInputsRow.holds Try.pinned (OpenSpec.ofChange fnExactAddInputsWrong)

/-- 'laws.FnExactUnpackTrack': WHATEVER THE INPUT: true; the input reads as it did. -/
def fnExactUnpackTrackSpec : ChangeSpec := { name := "fnExactUnpackTrack", fn := fun _ => fun
  | [d] => { results := [.lit (.bool true)], args := [d] }
  | _ => none }
def fnExactUnpackTrackRow : OpenClaim := { program := "ytjdiflomgalpdaa", sum := "72419ed29a1f50c68e28f2a70e0916500ddd07bee636c0128d41b943d4842303", func := "loop.example/g03315/laws.FnExactUnpackTrack", spec := "fnExactUnpackTrack", inPlace := ["internal/abi.NoEscape"], apart := false }
def FnExactUnpackTrackSaid : Prop := fnExactUnpackTrackRow.holds Try.pinned (OpenSpec.ofChange fnExactUnpackTrackSpec)

/-- ITS FALSE NEIGHBOUR: 'it returns false'. Refute it at one input. -/
def fnExactUnpackTrackWrong : ChangeSpec := { name := "fnExactUnpackTrack", fn := fun _ => fun
  | [d] => { results := [.lit (.bool false)], args := [d] }
  | _ => none }
def FnExactUnpackTrackWrongFalsely : Prop := fnExactUnpackTrackRow.holds Try.pinned (OpenSpec.ofChange fnExactUnpackTrackWrong)

/-- 'laws.FnExactPacketOk': WHATEVER THE INPUT: true; the input reads as it did. -/
def fnExactPacketOkSpec : ChangeSpec := { name := "fnExactPacketOk", fn := fun _ => fun
  | [d] => { results := [.lit (.bool true)], args := [d] }
  | _ => none }
def fnExactPacketOkRow : OpenClaim := { program := "ytjdiflomgalpdaa", sum := "72419ed29a1f50c68e28f2a70e0916500ddd07bee636c0128d41b943d4842303", func := "loop.example/g03315/laws.FnExactPacketOk", spec := "fnExactPacketOk", apart := false }
def FnExactPacketOkSaid : Prop := fnExactPacketOkRow.holds Try.pinned (OpenSpec.ofChange fnExactPacketOkSpec)

/-- ITS FALSE NEIGHBOUR: 'it returns false'. Refute it at one input. -/
def fnExactPacketOkWrong : ChangeSpec := { name := "fnExactPacketOk", fn := fun _ => fun
  | [d] => { results := [.lit (.bool false)], args := [d] }
  | _ => none }
def FnExactPacketOkWrongFalsely : Prop := fnExactPacketOkRow.holds Try.pinned (OpenSpec.ofChange fnExactPacketOkWrong)

/- THE SECOND FORM. 'bulk': how many values and letters a reading holds, each counted each time it is reached (what is shared counts as often as it is met; a slice's spare places count too). A statement '..UptoSaid' is the law's where the arguments, and the package variables that the reading takes, are together of bulk at most 1048576: NARROWER than '..Said'. Prove '..Said' where nothing that the law and all that it calls make is longer than what came in: it says more and counts as full. Else prove '..UptoSaid'. A law counts once. -/
mutual
def uptoBulk {H : Type} : DataW H → Nat
  | .lit (.string bytes) => bytes.length + 1
  | .lit _ => 1
  | .nil => 1
  | .ptr d => uptoBulk d + 1
  | .slice elems spare => uptoBulkAll elems + uptoBulkAll spare + 1
  | .agg parts => uptoBulkAll parts + 1
  | .iface _ d => uptoBulk d + 1
  | .map entries => uptoBulkEntries entries + 1
  | .held _ => 1
def uptoBulkAll {H : Type} : List (DataW H) → Nat
  | [] => 0
  | d :: r => uptoBulk d + uptoBulkAll r
def uptoBulkEntries {H : Type} : List (Lit × DataW H) → Nat
  | [] => 0
  | x :: r => uptoBulkEntry x + uptoBulkEntries r
def uptoBulkEntry {H : Type} : Lit × DataW H → Nat
  | (.string bytes, d) => bytes.length + uptoBulk d + 1
  | (_, d) => uptoBulk d + 1
 end
def uptoSmall : (H : Type) → List (DataW H) → Bool := fun _ ds => decide (uptoBulkAll ds ≤ 1048576)
def OpenSpec.upto (s : _root_.Go.ChangeSpec) : _root_.Go.OpenSpec := { _root_.Go.OpenSpec.ofChange s with cond := some uptoSmall }

/-- 'laws.FnTrackBytes', WHERE WHAT IT READS IS OF BULK AT MOST 1048576: true; the input reads as it did. -/
def fnTrackBytesUptoRow : OpenClaim := { program := "ytjdiflomgalpdaa", sum := "72419ed29a1f50c68e28f2a70e0916500ddd07bee636c0128d41b943d4842303", func := "loop.example/g03315/laws.FnTrackBytes", spec := "fnTrackBytes", inPlace := ["internal/abi.NoEscape"], apart := false, narrowed := true }
def FnTrackBytesUptoSaid : Prop := fnTrackBytesUptoRow.holds Try.pinned (OpenSpec.upto fnTrackBytesSpec)

/-- 'laws.FnPredicted', WHERE WHAT IT READS IS OF BULK AT MOST 1048576: true; the input reads as it did. -/
def fnPredictedUptoRow : OpenClaim := { program := "ytjdiflomgalpdaa", sum := "72419ed29a1f50c68e28f2a70e0916500ddd07bee636c0128d41b943d4842303", func := "loop.example/g03315/laws.FnPredicted", spec := "fnPredicted", apart := false, narrowed := true }
def FnPredictedUptoSaid : Prop := fnPredictedUptoRow.holds Try.pinned (OpenSpec.upto fnPredictedSpec)

/-- 'laws.FnTold', WHERE WHAT IT READS IS OF BULK AT MOST 1048576: true; the input reads as it did. -/
def fnToldUptoRow : OpenClaim := { program := "ytjdiflomgalpdaa", sum := "72419ed29a1f50c68e28f2a70e0916500ddd07bee636c0128d41b943d4842303", func := "loop.example/g03315/laws.FnTold", spec := "fnTold", apart := false, narrowed := true }
def FnToldUptoSaid : Prop := fnToldUptoRow.holds Try.pinned (OpenSpec.upto fnToldSpec)

/-- 'laws.FnScripts', WHERE WHAT IT READS IS OF BULK AT MOST 1048576: true; the input reads as it did. -/
def fnScriptsUptoRow : OpenClaim := { program := "ytjdiflomgalpdaa", sum := "72419ed29a1f50c68e28f2a70e0916500ddd07bee636c0128d41b943d4842303", func := "loop.example/g03315/laws.FnScripts", spec := "fnScripts", apart := false, narrowed := true }
def FnScriptsUptoSaid : Prop := fnScriptsUptoRow.holds Try.pinned (OpenSpec.upto fnScriptsSpec)

/-- 'laws.FnExactSameWorld', WHERE WHAT IT READS IS OF BULK AT MOST 1048576: true; the input reads as it did. -/
def fnExactSameWorldUptoRow : OpenClaim := { program := "ytjdiflomgalpdaa", sum := "72419ed29a1f50c68e28f2a70e0916500ddd07bee636c0128d41b943d4842303", func := "loop.example/g03315/laws.FnExactSameWorld", spec := "fnExactSameWorld", apart := false, narrowed := true }
def FnExactSameWorldUptoSaid : Prop := fnExactSameWorldUptoRow.holds Try.pinned (OpenSpec.upto fnExactSameWorldSpec)

/-- 'laws.FnExactAddInputs', WHERE WHAT IT READS IS OF BULK AT MOST 1048576: true; the input reads as it did. -/
def fnExactAddInputsUptoRow : OpenClaim := { program := "ytjdiflomgalpdaa", sum := "72419ed29a1f50c68e28f2a70e0916500ddd07bee636c0128d41b943d4842303", func := "loop.example/g03315/laws.FnExactAddInputs", spec := "fnExactAddInputs", apart := false, narrowed := true }
def FnExactAddInputsUptoSaid : Prop := fnExactAddInputsUptoRow.holds Try.pinned (OpenSpec.upto fnExactAddInputsSpec)

/-- 'laws.FnExactUnpackTrack', WHERE WHAT IT READS IS OF BULK AT MOST 1048576: true; the input reads as it did. -/
def fnExactUnpackTrackUptoRow : OpenClaim := { program := "ytjdiflomgalpdaa", sum := "72419ed29a1f50c68e28f2a70e0916500ddd07bee636c0128d41b943d4842303", func := "loop.example/g03315/laws.FnExactUnpackTrack", spec := "fnExactUnpackTrack", inPlace := ["internal/abi.NoEscape"], apart := false, narrowed := true }
def FnExactUnpackTrackUptoSaid : Prop := fnExactUnpackTrackUptoRow.holds Try.pinned (OpenSpec.upto fnExactUnpackTrackSpec)

/-- 'laws.FnExactPacketOk', WHERE WHAT IT READS IS OF BULK AT MOST 1048576: true; the input reads as it did. -/
def fnExactPacketOkUptoRow : OpenClaim := { program := "ytjdiflomgalpdaa", sum := "72419ed29a1f50c68e28f2a70e0916500ddd07bee636c0128d41b943d4842303", func := "loop.example/g03315/laws.FnExactPacketOk", spec := "fnExactPacketOk", apart := false, narrowed := true }
def FnExactPacketOkUptoSaid : Prop := fnExactPacketOkUptoRow.holds Try.pinned (OpenSpec.upto fnExactPacketOkSpec)

end Rows
end Go.Proofs.Ytjdiflomgalpdaa
