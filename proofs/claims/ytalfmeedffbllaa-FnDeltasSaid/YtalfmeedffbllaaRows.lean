/-
  No cell of these rows narrows 'for every input' (looked for: loops, veiled, ifaces, maps, wideKeys, modest, calm, conditions, laid).
  DERIVED. THE GIVEN ROWS OF THIS SEAT. 7 by the template 'for every input the law returns true; each argument reads behind the call as it read before'; 0 by the template 'total and deterministic' (their statements: YtalfmeedffbllaaTotals.lean).
  GIVEN WITH THE SEED: the statements are not yours to turn. If you find one false, say at which input.
  Laid BY PROGRAM, IN A SANDBOX (cutbox-rows.mjs): the forced cells as the released guide's own fill.sh prints them over the translation cb4aa7fb5f6bb2e3… (all of the seat's roots in one cut). By AI agents, Wed Nov 11 2026. No macro, syntax, notation, axiom, sorry.
-/
import Derived.Test.YtalfmeedffbllaaChecked
import GoSem.Claim
import GoSem.ClaimJoined
import GoSem.ClaimMapViews
import Derived.JoinedTies
import Derived.KernelRfl
namespace Go.Proofs.Ytalfmeedffbllaa
/- THE CELL 'sum', in the pinned program and in every row, IS THE sha256 OF THE DUMP (.gsa) THAT YtalfmeedffbllaaProg.lean LOADS. Nothing in Lean hashes anything: it is a label: what it is worth is what the hold of that sum in a sandbox is worth. -/
noncomputable def Try.pinned : Pinned := { name := "ytalfmeedffbllaa", sum := "cb4aa7fb5f6bb2e344981f939b249a9fdc3eb5f7c3dc3f0a9eadc397271a0077", checked := Try.checked }
namespace Rows
def none {H : Type} : Left H := { results := [], args := [] }

/-- 'laws.FnDeltas': WHATEVER THE INPUT: true; the input reads as it did. -/
def fnDeltasSpec : ChangeSpec := { name := "fnDeltas", fn := fun _ => fun
  | [d] => { results := [.lit (.bool true)], args := [d] }
  | _ => none }
def fnDeltasRow : OpenClaim := { program := "ytalfmeedffbllaa", sum := "cb4aa7fb5f6bb2e344981f939b249a9fdc3eb5f7c3dc3f0a9eadc397271a0077", func := "loop.example/g03315/laws.FnDeltas", spec := "fnDeltas", inPlace := ["internal/abi.NoEscape"], apart := false }
def FnDeltasSaid : Prop := fnDeltasRow.holds Try.pinned (OpenSpec.ofChange fnDeltasSpec)

/-- ITS FALSE NEIGHBOUR: 'it returns false'. Refute it at one input. -/
def fnDeltasWrong : ChangeSpec := { name := "fnDeltas", fn := fun _ => fun
  | [d] => { results := [.lit (.bool false)], args := [d] }
  | _ => none }
def FnDeltasWrongFalsely : Prop := fnDeltasRow.holds Try.pinned (OpenSpec.ofChange fnDeltasWrong)

/-- 'laws.FnSealed': WHATEVER THE INPUT: true; the input reads as it did. -/
def fnSealedSpec : ChangeSpec := { name := "fnSealed", fn := fun _ => fun
  | [d] => { results := [.lit (.bool true)], args := [d] }
  | _ => none }
def fnSealedRow : OpenClaim := { program := "ytalfmeedffbllaa", sum := "cb4aa7fb5f6bb2e344981f939b249a9fdc3eb5f7c3dc3f0a9eadc397271a0077", func := "loop.example/g03315/laws.FnSealed", spec := "fnSealed", apart := false }
def FnSealedSaid : Prop := fnSealedRow.holds Try.pinned (OpenSpec.ofChange fnSealedSpec)

/-- ITS FALSE NEIGHBOUR: 'it returns false'. Refute it at one input. -/
def fnSealedWrong : ChangeSpec := { name := "fnSealed", fn := fun _ => fun
  | [d] => { results := [.lit (.bool false)], args := [d] }
  | _ => none }
def FnSealedWrongFalsely : Prop := fnSealedRow.holds Try.pinned (OpenSpec.ofChange fnSealedWrong)

/-- 'laws.FnExactSplitFields': WHATEVER THE INPUT: true; the input reads as it did. -/
def fnExactSplitFieldsSpec : ChangeSpec := { name := "fnExactSplitFields", fn := fun _ => fun
  | [d] => { results := [.lit (.bool true)], args := [d] }
  | _ => none }
def fnExactSplitFieldsRow : OpenClaim := { program := "ytalfmeedffbllaa", sum := "cb4aa7fb5f6bb2e344981f939b249a9fdc3eb5f7c3dc3f0a9eadc397271a0077", func := "loop.example/g03315/laws.FnExactSplitFields", spec := "fnExactSplitFields", apart := false }
def FnExactSplitFieldsSaid : Prop := fnExactSplitFieldsRow.holds Try.pinned (OpenSpec.ofChange fnExactSplitFieldsSpec)

/-- ITS FALSE NEIGHBOUR: 'it returns false'. Refute it at one input. -/
def fnExactSplitFieldsWrong : ChangeSpec := { name := "fnExactSplitFields", fn := fun _ => fun
  | [d] => { results := [.lit (.bool false)], args := [d] }
  | _ => none }
def FnExactSplitFieldsWrongFalsely : Prop := fnExactSplitFieldsRow.holds Try.pinned (OpenSpec.ofChange fnExactSplitFieldsWrong)

/-- 'laws.FnExactPackZeros': WHATEVER THE INPUT: true; the input reads as it did. -/
def fnExactPackZerosSpec : ChangeSpec := { name := "fnExactPackZeros", fn := fun _ => fun
  | [d] => { results := [.lit (.bool true)], args := [d] }
  | _ => none }
def fnExactPackZerosRow : OpenClaim := { program := "ytalfmeedffbllaa", sum := "cb4aa7fb5f6bb2e344981f939b249a9fdc3eb5f7c3dc3f0a9eadc397271a0077", func := "loop.example/g03315/laws.FnExactPackZeros", spec := "fnExactPackZeros", inPlace := ["internal/abi.NoEscape"], apart := false }
def FnExactPackZerosSaid : Prop := fnExactPackZerosRow.holds Try.pinned (OpenSpec.ofChange fnExactPackZerosSpec)

/-- ITS FALSE NEIGHBOUR: 'it returns false'. Refute it at one input. -/
def fnExactPackZerosWrong : ChangeSpec := { name := "fnExactPackZeros", fn := fun _ => fun
  | [d] => { results := [.lit (.bool false)], args := [d] }
  | _ => none }
def FnExactPackZerosWrongFalsely : Prop := fnExactPackZerosRow.holds Try.pinned (OpenSpec.ofChange fnExactPackZerosWrong)

/-- 'laws.FnExactUnpackZeros': WHATEVER THE INPUT: true; the input reads as it did. -/
def fnExactUnpackZerosSpec : ChangeSpec := { name := "fnExactUnpackZeros", fn := fun _ => fun
  | [d] => { results := [.lit (.bool true)], args := [d] }
  | _ => none }
def fnExactUnpackZerosRow : OpenClaim := { program := "ytalfmeedffbllaa", sum := "cb4aa7fb5f6bb2e344981f939b249a9fdc3eb5f7c3dc3f0a9eadc397271a0077", func := "loop.example/g03315/laws.FnExactUnpackZeros", spec := "fnExactUnpackZeros", inPlace := ["internal/abi.NoEscape"], apart := false }
def FnExactUnpackZerosSaid : Prop := fnExactUnpackZerosRow.holds Try.pinned (OpenSpec.ofChange fnExactUnpackZerosSpec)

/-- ITS FALSE NEIGHBOUR: 'it returns false'. Refute it at one input. -/
def fnExactUnpackZerosWrong : ChangeSpec := { name := "fnExactUnpackZeros", fn := fun _ => fun
  | [d] => { results := [.lit (.bool false)], args := [d] }
  | _ => none }
def FnExactUnpackZerosWrongFalsely : Prop := fnExactUnpackZerosRow.holds Try.pinned (OpenSpec.ofChange fnExactUnpackZerosWrong)

/-- 'laws.FnExactDeltaText': WHATEVER THE INPUT: true; the input reads as it did. -/
def fnExactDeltaTextSpec : ChangeSpec := { name := "fnExactDeltaText", fn := fun _ => fun
  | [d1, d2] => { results := [.lit (.bool true)], args := [d1, d2] }
  | _ => none }
def fnExactDeltaTextRow : OpenClaim := { program := "ytalfmeedffbllaa", sum := "cb4aa7fb5f6bb2e344981f939b249a9fdc3eb5f7c3dc3f0a9eadc397271a0077", func := "loop.example/g03315/laws.FnExactDeltaText", spec := "fnExactDeltaText", inPlace := ["internal/abi.NoEscape"], apart := false }
def FnExactDeltaTextSaid : Prop := fnExactDeltaTextRow.holds Try.pinned (OpenSpec.ofChange fnExactDeltaTextSpec)

/-- ITS FALSE NEIGHBOUR: 'it returns false'. Refute it at one input. -/
def fnExactDeltaTextWrong : ChangeSpec := { name := "fnExactDeltaText", fn := fun _ => fun
  | [d1, d2] => { results := [.lit (.bool false)], args := [d1, d2] }
  | _ => none }
def FnExactDeltaTextWrongFalsely : Prop := fnExactDeltaTextRow.holds Try.pinned (OpenSpec.ofChange fnExactDeltaTextWrong)

/-- 'laws.FnExactApplyDelta': WHATEVER THE INPUT: true; the input reads as it did. -/
def fnExactApplyDeltaSpec : ChangeSpec := { name := "fnExactApplyDelta", fn := fun _ => fun
  | [d1, d2] => { results := [.lit (.bool true)], args := [d1, d2] }
  | _ => none }
def fnExactApplyDeltaRow : OpenClaim := { program := "ytalfmeedffbllaa", sum := "cb4aa7fb5f6bb2e344981f939b249a9fdc3eb5f7c3dc3f0a9eadc397271a0077", func := "loop.example/g03315/laws.FnExactApplyDelta", spec := "fnExactApplyDelta", inPlace := ["internal/abi.NoEscape"], apart := false }
def FnExactApplyDeltaSaid : Prop := fnExactApplyDeltaRow.holds Try.pinned (OpenSpec.ofChange fnExactApplyDeltaSpec)

/-- ITS FALSE NEIGHBOUR: 'it returns false'. Refute it at one input. -/
def fnExactApplyDeltaWrong : ChangeSpec := { name := "fnExactApplyDelta", fn := fun _ => fun
  | [d1, d2] => { results := [.lit (.bool false)], args := [d1, d2] }
  | _ => none }
def FnExactApplyDeltaWrongFalsely : Prop := fnExactApplyDeltaRow.holds Try.pinned (OpenSpec.ofChange fnExactApplyDeltaWrong)

/- THE SECOND FORM. 'bulk': how many values and letters a reading holds, each counted each time it is reached (what is shared counts as often as it is met; a slice's spare places count too). A statement '..UptoSaid' is the law's where the arguments, and the package variables that the reading takes, are together of bulk at most 1048576: NARROWER than '..Said'. Prove '..Said' where nothing that the law and all that it calls make is longer than what came in: it says more and counts as full. Else prove '..UptoSaid'. A law counts once. -/
mutual
def uptoBulk {H : Type} : DataW H → Nat
  | .lit (.string bytes) => bytes.length + 1
  | .lit _ => 1
  | .nil => 1
  | .ptr d => uptoBulk d + 1
  | .slice elems spare => uptoBulkAll elems + uptoBulkAll spare + 1
  | .agg parts => uptoBulkAll parts + 1
  | .iface _ d => uptoBulk d + 1
  | .map entries => uptoBulkEntries entries + 1
  | .held _ => 1
def uptoBulkAll {H : Type} : List (DataW H) → Nat
  | [] => 0
  | d :: r => uptoBulk d + uptoBulkAll r
def uptoBulkEntries {H : Type} : List (Lit × DataW H) → Nat
  | [] => 0
  | x :: r => uptoBulkEntry x + uptoBulkEntries r
def uptoBulkEntry {H : Type} : Lit × DataW H → Nat
  | (.string bytes, d) => bytes.length + uptoBulk d + 1
  | (_, d) => uptoBulk d + 1
 end
def uptoSmall : (H : Type) → List (DataW H) → Bool := fun _ ds => decide (uptoBulkAll ds ≤ 1048576)
def OpenSpec.upto (s : _root_.Go.ChangeSpec) : _root_.Go.OpenSpec := { _root_.Go.OpenSpec.ofChange s with cond := some uptoSmall }

/-- 'laws.FnDeltas', WHERE WHAT IT READS IS OF BULK AT MOST 1048576: true; the input reads as it did. -/
def fnDeltasUptoRow : OpenClaim := { program := "ytalfmeedffbllaa", sum := "cb4aa7fb5f6bb2e344981f939b249a9fdc3eb5f7c3dc3f0a9eadc397271a0077", func := "loop.example/g03315/laws.FnDeltas", spec := "fnDeltas", inPlace := ["internal/abi.NoEscape"], apart := false, narrowed := true }
def FnDeltasUptoSaid : Prop := fnDeltasUptoRow.holds Try.pinned (OpenSpec.upto fnDeltasSpec)

/-- 'laws.FnSealed', WHERE WHAT IT READS IS OF BULK AT MOST 1048576: true; the input reads as it did. -/
def fnSealedUptoRow : OpenClaim := { program := "ytalfmeedffbllaa", sum := "cb4aa7fb5f6bb2e344981f939b249a9fdc3eb5f7c3dc3f0a9eadc397271a0077", func := "loop.example/g03315/laws.FnSealed", spec := "fnSealed", apart := false, narrowed := true }
def FnSealedUptoSaid : Prop := fnSealedUptoRow.holds Try.pinned (OpenSpec.upto fnSealedSpec)

/-- 'laws.FnExactSplitFields', WHERE WHAT IT READS IS OF BULK AT MOST 1048576: true; the input reads as it did. -/
def fnExactSplitFieldsUptoRow : OpenClaim := { program := "ytalfmeedffbllaa", sum := "cb4aa7fb5f6bb2e344981f939b249a9fdc3eb5f7c3dc3f0a9eadc397271a0077", func := "loop.example/g03315/laws.FnExactSplitFields", spec := "fnExactSplitFields", apart := false, narrowed := true }
def FnExactSplitFieldsUptoSaid : Prop := fnExactSplitFieldsUptoRow.holds Try.pinned (OpenSpec.upto fnExactSplitFieldsSpec)

/-- 'laws.FnExactPackZeros', WHERE WHAT IT READS IS OF BULK AT MOST 1048576: true; the input reads as it did. -/
def fnExactPackZerosUptoRow : OpenClaim := { program := "ytalfmeedffbllaa", sum := "cb4aa7fb5f6bb2e344981f939b249a9fdc3eb5f7c3dc3f0a9eadc397271a0077", func := "loop.example/g03315/laws.FnExactPackZeros", spec := "fnExactPackZeros", inPlace := ["internal/abi.NoEscape"], apart := false, narrowed := true }
def FnExactPackZerosUptoSaid : Prop := fnExactPackZerosUptoRow.holds Try.pinned (OpenSpec.upto fnExactPackZerosSpec)

/-- 'laws.FnExactUnpackZeros', WHERE WHAT IT READS IS OF BULK AT MOST 1048576: true; the input reads as it did. -/
def fnExactUnpackZerosUptoRow : OpenClaim := { program := "ytalfmeedffbllaa", sum := "cb4aa7fb5f6bb2e344981f939b249a9fdc3eb5f7c3dc3f0a9eadc397271a0077", func := "loop.example/g03315/laws.FnExactUnpackZeros", spec := "fnExactUnpackZeros", inPlace := ["internal/abi.NoEscape"], apart := false, narrowed := true }
def FnExactUnpackZerosUptoSaid : Prop := fnExactUnpackZerosUptoRow.holds Try.pinned (OpenSpec.upto fnExactUnpackZerosSpec)

/-- 'laws.FnExactDeltaText', WHERE WHAT IT READS IS OF BULK AT MOST 1048576: true; the input reads as it did. -/
def fnExactDeltaTextUptoRow : OpenClaim := { program := "ytalfmeedffbllaa", sum := "cb4aa7fb5f6bb2e344981f939b249a9fdc3eb5f7c3dc3f0a9eadc397271a0077", func := "loop.example/g03315/laws.FnExactDeltaText", spec := "fnExactDeltaText", inPlace := ["internal/abi.NoEscape"], apart := false, narrowed := true }
def FnExactDeltaTextUptoSaid : Prop := fnExactDeltaTextUptoRow.holds Try.pinned (OpenSpec.upto fnExactDeltaTextSpec)

/-- 'laws.FnExactApplyDelta', WHERE WHAT IT READS IS OF BULK AT MOST 1048576: true; the input reads as it did. -/
def fnExactApplyDeltaUptoRow : OpenClaim := { program := "ytalfmeedffbllaa", sum := "cb4aa7fb5f6bb2e344981f939b249a9fdc3eb5f7c3dc3f0a9eadc397271a0077", func := "loop.example/g03315/laws.FnExactApplyDelta", spec := "fnExactApplyDelta", inPlace := ["internal/abi.NoEscape"], apart := false, narrowed := true }
def FnExactApplyDeltaUptoSaid : Prop := fnExactApplyDeltaUptoRow.holds Try.pinned (OpenSpec.upto fnExactApplyDeltaSpec)

end Rows
end Go.Proofs.Ytalfmeedffbllaa
