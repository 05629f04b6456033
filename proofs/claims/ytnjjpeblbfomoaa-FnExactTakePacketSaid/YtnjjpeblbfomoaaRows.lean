/-
  No cell of these rows narrows 'for every input' (looked for: loops, veiled, ifaces, maps, wideKeys, modest, calm, conditions, laid).
  DERIVED. THE GIVEN ROWS OF THIS SEAT. 6 by the template 'for every input the law returns true; each argument reads behind the call as it read before'; 0 by the template 'total and deterministic' (their statements: YtnjjpeblbfomoaaTotals.lean).
  GIVEN WITH THE SEED: the statements are not yours to turn. If you find one false, say at which input.
  Laid BY PROGRAM, IN A SANDBOX (cutbox-rows.mjs): the forced cells as the released guide's own fill.sh prints them over the translation 10c97c72ba9ddbbb… (all of the seat's roots in one cut). By AI agents, Wed Nov 11 2026. No macro, syntax, notation, axiom, sorry.
-/
import Derived.Test.YtnjjpeblbfomoaaChecked
import GoSem.Claim
import GoSem.ClaimJoined
import GoSem.ClaimMapViews
import Derived.JoinedTies
import Derived.KernelRfl
namespace Go.Proofs.Ytnjjpeblbfomoaa
/- THE CELL 'sum', in the pinned program and in every row, IS THE sha256 OF THE DUMP (.gsa) THAT YtnjjpeblbfomoaaProg.lean LOADS. Nothing in Lean hashes anything: it is a label: what it is worth is what the hold of that sum in a sandbox is worth. -/
noncomputable def Try.pinned : Pinned := { name := "ytnjjpeblbfomoaa", sum := "10c97c72ba9ddbbb34bcaf69a17ee0049643b1702380a9b8916279e0346ca083", checked := Try.checked }
namespace Rows
def none {H : Type} : Left H := { results := [], args := [] }

/-- 'laws.FnExactAddInputs': WHATEVER THE INPUT: true; the input reads as it did. -/
def fnExactAddInputsSpec : ChangeSpec := { name := "fnExactAddInputs", fn := fun _ => fun
  | [d1, d2, d3] => { results := [.lit (.bool true)], args := [d1, d2, d3] }
  | _ => none }
def fnExactAddInputsRow : OpenClaim := { program := "ytnjjpeblbfomoaa", sum := "10c97c72ba9ddbbb34bcaf69a17ee0049643b1702380a9b8916279e0346ca083", func := "loop.example/g03315/laws.FnExactAddInputs", spec := "fnExactAddInputs", apart := false }
def FnExactAddInputsSaid : Prop := fnExactAddInputsRow.holds Try.pinned (OpenSpec.ofChange fnExactAddInputsSpec)

/-- ITS FALSE NEIGHBOUR: 'it returns false'. Refute it at one input. -/
def fnExactAddInputsWrong : ChangeSpec := { name := "fnExactAddInputs", fn := fun _ => fun
  | [d1, d2, d3] => { results := [.lit (.bool false)], args := [d1, d2, d3] }
  | _ => none }
def FnExactAddInputsWrongFalsely : Prop := fnExactAddInputsRow.holds Try.pinned (OpenSpec.ofChange fnExactAddInputsWrong)

/-- 'laws.FnExactMakePacket': WHATEVER THE INPUT: true; the input reads as it did. -/
def fnExactMakePacketSpec : ChangeSpec := { name := "fnExactMakePacket", fn := fun _ => fun
  | [d1, d2, d3] => { results := [.lit (.bool true)], args := [d1, d2, d3] }
  | _ => none }
def fnExactMakePacketRow : OpenClaim := { program := "ytnjjpeblbfomoaa", sum := "10c97c72ba9ddbbb34bcaf69a17ee0049643b1702380a9b8916279e0346ca083", func := "loop.example/g03315/laws.FnExactMakePacket", spec := "fnExactMakePacket", apart := false }
def FnExactMakePacketSaid : Prop := fnExactMakePacketRow.holds Try.pinned (OpenSpec.ofChange fnExactMakePacketSpec)

/-- ITS FALSE NEIGHBOUR: 'it returns false'. Refute it at one input. -/
def fnExactMakePacketWrong : ChangeSpec := { name := "fnExactMakePacket", fn := fun _ => fun
  | [d1, d2, d3] => { results := [.lit (.bool false)], args := [d1, d2, d3] }
  | _ => none }
def FnExactMakePacketWrongFalsely : Prop := fnExactMakePacketRow.holds Try.pinned (OpenSpec.ofChange fnExactMakePacketWrong)

/-- 'laws.FnExactTakePacket': WHATEVER THE INPUT: true; the input reads as it did. -/
def fnExactTakePacketSpec : ChangeSpec := { name := "fnExactTakePacket", fn := fun _ => fun
  | [d1, d2] => { results := [.lit (.bool true)], args := [d1, d2] }
  | _ => none }
def fnExactTakePacketRow : OpenClaim := { program := "ytnjjpeblbfomoaa", sum := "10c97c72ba9ddbbb34bcaf69a17ee0049643b1702380a9b8916279e0346ca083", func := "loop.example/g03315/laws.FnExactTakePacket", spec := "fnExactTakePacket", apart := false }
def FnExactTakePacketSaid : Prop := fnExactTakePacketRow.holds Try.pinned (OpenSpec.ofChange fnExactTakePacketSpec)

/-- ITS FALSE NEIGHBOUR: 'it returns false'. Refute it at one input. -/
def fnExactTakePacketWrong : ChangeSpec := { name := "fnExactTakePacket", fn := fun _ => fun
  | [d1, d2] => { results := [.lit (.bool false)], args := [d1, d2] }
  | _ => none }
def FnExactTakePacketWrongFalsely : Prop := fnExactTakePacketRow.holds Try.pinned (OpenSpec.ofChange fnExactTakePacketWrong)

/-- 'laws.FnTrackBytes': WHATEVER THE INPUT: true; the input reads as it did. -/
def fnTrackBytesSpec : ChangeSpec := { name := "fnTrackBytes", fn := fun _ => fun
  | [d] => { results := [.lit (.bool true)], args := [d] }
  | _ => none }
def fnTrackBytesRow : OpenClaim := { program := "ytnjjpeblbfomoaa", sum := "10c97c72ba9ddbbb34bcaf69a17ee0049643b1702380a9b8916279e0346ca083", func := "loop.example/g03315/laws.FnTrackBytes", spec := "fnTrackBytes", inPlace := ["internal/abi.NoEscape"], apart := false }
def FnTrackBytesSaid : Prop := fnTrackBytesRow.holds Try.pinned (OpenSpec.ofChange fnTrackBytesSpec)

/-- ITS FALSE NEIGHBOUR: 'it returns false'. Refute it at one input. -/
def fnTrackBytesWrong : ChangeSpec := { name := "fnTrackBytes", fn := fun _ => fun
  | [d] => { results := [.lit (.bool false)], args := [d] }
  | _ => none }
def FnTrackBytesWrongFalsely : Prop := fnTrackBytesRow.holds Try.pinned (OpenSpec.ofChange fnTrackBytesWrong)

/-- 'laws.FnExactSameWorld': WHATEVER THE INPUT: true; the input reads as it did. -/
def fnExactSameWorldSpec : ChangeSpec := { name := "fnExactSameWorld", fn := fun _ => fun
  | [d1, d2] => { results := [.lit (.bool true)], args := [d1, d2] }
  | _ => none }
def fnExactSameWorldRow : OpenClaim := { program := "ytnjjpeblbfomoaa", sum := "10c97c72ba9ddbbb34bcaf69a17ee0049643b1702380a9b8916279e0346ca083", func := "loop.example/g03315/laws.FnExactSameWorld", spec := "fnExactSameWorld", apart := false }
def FnExactSameWorldSaid : Prop := fnExactSameWorldRow.holds Try.pinned (OpenSpec.ofChange fnExactSameWorldSpec)

/-- ITS FALSE NEIGHBOUR: 'it returns false'. Refute it at one input. -/
def fnExactSameWorldWrong : ChangeSpec := { name := "fnExactSameWorld", fn := fun _ => fun
  | [d1, d2] => { results := [.lit (.bool false)], args := [d1, d2] }
  | _ => none }
def FnExactSameWorldWrongFalsely : Prop := fnExactSameWorldRow.holds Try.pinned (OpenSpec.ofChange fnExactSameWorldWrong)

/-- 'laws.FnExactFaultOk': WHATEVER THE INPUT: true; the input reads as it did. -/
def fnExactFaultOkSpec : ChangeSpec := { name := "fnExactFaultOk", fn := fun _ => fun
  | [d1, d2] => { results := [.lit (.bool true)], args := [d1, d2] }
  | _ => none }
def fnExactFaultOkRow : OpenClaim := { program := "ytnjjpeblbfomoaa", sum := "10c97c72ba9ddbbb34bcaf69a17ee0049643b1702380a9b8916279e0346ca083", func := "loop.example/g03315/laws.FnExactFaultOk", spec := "fnExactFaultOk", apart := false }
def FnExactFaultOkSaid : Prop := fnExactFaultOkRow.holds Try.pinned (OpenSpec.ofChange fnExactFaultOkSpec)

/-- ITS FALSE NEIGHBOUR: 'it returns false'. Refute it at one input. -/
def fnExactFaultOkWrong : ChangeSpec := { name := "fnExactFaultOk", fn := fun _ => fun
  | [d1, d2] => { results := [.lit (.bool false)], args := [d1, d2] }
  | _ => none }
def FnExactFaultOkWrongFalsely : Prop := fnExactFaultOkRow.holds Try.pinned (OpenSpec.ofChange fnExactFaultOkWrong)

/- THE SECOND FORM. 'bulk': how many values and letters a reading holds, each counted each time it is reached (what is shared counts as often as it is met; a slice's spare places count too). A statement '..UptoSaid' is the law's where the arguments, and the package variables that the reading takes, are together of bulk at most 1048576: NARROWER than '..Said'. Prove '..Said' where nothing that the law and all that it calls make is longer than what came in: it says more and counts as full. Else prove '..UptoSaid'. A law counts once. -/
mutual
def uptoBulk {H : Type} : DataW H → Nat
  | .lit (.string bytes) => bytes.length + 1
  | .lit _ => 1
  | .nil => 1
  | .ptr d => uptoBulk d + 1
  | .slice elems spare => uptoBulkAll elems + uptoBulkAll spare + 1
  | .agg parts => uptoBulkAll parts + 1
  | .iface _ d => uptoBulk d + 1
  | .map entries => uptoBulkEntries entries + 1
  | .held _ => 1
def uptoBulkAll {H : Type} : List (DataW H) → Nat
  | [] => 0
  | d :: r => uptoBulk d + uptoBulkAll r
def uptoBulkEntries {H : Type} : List (Lit × DataW H) → Nat
  | [] => 0
  | x :: r => uptoBulkEntry x + uptoBulkEntries r
def uptoBulkEntry {H : Type} : Lit × DataW H → Nat
  | (.string bytes, d) => bytes.length + uptoBulk d + 1
  | (_, d) => uptoBulk d + 1
 end
def uptoSmall : (H : Type) → List (DataW H) → Bool := fun _ ds => decide (uptoBulkAll ds ≤ 1048576)
def OpenSpec.upto (s : _root_.Go.ChangeSpec) : _root_.Go.OpenSpec := { _root_.Go.OpenSpec.ofChange s with cond := some uptoSmall }

/-- 'laws.FnExactAddInputs', WHERE WHAT IT READS IS OF BULK AT MOST 1048576: true; the input reads as it did. -/
def fnExactAddInputsUptoRow : OpenClaim := { program := "ytnjjpeblbfomoaa", sum := "10c97c72ba9ddbbb34bcaf69a17ee0049643b1702380a9b8916279e0346ca083", func := "loop.example/g03315/laws.FnExactAddInputs", spec := "fnExactAddInputs", apart := false, narrowed := true }
def FnExactAddInputsUptoSaid : Prop := fnExactAddInputsUptoRow.holds Try.pinned (OpenSpec.upto fnExactAddInputsSpec)

/-- 'laws.FnExactMakePacket', WHERE WHAT IT READS IS OF BULK AT MOST 1048576: true; the input reads as it did. -/
def fnExactMakePacketUptoRow : OpenClaim := { program := "ytnjjpeblbfomoaa", sum := "10c97c72ba9ddbbb34bcaf69a17ee0049643b1702380a9b8916279e0346ca083", func := "loop.example/g03315/laws.FnExactMakePacket", spec := "fnExactMakePacket", apart := false, narrowed := true }
def FnExactMakePacketUptoSaid : Prop := fnExactMakePacketUptoRow.holds Try.pinned (OpenSpec.upto fnExactMakePacketSpec)

/-- 'laws.FnExactTakePacket', WHERE WHAT IT READS IS OF BULK AT MOST 1048576: true; the input reads as it did. -/
def fnExactTakePacketUptoRow : OpenClaim := { program := "ytnjjpeblbfomoaa", sum := "10c97c72ba9ddbbb34bcaf69a17ee0049643b1702380a9b8916279e0346ca083", func := "loop.example/g03315/laws.FnExactTakePacket", spec := "fnExactTakePacket", apart := false, narrowed := true }
def FnExactTakePacketUptoSaid : Prop := fnExactTakePacketUptoRow.holds Try.pinned (OpenSpec.upto fnExactTakePacketSpec)

/-- 'laws.FnTrackBytes', WHERE WHAT IT READS IS OF BULK AT MOST 1048576: true; the input reads as it did. -/
def fnTrackBytesUptoRow : OpenClaim := { program := "ytnjjpeblbfomoaa", sum := "10c97c72ba9ddbbb34bcaf69a17ee0049643b1702380a9b8916279e0346ca083", func := "loop.example/g03315/laws.FnTrackBytes", spec := "fnTrackBytes", inPlace := ["internal/abi.NoEscape"], apart := false, narrowed := true }
def FnTrackBytesUptoSaid : Prop := fnTrackBytesUptoRow.holds Try.pinned (OpenSpec.upto fnTrackBytesSpec)

/-- 'laws.FnExactSameWorld', WHERE WHAT IT READS IS OF BULK AT MOST 1048576: true; the input reads as it did. -/
def fnExactSameWorldUptoRow : OpenClaim := { program := "ytnjjpeblbfomoaa", sum := "10c97c72ba9ddbbb34bcaf69a17ee0049643b1702380a9b8916279e0346ca083", func := "loop.example/g03315/laws.FnExactSameWorld", spec := "fnExactSameWorld", apart := false, narrowed := true }
def FnExactSameWorldUptoSaid : Prop := fnExactSameWorldUptoRow.holds Try.pinned (OpenSpec.upto fnExactSameWorldSpec)

/-- 'laws.FnExactFaultOk', WHERE WHAT IT READS IS OF BULK AT MOST 1048576: true; the input reads as it did. -/
def fnExactFaultOkUptoRow : OpenClaim := { program := "ytnjjpeblbfomoaa", sum := "10c97c72ba9ddbbb34bcaf69a17ee0049643b1702380a9b8916279e0346ca083", func := "loop.example/g03315/laws.FnExactFaultOk", spec := "fnExactFaultOk", apart := false, narrowed := true }
def FnExactFaultOkUptoSaid : Prop := fnExactFaultOkUptoRow.holds Try.pinned (OpenSpec.upto fnExactFaultOkSpec)

end Rows
end Go.Proofs.Ytnjjpeblbfomoaa
