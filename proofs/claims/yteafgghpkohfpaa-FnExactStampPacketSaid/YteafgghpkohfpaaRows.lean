/-
  No cell of these rows narrows 'for every input' (looked for: loops, veiled, ifaces, maps, wideKeys, modest, calm, conditions, laid).
  DERIVED. THE GIVEN ROWS OF THIS SEAT. 12 by the template 'for every input the law returns true; each argument reads behind the call as it read before'; 0 by the template 'total and deterministic' (their statements: YteafgghpkohfpaaTotals.lean).
  GIVEN WITH THE SEED: the statements are not yours to turn. If you find one false, say at which input.
  Laid BY PROGRAM, IN A SANDBOX (cutbox-rows.mjs): the forced cells as the released guide's own fill.sh prints them over the translation 757c76291d0b2fd6… (all of the seat's roots in one cut). By AI agents, Wed Nov 11 2026. No macro, syntax, notation, axiom, sorry.
-/
import Derived.Test.YteafgghpkohfpaaChecked
import GoSem.Claim
import GoSem.ClaimJoined
import GoSem.ClaimMapViews
import Derived.JoinedTies
import Derived.KernelRfl
namespace Go.Proofs.Yteafgghpkohfpaa
/- THE CELL 'sum', in the pinned program and in every row, IS THE sha256 OF THE DUMP (.gsa) THAT YteafgghpkohfpaaProg.lean LOADS. Nothing in Lean hashes anything: it is a label: what it is worth is what the hold of that sum in a sandbox is worth. -/
noncomputable def Try.pinned : Pinned := { name := "yteafgghpkohfpaa", sum := "757c76291d0b2fd64d81430c8c7811cd4801341cad251a5ec2a21255b4030820", checked := Try.checked }
namespace Rows
def none {H : Type} : Left H := { results := [], args := [] }

/-- 'laws.FnExactChance': WHATEVER THE INPUT: true; the input reads as it did. -/
def fnExactChanceSpec : ChangeSpec := { name := "fnExactChance", fn := fun _ => fun
  | [d1, d2] => { results := [.lit (.bool true)], args := [d1, d2] }
  | _ => none }
def fnExactChanceRow : OpenClaim := { program := "yteafgghpkohfpaa", sum := "757c76291d0b2fd64d81430c8c7811cd4801341cad251a5ec2a21255b4030820", func := "loop.example/g03315/laws.FnExactChance", spec := "fnExactChance", apart := false }
def FnExactChanceSaid : Prop := fnExactChanceRow.holds Try.pinned (OpenSpec.ofChange fnExactChanceSpec)

/-- ITS FALSE NEIGHBOUR: 'it returns false'. Refute it at one input. -/
def fnExactChanceWrong : ChangeSpec := { name := "fnExactChance", fn := fun _ => fun
  | [d1, d2] => { results := [.lit (.bool false)], args := [d1, d2] }
  | _ => none }
def FnExactChanceWrongFalsely : Prop := fnExactChanceRow.holds Try.pinned (OpenSpec.ofChange fnExactChanceWrong)

/-- 'laws.FnExactSpoilByte': WHATEVER THE INPUT: true; the input reads as it did. -/
def fnExactSpoilByteSpec : ChangeSpec := { name := "fnExactSpoilByte", fn := fun _ => fun
  | [d1, d2] => { results := [.lit (.bool true)], args := [d1, d2] }
  | _ => none }
def fnExactSpoilByteRow : OpenClaim := { program := "yteafgghpkohfpaa", sum := "757c76291d0b2fd64d81430c8c7811cd4801341cad251a5ec2a21255b4030820", func := "loop.example/g03315/laws.FnExactSpoilByte", spec := "fnExactSpoilByte", apart := false }
def FnExactSpoilByteSaid : Prop := fnExactSpoilByteRow.holds Try.pinned (OpenSpec.ofChange fnExactSpoilByteSpec)

/-- ITS FALSE NEIGHBOUR: 'it returns false'. Refute it at one input. -/
def fnExactSpoilByteWrong : ChangeSpec := { name := "fnExactSpoilByte", fn := fun _ => fun
  | [d1, d2] => { results := [.lit (.bool false)], args := [d1, d2] }
  | _ => none }
def FnExactSpoilByteWrongFalsely : Prop := fnExactSpoilByteRow.holds Try.pinned (OpenSpec.ofChange fnExactSpoilByteWrong)

/-- 'laws.FnExactPaceOk': WHATEVER THE INPUT: true; the input reads as it did. -/
def fnExactPaceOkSpec : ChangeSpec := { name := "fnExactPaceOk", fn := fun _ => fun
  | [d] => { results := [.lit (.bool true)], args := [d] }
  | _ => none }
def fnExactPaceOkRow : OpenClaim := { program := "yteafgghpkohfpaa", sum := "757c76291d0b2fd64d81430c8c7811cd4801341cad251a5ec2a21255b4030820", func := "loop.example/g03315/laws.FnExactPaceOk", spec := "fnExactPaceOk", apart := false }
def FnExactPaceOkSaid : Prop := fnExactPaceOkRow.holds Try.pinned (OpenSpec.ofChange fnExactPaceOkSpec)

/-- ITS FALSE NEIGHBOUR: 'it returns false'. Refute it at one input. -/
def fnExactPaceOkWrong : ChangeSpec := { name := "fnExactPaceOk", fn := fun _ => fun
  | [d] => { results := [.lit (.bool false)], args := [d] }
  | _ => none }
def FnExactPaceOkWrongFalsely : Prop := fnExactPaceOkRow.holds Try.pinned (OpenSpec.ofChange fnExactPaceOkWrong)

/-- 'laws.FnExactGuessTick': WHATEVER THE INPUT: true; the input reads as it did. -/
def fnExactGuessTickSpec : ChangeSpec := { name := "fnExactGuessTick", fn := fun _ => fun
  | [d1, d2] => { results := [.lit (.bool true)], args := [d1, d2] }
  | _ => none }
def fnExactGuessTickRow : OpenClaim := { program := "yteafgghpkohfpaa", sum := "757c76291d0b2fd64d81430c8c7811cd4801341cad251a5ec2a21255b4030820", func := "loop.example/g03315/laws.FnExactGuessTick", spec := "fnExactGuessTick", apart := false }
def FnExactGuessTickSaid : Prop := fnExactGuessTickRow.holds Try.pinned (OpenSpec.ofChange fnExactGuessTickSpec)

/-- ITS FALSE NEIGHBOUR: 'it returns false'. Refute it at one input. -/
def fnExactGuessTickWrong : ChangeSpec := { name := "fnExactGuessTick", fn := fun _ => fun
  | [d1, d2] => { results := [.lit (.bool false)], args := [d1, d2] }
  | _ => none }
def FnExactGuessTickWrongFalsely : Prop := fnExactGuessTickRow.holds Try.pinned (OpenSpec.ofChange fnExactGuessTickWrong)

/-- 'laws.FnExactAdvantageOf': WHATEVER THE INPUT: true; the input reads as it did. -/
def fnExactAdvantageOfSpec : ChangeSpec := { name := "fnExactAdvantageOf", fn := fun _ => fun
  | [d1, d2, d3] => { results := [.lit (.bool true)], args := [d1, d2, d3] }
  | _ => none }
def fnExactAdvantageOfRow : OpenClaim := { program := "yteafgghpkohfpaa", sum := "757c76291d0b2fd64d81430c8c7811cd4801341cad251a5ec2a21255b4030820", func := "loop.example/g03315/laws.FnExactAdvantageOf", spec := "fnExactAdvantageOf", apart := false }
def FnExactAdvantageOfSaid : Prop := fnExactAdvantageOfRow.holds Try.pinned (OpenSpec.ofChange fnExactAdvantageOfSpec)

/-- ITS FALSE NEIGHBOUR: 'it returns false'. Refute it at one input. -/
def fnExactAdvantageOfWrong : ChangeSpec := { name := "fnExactAdvantageOf", fn := fun _ => fun
  | [d1, d2, d3] => { results := [.lit (.bool false)], args := [d1, d2, d3] }
  | _ => none }
def FnExactAdvantageOfWrongFalsely : Prop := fnExactAdvantageOfRow.holds Try.pinned (OpenSpec.ofChange fnExactAdvantageOfWrong)

/-- 'laws.FnExactHearPacket': WHATEVER THE INPUT: true; the input reads as it did. -/
def fnExactHearPacketSpec : ChangeSpec := { name := "fnExactHearPacket", fn := fun _ => fun
  | [d1, d2, d3] => { results := [.lit (.bool true)], args := [d1, d2, d3] }
  | _ => none }
def fnExactHearPacketRow : OpenClaim := { program := "yteafgghpkohfpaa", sum := "757c76291d0b2fd64d81430c8c7811cd4801341cad251a5ec2a21255b4030820", func := "loop.example/g03315/laws.FnExactHearPacket", spec := "fnExactHearPacket", apart := false }
def FnExactHearPacketSaid : Prop := fnExactHearPacketRow.holds Try.pinned (OpenSpec.ofChange fnExactHearPacketSpec)

/-- ITS FALSE NEIGHBOUR: 'it returns false'. Refute it at one input. -/
def fnExactHearPacketWrong : ChangeSpec := { name := "fnExactHearPacket", fn := fun _ => fun
  | [d1, d2, d3] => { results := [.lit (.bool false)], args := [d1, d2, d3] }
  | _ => none }
def FnExactHearPacketWrongFalsely : Prop := fnExactHearPacketRow.holds Try.pinned (OpenSpec.ofChange fnExactHearPacketWrong)

/-- 'laws.FnExactNewWire': WHATEVER THE INPUT: true; the input reads as it did. -/
def fnExactNewWireSpec : ChangeSpec := { name := "fnExactNewWire", fn := fun _ => fun
  | [d1, d2, d3, d4, d5, d6] => { results := [.lit (.bool true)], args := [d1, d2, d3, d4, d5, d6] }
  | _ => none }
def fnExactNewWireRow : OpenClaim := { program := "yteafgghpkohfpaa", sum := "757c76291d0b2fd64d81430c8c7811cd4801341cad251a5ec2a21255b4030820", func := "loop.example/g03315/laws.FnExactNewWire", spec := "fnExactNewWire", apart := false }
def FnExactNewWireSaid : Prop := fnExactNewWireRow.holds Try.pinned (OpenSpec.ofChange fnExactNewWireSpec)

/-- ITS FALSE NEIGHBOUR: 'it returns false'. Refute it at one input. -/
def fnExactNewWireWrong : ChangeSpec := { name := "fnExactNewWire", fn := fun _ => fun
  | [d1, d2, d3, d4, d5, d6] => { results := [.lit (.bool false)], args := [d1, d2, d3, d4, d5, d6] }
  | _ => none }
def FnExactNewWireWrongFalsely : Prop := fnExactNewWireRow.holds Try.pinned (OpenSpec.ofChange fnExactNewWireWrong)

/-- 'laws.FnExactWireOk': WHATEVER THE INPUT: true; the input reads as it did. -/
def fnExactWireOkSpec : ChangeSpec := { name := "fnExactWireOk", fn := fun _ => fun
  | [d] => { results := [.lit (.bool true)], args := [d] }
  | _ => none }
def fnExactWireOkRow : OpenClaim := { program := "yteafgghpkohfpaa", sum := "757c76291d0b2fd64d81430c8c7811cd4801341cad251a5ec2a21255b4030820", func := "loop.example/g03315/laws.FnExactWireOk", spec := "fnExactWireOk", apart := false }
def FnExactWireOkSaid : Prop := fnExactWireOkRow.holds Try.pinned (OpenSpec.ofChange fnExactWireOkSpec)

/-- ITS FALSE NEIGHBOUR: 'it returns false'. Refute it at one input. -/
def fnExactWireOkWrong : ChangeSpec := { name := "fnExactWireOk", fn := fun _ => fun
  | [d] => { results := [.lit (.bool false)], args := [d] }
  | _ => none }
def FnExactWireOkWrongFalsely : Prop := fnExactWireOkRow.holds Try.pinned (OpenSpec.ofChange fnExactWireOkWrong)

/-- 'laws.FnExactTickWire': WHATEVER THE INPUT: true; the input reads as it did. -/
def fnExactTickWireSpec : ChangeSpec := { name := "fnExactTickWire", fn := fun _ => fun
  | [d] => { results := [.lit (.bool true)], args := [d] }
  | _ => none }
def fnExactTickWireRow : OpenClaim := { program := "yteafgghpkohfpaa", sum := "757c76291d0b2fd64d81430c8c7811cd4801341cad251a5ec2a21255b4030820", func := "loop.example/g03315/laws.FnExactTickWire", spec := "fnExactTickWire", apart := false }
def FnExactTickWireSaid : Prop := fnExactTickWireRow.holds Try.pinned (OpenSpec.ofChange fnExactTickWireSpec)

/-- ITS FALSE NEIGHBOUR: 'it returns false'. Refute it at one input. -/
def fnExactTickWireWrong : ChangeSpec := { name := "fnExactTickWire", fn := fun _ => fun
  | [d] => { results := [.lit (.bool false)], args := [d] }
  | _ => none }
def FnExactTickWireWrongFalsely : Prop := fnExactTickWireRow.holds Try.pinned (OpenSpec.ofChange fnExactTickWireWrong)

/-- 'laws.FnExactWireQuiet': WHATEVER THE INPUT: true; the input reads as it did. -/
def fnExactWireQuietSpec : ChangeSpec := { name := "fnExactWireQuiet", fn := fun _ => fun
  | [d] => { results := [.lit (.bool true)], args := [d] }
  | _ => none }
def fnExactWireQuietRow : OpenClaim := { program := "yteafgghpkohfpaa", sum := "757c76291d0b2fd64d81430c8c7811cd4801341cad251a5ec2a21255b4030820", func := "loop.example/g03315/laws.FnExactWireQuiet", spec := "fnExactWireQuiet", apart := false }
def FnExactWireQuietSaid : Prop := fnExactWireQuietRow.holds Try.pinned (OpenSpec.ofChange fnExactWireQuietSpec)

/-- ITS FALSE NEIGHBOUR: 'it returns false'. Refute it at one input. -/
def fnExactWireQuietWrong : ChangeSpec := { name := "fnExactWireQuiet", fn := fun _ => fun
  | [d] => { results := [.lit (.bool false)], args := [d] }
  | _ => none }
def FnExactWireQuietWrongFalsely : Prop := fnExactWireQuietRow.holds Try.pinned (OpenSpec.ofChange fnExactWireQuietWrong)

/-- 'laws.FnExactShouldWait': WHATEVER THE INPUT: true; the input reads as it did. -/
def fnExactShouldWaitSpec : ChangeSpec := { name := "fnExactShouldWait", fn := fun _ => fun
  | [d1, d2, d3] => { results := [.lit (.bool true)], args := [d1, d2, d3] }
  | _ => none }
def fnExactShouldWaitRow : OpenClaim := { program := "yteafgghpkohfpaa", sum := "757c76291d0b2fd64d81430c8c7811cd4801341cad251a5ec2a21255b4030820", func := "loop.example/g03315/laws.FnExactShouldWait", spec := "fnExactShouldWait", apart := false }
def FnExactShouldWaitSaid : Prop := fnExactShouldWaitRow.holds Try.pinned (OpenSpec.ofChange fnExactShouldWaitSpec)

/-- ITS FALSE NEIGHBOUR: 'it returns false'. Refute it at one input. -/
def fnExactShouldWaitWrong : ChangeSpec := { name := "fnExactShouldWait", fn := fun _ => fun
  | [d1, d2, d3] => { results := [.lit (.bool false)], args := [d1, d2, d3] }
  | _ => none }
def FnExactShouldWaitWrongFalsely : Prop := fnExactShouldWaitRow.holds Try.pinned (OpenSpec.ofChange fnExactShouldWaitWrong)

/-- 'laws.FnExactStampPacket': WHATEVER THE INPUT: true; the input reads as it did. -/
def fnExactStampPacketSpec : ChangeSpec := { name := "fnExactStampPacket", fn := fun _ => fun
  | [d1, d2, d3] => { results := [.lit (.bool true)], args := [d1, d2, d3] }
  | _ => none }
def fnExactStampPacketRow : OpenClaim := { program := "yteafgghpkohfpaa", sum := "757c76291d0b2fd64d81430c8c7811cd4801341cad251a5ec2a21255b4030820", func := "loop.example/g03315/laws.FnExactStampPacket", spec := "fnExactStampPacket", apart := false }
def FnExactStampPacketSaid : Prop := fnExactStampPacketRow.holds Try.pinned (OpenSpec.ofChange fnExactStampPacketSpec)

/-- ITS FALSE NEIGHBOUR: 'it returns false'. Refute it at one input. -/
def fnExactStampPacketWrong : ChangeSpec := { name := "fnExactStampPacket", fn := fun _ => fun
  | [d1, d2, d3] => { results := [.lit (.bool false)], args := [d1, d2, d3] }
  | _ => none }
def FnExactStampPacketWrongFalsely : Prop := fnExactStampPacketRow.holds Try.pinned (OpenSpec.ofChange fnExactStampPacketWrong)

/- THE SECOND FORM. 'bulk': how many values and letters a reading holds, each counted each time it is reached (what is shared counts as often as it is met; a slice's spare places count too). A statement '..UptoSaid' is the law's where the arguments, and the package variables that the reading takes, are together of bulk at most 1048576: NARROWER than '..Said'. Prove '..Said' where nothing that the law and all that it calls make is longer than what came in: it says more and counts as full. Else prove '..UptoSaid'. A law counts once. -/
mutual
def uptoBulk {H : Type} : DataW H → Nat
  | .lit (.string bytes) => bytes.length + 1
  | .lit _ => 1
  | .nil => 1
  | .ptr d => uptoBulk d + 1
  | .slice elems spare => uptoBulkAll elems + uptoBulkAll spare + 1
  | .agg parts => uptoBulkAll parts + 1
  | .iface _ d => uptoBulk d + 1
  | .map entries => uptoBulkEntries entries + 1
  | .held _ => 1
def uptoBulkAll {H : Type} : List (DataW H) → Nat
  | [] => 0
  | d :: r => uptoBulk d + uptoBulkAll r
def uptoBulkEntries {H : Type} : List (Lit × DataW H) → Nat
  | [] => 0
  | x :: r => uptoBulkEntry x + uptoBulkEntries r
def uptoBulkEntry {H : Type} : Lit × DataW H → Nat
  | (.string bytes, d) => bytes.length + uptoBulk d + 1
  | (_, d) => uptoBulk d + 1
 end
def uptoSmall : (H : Type) → List (DataW H) → Bool := fun _ ds => decide (uptoBulkAll ds ≤ 1048576)
def OpenSpec.upto (s : _root_.Go.ChangeSpec) : _root_.Go.OpenSpec := { _root_.Go.OpenSpec.ofChange s with cond := some uptoSmall }

/-- 'laws.FnExactChance', WHERE WHAT IT READS IS OF BULK AT MOST 1048576: true; the input reads as it did. -/
def fnExactChanceUptoRow : OpenClaim := { program := "yteafgghpkohfpaa", sum := "757c76291d0b2fd64d81430c8c7811cd4801341cad251a5ec2a21255b4030820", func := "loop.example/g03315/laws.FnExactChance", spec := "fnExactChance", apart := false, narrowed := true }
def FnExactChanceUptoSaid : Prop := fnExactChanceUptoRow.holds Try.pinned (OpenSpec.upto fnExactChanceSpec)

/-- 'laws.FnExactSpoilByte', WHERE WHAT IT READS IS OF BULK AT MOST 1048576: true; the input reads as it did. -/
def fnExactSpoilByteUptoRow : OpenClaim := { program := "yteafgghpkohfpaa", sum := "757c76291d0b2fd64d81430c8c7811cd4801341cad251a5ec2a21255b4030820", func := "loop.example/g03315/laws.FnExactSpoilByte", spec := "fnExactSpoilByte", apart := false, narrowed := true }
def FnExactSpoilByteUptoSaid : Prop := fnExactSpoilByteUptoRow.holds Try.pinned (OpenSpec.upto fnExactSpoilByteSpec)

/-- 'laws.FnExactPaceOk', WHERE WHAT IT READS IS OF BULK AT MOST 1048576: true; the input reads as it did. -/
def fnExactPaceOkUptoRow : OpenClaim := { program := "yteafgghpkohfpaa", sum := "757c76291d0b2fd64d81430c8c7811cd4801341cad251a5ec2a21255b4030820", func := "loop.example/g03315/laws.FnExactPaceOk", spec := "fnExactPaceOk", apart := false, narrowed := true }
def FnExactPaceOkUptoSaid : Prop := fnExactPaceOkUptoRow.holds Try.pinned (OpenSpec.upto fnExactPaceOkSpec)

/-- 'laws.FnExactGuessTick', WHERE WHAT IT READS IS OF BULK AT MOST 1048576: true; the input reads as it did. -/
def fnExactGuessTickUptoRow : OpenClaim := { program := "yteafgghpkohfpaa", sum := "757c76291d0b2fd64d81430c8c7811cd4801341cad251a5ec2a21255b4030820", func := "loop.example/g03315/laws.FnExactGuessTick", spec := "fnExactGuessTick", apart := false, narrowed := true }
def FnExactGuessTickUptoSaid : Prop := fnExactGuessTickUptoRow.holds Try.pinned (OpenSpec.upto fnExactGuessTickSpec)

/-- 'laws.FnExactAdvantageOf', WHERE WHAT IT READS IS OF BULK AT MOST 1048576: true; the input reads as it did. -/
def fnExactAdvantageOfUptoRow : OpenClaim := { program := "yteafgghpkohfpaa", sum := "757c76291d0b2fd64d81430c8c7811cd4801341cad251a5ec2a21255b4030820", func := "loop.example/g03315/laws.FnExactAdvantageOf", spec := "fnExactAdvantageOf", apart := false, narrowed := true }
def FnExactAdvantageOfUptoSaid : Prop := fnExactAdvantageOfUptoRow.holds Try.pinned (OpenSpec.upto fnExactAdvantageOfSpec)

/-- 'laws.FnExactHearPacket', WHERE WHAT IT READS IS OF BULK AT MOST 1048576: true; the input reads as it did. -/
def fnExactHearPacketUptoRow : OpenClaim := { program := "yteafgghpkohfpaa", sum := "757c76291d0b2fd64d81430c8c7811cd4801341cad251a5ec2a21255b4030820", func := "loop.example/g03315/laws.FnExactHearPacket", spec := "fnExactHearPacket", apart := false, narrowed := true }
def FnExactHearPacketUptoSaid : Prop := fnExactHearPacketUptoRow.holds Try.pinned (OpenSpec.upto fnExactHearPacketSpec)

/-- 'laws.FnExactNewWire', WHERE WHAT IT READS IS OF BULK AT MOST 1048576: true; the input reads as it did. -/
def fnExactNewWireUptoRow : OpenClaim := { program := "yteafgghpkohfpaa", sum := "757c76291d0b2fd64d81430c8c7811cd4801341cad251a5ec2a21255b4030820", func := "loop.example/g03315/laws.FnExactNewWire", spec := "fnExactNewWire", apart := false, narrowed := true }
def FnExactNewWireUptoSaid : Prop := fnExactNewWireUptoRow.holds Try.pinned (OpenSpec.upto fnExactNewWireSpec)

/-- 'laws.FnExactWireOk', WHERE WHAT IT READS IS OF BULK AT MOST 1048576: true; the input reads as it did. -/
def fnExactWireOkUptoRow : OpenClaim := { program := "yteafgghpkohfpaa", sum := "757c76291d0b2fd64d81430c8c7811cd4801341cad251a5ec2a21255b4030820", func := "loop.example/g03315/laws.FnExactWireOk", spec := "fnExactWireOk", apart := false, narrowed := true }
def FnExactWireOkUptoSaid : Prop := fnExactWireOkUptoRow.holds Try.pinned (OpenSpec.upto fnExactWireOkSpec)

/-- 'laws.FnExactTickWire', WHERE WHAT IT READS IS OF BULK AT MOST 1048576: true; the input reads as it did. -/
def fnExactTickWireUptoRow : OpenClaim := { program := "yteafgghpkohfpaa", sum := "757c76291d0b2fd64d81430c8c7811cd4801341cad251a5ec2a21255b4030820", func := "loop.example/g03315/laws.FnExactTickWire", spec := "fnExactTickWire", apart := false, narrowed := true }
def FnExactTickWireUptoSaid : Prop := fnExactTickWireUptoRow.holds Try.pinned (OpenSpec.upto fnExactTickWireSpec)

/-- 'laws.FnExactWireQuiet', WHERE WHAT IT READS IS OF BULK AT MOST 1048576: true; the input reads as it did. -/
def fnExactWireQuietUptoRow : OpenClaim := { program := "yteafgghpkohfpaa", sum := "757c76291d0b2fd64d81430c8c7811cd4801341cad251a5ec2a21255b4030820", func := "loop.example/g03315/laws.FnExactWireQuiet", spec := "fnExactWireQuiet", apart := false, narrowed := true }
def FnExactWireQuietUptoSaid : Prop := fnExactWireQuietUptoRow.holds Try.pinned (OpenSpec.upto fnExactWireQuietSpec)

/-- 'laws.FnExactShouldWait', WHERE WHAT IT READS IS OF BULK AT MOST 1048576: true; the input reads as it did. -/
def fnExactShouldWaitUptoRow : OpenClaim := { program := "yteafgghpkohfpaa", sum := "757c76291d0b2fd64d81430c8c7811cd4801341cad251a5ec2a21255b4030820", func := "loop.example/g03315/laws.FnExactShouldWait", spec := "fnExactShouldWait", apart := false, narrowed := true }
def FnExactShouldWaitUptoSaid : Prop := fnExactShouldWaitUptoRow.holds Try.pinned (OpenSpec.upto fnExactShouldWaitSpec)

/-- 'laws.FnExactStampPacket', WHERE WHAT IT READS IS OF BULK AT MOST 1048576: true; the input reads as it did. -/
def fnExactStampPacketUptoRow : OpenClaim := { program := "yteafgghpkohfpaa", sum := "757c76291d0b2fd64d81430c8c7811cd4801341cad251a5ec2a21255b4030820", func := "loop.example/g03315/laws.FnExactStampPacket", spec := "fnExactStampPacket", apart := false, narrowed := true }
def FnExactStampPacketUptoSaid : Prop := fnExactStampPacketUptoRow.holds Try.pinned (OpenSpec.upto fnExactStampPacketSpec)

end Rows
end Go.Proofs.Yteafgghpkohfpaa
