/-
  NARROWER THAN 'FOR EVERY INPUT', by the rows' own cells (each row's printed sentence says how): FnWorldWhole: laid · FnExactFaultyStep: laid · FnExactNewPeer: laid · FnExactPressInput: laid · FnExactAdvance: laid · FnExactTell: laid · FnExactReplayed: laid · FnExactCleanUpTo: laid.
  DERIVED. THE GIVEN ROWS OF THIS SEAT. 8 by the template 'for every input the law returns true; each argument reads behind the call as it read before'; 0 by the template 'total and deterministic' (their statements: YtnlonkkbjkfkmaaGreatDoorTotals.lean).
  GIVEN WITH THE SEED: the statements are not yours to turn. If you find one false, say at which input.
  Laid BY PROGRAM, IN A SANDBOX (cutbox-rows.mjs): the forced cells as the released guide's own fill.sh prints them over the translation cc3bbd959f488121… (all of the seat's roots in one cut). By AI agents, Wed Nov 11 2026. No macro, syntax, notation, axiom, sorry.
-/
import Derived.Test.YtnlonkkbjkfkmaaGreatDoorChecked
import GoSem.PinnedTables
import GoSem.Claim
import GoSem.ClaimJoined
import GoSem.ClaimMapViews
import Derived.JoinedTies
import Derived.KernelRfl
namespace Go.Proofs.YtnlonkkbjkfkmaaGreatDoor
/- THE CELL 'sum', in the pinned program and in every row, IS THE sha256 OF THE DUMP (.gsa) THAT YtnlonkkbjkfkmaaGreatDoorProg.lean LOADS. Nothing in Lean hashes anything: it is a label: what it is worth is what the hold of that sum in a sandbox is worth. -/
noncomputable def Tryz.pinned : Pinned := { name := "ytnlonkkbjkfkmaagreatdoor", sum := "cc3bbd959f488121c0649072382c9653d44aa40a988566f971796f5222316da4", checked := Tryz.checked }
namespace Rows
def none {H : Type} : Left H := { results := [], args := [] }

/- WHAT THE LISTED PACKAGE-LEVEL VARIABLES READ AS WHEN THE CALL BEGINS. Each datum BY PROGRAM (the guide's laid-datum.mjs) off the statement by which the dump's own 'gosem.cut.vars' lays the variable. In a bare row this is a premise. The card (YtnlonkkbjkfkmaaGreatDoorCards.lean) ties it to the program's text. -/
def laid_unicode_utf8_acceptRanges {H : Type} : DataW H := .agg [.agg [.lit (.int .u8 128), .lit (.int .u8 191)], .agg [.lit (.int .u8 160), .lit (.int .u8 191)], .agg [.lit (.int .u8 128), .lit (.int .u8 159)], .agg [.lit (.int .u8 144), .lit (.int .u8 191)], .agg [.lit (.int .u8 128), .lit (.int .u8 143)], .agg [.lit (.int .u8 0), .lit (.int .u8 0)], .agg [.lit (.int .u8 0), .lit (.int .u8 0)], .agg [.lit (.int .u8 0), .lit (.int .u8 0)], .agg [.lit (.int .u8 0), .lit (.int .u8 0)], .agg [.lit (.int .u8 0), .lit (.int .u8 0)], .agg [.lit (.int .u8 0), .lit (.int .u8 0)], .agg [.lit (.int .u8 0), .lit (.int .u8 0)], .agg [.lit (.int .u8 0), .lit (.int .u8 0)], .agg [.lit (.int .u8 0), .lit (.int .u8 0)], .agg [.lit (.int .u8 0), .lit (.int .u8 0)], .agg [.lit (.int .u8 0), .lit (.int .u8 0)]]
/-- One of Go's own tables, pinned by name: the form's constant. -/
def laid_unicode_utf8_first : DataW Unit := Go.Pinned.utf8First

/-- 'laws.FnWorldWhole': WHATEVER THE INPUT: true; the input reads as it did. -/
def fnWorldWholeSpec : ChangeSpec := { name := "fnWorldWhole", fn := fun _ => fun
  | [d] => { results := [.lit (.bool true)], args := [d] }
  | _ => none }
def fnWorldWholeRow : OpenClaim := { program := "ytnlonkkbjkfkmaagreatdoor", sum := "cc3bbd959f488121c0649072382c9653d44aa40a988566f971796f5222316da4", func := "loop.example/g03315/laws.FnWorldWhole", spec := "fnWorldWhole", inPlace := ["internal/bytealg.IndexByteString", "internal/bytealg.IndexString", "internal/abi.NoEscape"], unfollowed := true, recurses := true, named := ["unicode/utf8.first", "unicode/utf8.acceptRanges", "internal/bytealg.MaxLen"], apart := false, laid := [("unicode/utf8.acceptRanges", laid_unicode_utf8_acceptRanges), ("unicode/utf8.first", laid_unicode_utf8_first)] }
def FnWorldWholeSaid : Prop := fnWorldWholeRow.holds Tryz.pinned (OpenSpec.ofChange fnWorldWholeSpec)

/-- ITS FALSE NEIGHBOUR: 'it returns false'. Refute it at one input. -/
def fnWorldWholeWrong : ChangeSpec := { name := "fnWorldWhole", fn := fun _ => fun
  | [d] => { results := [.lit (.bool false)], args := [d] }
  | _ => none }
def FnWorldWholeWrongFalsely : Prop := fnWorldWholeRow.holds Tryz.pinned (OpenSpec.ofChange fnWorldWholeWrong)

/-- 'laws.FnExactFaultyStep': WHATEVER THE INPUT: true; the input reads as it did. -/
def fnExactFaultyStepSpec : ChangeSpec := { name := "fnExactFaultyStep", fn := fun _ => fun
  | [d1, d2, d3] => { results := [.lit (.bool true)], args := [d1, d2, d3] }
  | _ => none }
def fnExactFaultyStepRow : OpenClaim := { program := "ytnlonkkbjkfkmaagreatdoor", sum := "cc3bbd959f488121c0649072382c9653d44aa40a988566f971796f5222316da4", func := "loop.example/g03315/laws.FnExactFaultyStep", spec := "fnExactFaultyStep", inPlace := ["internal/bytealg.IndexByteString", "internal/bytealg.IndexString"], unfollowed := true, recurses := true, named := ["unicode/utf8.first", "unicode/utf8.acceptRanges", "internal/bytealg.MaxLen"], apart := false, laid := [("unicode/utf8.acceptRanges", laid_unicode_utf8_acceptRanges), ("unicode/utf8.first", laid_unicode_utf8_first)] }
def FnExactFaultyStepSaid : Prop := fnExactFaultyStepRow.holds Tryz.pinned (OpenSpec.ofChange fnExactFaultyStepSpec)

/-- ITS FALSE NEIGHBOUR: 'it returns false'. Refute it at one input. -/
def fnExactFaultyStepWrong : ChangeSpec := { name := "fnExactFaultyStep", fn := fun _ => fun
  | [d1, d2, d3] => { results := [.lit (.bool false)], args := [d1, d2, d3] }
  | _ => none }
def FnExactFaultyStepWrongFalsely : Prop := fnExactFaultyStepRow.holds Tryz.pinned (OpenSpec.ofChange fnExactFaultyStepWrong)

/-- 'laws.FnExactNewPeer': WHATEVER THE INPUT: true; the input reads as it did. -/
def fnExactNewPeerSpec : ChangeSpec := { name := "fnExactNewPeer", fn := fun _ => fun
  | [d1, d2, d3, d4, d5, d6, d7] => { results := [.lit (.bool true)], args := [d1, d2, d3, d4, d5, d6, d7] }
  | _ => none }
def fnExactNewPeerRow : OpenClaim := { program := "ytnlonkkbjkfkmaagreatdoor", sum := "cc3bbd959f488121c0649072382c9653d44aa40a988566f971796f5222316da4", func := "loop.example/g03315/laws.FnExactNewPeer", spec := "fnExactNewPeer", inPlace := ["internal/bytealg.IndexByteString", "internal/bytealg.IndexString", "internal/abi.NoEscape"], unfollowed := true, recurses := true, named := ["unicode/utf8.first", "unicode/utf8.acceptRanges", "internal/bytealg.MaxLen"], apart := false, laid := [("unicode/utf8.acceptRanges", laid_unicode_utf8_acceptRanges), ("unicode/utf8.first", laid_unicode_utf8_first)] }
def FnExactNewPeerSaid : Prop := fnExactNewPeerRow.holds Tryz.pinned (OpenSpec.ofChange fnExactNewPeerSpec)

/-- ITS FALSE NEIGHBOUR: 'it returns false'. Refute it at one input. -/
def fnExactNewPeerWrong : ChangeSpec := { name := "fnExactNewPeer", fn := fun _ => fun
  | [d1, d2, d3, d4, d5, d6, d7] => { results := [.lit (.bool false)], args := [d1, d2, d3, d4, d5, d6, d7] }
  | _ => none }
def FnExactNewPeerWrongFalsely : Prop := fnExactNewPeerRow.holds Tryz.pinned (OpenSpec.ofChange fnExactNewPeerWrong)

/-- 'laws.FnExactPressInput': WHATEVER THE INPUT: true; the input reads as it did. -/
def fnExactPressInputSpec : ChangeSpec := { name := "fnExactPressInput", fn := fun _ => fun
  | [d1, d2] => { results := [.lit (.bool true)], args := [d1, d2] }
  | _ => none }
def fnExactPressInputRow : OpenClaim := { program := "ytnlonkkbjkfkmaagreatdoor", sum := "cc3bbd959f488121c0649072382c9653d44aa40a988566f971796f5222316da4", func := "loop.example/g03315/laws.FnExactPressInput", spec := "fnExactPressInput", inPlace := ["internal/bytealg.IndexByteString", "internal/bytealg.IndexString"], unfollowed := true, recurses := true, named := ["unicode/utf8.first", "unicode/utf8.acceptRanges", "internal/bytealg.MaxLen"], apart := false, laid := [("unicode/utf8.acceptRanges", laid_unicode_utf8_acceptRanges), ("unicode/utf8.first", laid_unicode_utf8_first)] }
def FnExactPressInputSaid : Prop := fnExactPressInputRow.holds Tryz.pinned (OpenSpec.ofChange fnExactPressInputSpec)

/-- ITS FALSE NEIGHBOUR: 'it returns false'. Refute it at one input. -/
def fnExactPressInputWrong : ChangeSpec := { name := "fnExactPressInput", fn := fun _ => fun
  | [d1, d2] => { results := [.lit (.bool false)], args := [d1, d2] }
  | _ => none }
def FnExactPressInputWrongFalsely : Prop := fnExactPressInputRow.holds Tryz.pinned (OpenSpec.ofChange fnExactPressInputWrong)

/-- 'laws.FnExactAdvance': WHATEVER THE INPUT: true; the input reads as it did. -/
def fnExactAdvanceSpec : ChangeSpec := { name := "fnExactAdvance", fn := fun _ => fun
  | [d] => { results := [.lit (.bool true)], args := [d] }
  | _ => none }
def fnExactAdvanceRow : OpenClaim := { program := "ytnlonkkbjkfkmaagreatdoor", sum := "cc3bbd959f488121c0649072382c9653d44aa40a988566f971796f5222316da4", func := "loop.example/g03315/laws.FnExactAdvance", spec := "fnExactAdvance", inPlace := ["internal/bytealg.IndexByteString", "internal/bytealg.IndexString", "internal/abi.NoEscape"], unfollowed := true, recurses := true, named := ["unicode/utf8.first", "unicode/utf8.acceptRanges", "internal/bytealg.MaxLen"], apart := false, laid := [("unicode/utf8.acceptRanges", laid_unicode_utf8_acceptRanges), ("unicode/utf8.first", laid_unicode_utf8_first)] }
def FnExactAdvanceSaid : Prop := fnExactAdvanceRow.holds Tryz.pinned (OpenSpec.ofChange fnExactAdvanceSpec)

/-- ITS FALSE NEIGHBOUR: 'it returns false'. Refute it at one input. -/
def fnExactAdvanceWrong : ChangeSpec := { name := "fnExactAdvance", fn := fun _ => fun
  | [d] => { results := [.lit (.bool false)], args := [d] }
  | _ => none }
def FnExactAdvanceWrongFalsely : Prop := fnExactAdvanceRow.holds Tryz.pinned (OpenSpec.ofChange fnExactAdvanceWrong)

/-- 'laws.FnExactTell': WHATEVER THE INPUT: true; the input reads as it did. -/
def fnExactTellSpec : ChangeSpec := { name := "fnExactTell", fn := fun _ => fun
  | [d1, d2] => { results := [.lit (.bool true)], args := [d1, d2] }
  | _ => none }
def fnExactTellRow : OpenClaim := { program := "ytnlonkkbjkfkmaagreatdoor", sum := "cc3bbd959f488121c0649072382c9653d44aa40a988566f971796f5222316da4", func := "loop.example/g03315/laws.FnExactTell", spec := "fnExactTell", inPlace := ["internal/bytealg.IndexByteString", "internal/bytealg.IndexString", "internal/abi.NoEscape"], unfollowed := true, recurses := true, named := ["unicode/utf8.first", "unicode/utf8.acceptRanges", "internal/bytealg.MaxLen"], apart := false, laid := [("unicode/utf8.acceptRanges", laid_unicode_utf8_acceptRanges), ("unicode/utf8.first", laid_unicode_utf8_first)] }
def FnExactTellSaid : Prop := fnExactTellRow.holds Tryz.pinned (OpenSpec.ofChange fnExactTellSpec)

/-- ITS FALSE NEIGHBOUR: 'it returns false'. Refute it at one input. -/
def fnExactTellWrong : ChangeSpec := { name := "fnExactTell", fn := fun _ => fun
  | [d1, d2] => { results := [.lit (.bool false)], args := [d1, d2] }
  | _ => none }
def FnExactTellWrongFalsely : Prop := fnExactTellRow.holds Tryz.pinned (OpenSpec.ofChange fnExactTellWrong)

/-- 'laws.FnExactReplayed': WHATEVER THE INPUT: true; the input reads as it did. -/
def fnExactReplayedSpec : ChangeSpec := { name := "fnExactReplayed", fn := fun _ => fun
  | [d1, d2] => { results := [.lit (.bool true)], args := [d1, d2] }
  | _ => none }
def fnExactReplayedRow : OpenClaim := { program := "ytnlonkkbjkfkmaagreatdoor", sum := "cc3bbd959f488121c0649072382c9653d44aa40a988566f971796f5222316da4", func := "loop.example/g03315/laws.FnExactReplayed", spec := "fnExactReplayed", inPlace := ["internal/bytealg.IndexByteString", "internal/bytealg.IndexString"], unfollowed := true, recurses := true, named := ["unicode/utf8.first", "unicode/utf8.acceptRanges", "internal/bytealg.MaxLen"], apart := false, laid := [("unicode/utf8.acceptRanges", laid_unicode_utf8_acceptRanges), ("unicode/utf8.first", laid_unicode_utf8_first)] }
def FnExactReplayedSaid : Prop := fnExactReplayedRow.holds Tryz.pinned (OpenSpec.ofChange fnExactReplayedSpec)

/-- ITS FALSE NEIGHBOUR: 'it returns false'. Refute it at one input. -/
def fnExactReplayedWrong : ChangeSpec := { name := "fnExactReplayed", fn := fun _ => fun
  | [d1, d2] => { results := [.lit (.bool false)], args := [d1, d2] }
  | _ => none }
def FnExactReplayedWrongFalsely : Prop := fnExactReplayedRow.holds Tryz.pinned (OpenSpec.ofChange fnExactReplayedWrong)

/-- 'laws.FnExactCleanUpTo': WHATEVER THE INPUT: true; the input reads as it did. -/
def fnExactCleanUpToSpec : ChangeSpec := { name := "fnExactCleanUpTo", fn := fun _ => fun
  | [d1, d2] => { results := [.lit (.bool true)], args := [d1, d2] }
  | _ => none }
def fnExactCleanUpToRow : OpenClaim := { program := "ytnlonkkbjkfkmaagreatdoor", sum := "cc3bbd959f488121c0649072382c9653d44aa40a988566f971796f5222316da4", func := "loop.example/g03315/laws.FnExactCleanUpTo", spec := "fnExactCleanUpTo", inPlace := ["internal/bytealg.IndexByteString", "internal/bytealg.IndexString"], unfollowed := true, recurses := true, named := ["unicode/utf8.first", "unicode/utf8.acceptRanges", "internal/bytealg.MaxLen"], apart := false, laid := [("unicode/utf8.acceptRanges", laid_unicode_utf8_acceptRanges), ("unicode/utf8.first", laid_unicode_utf8_first)] }
def FnExactCleanUpToSaid : Prop := fnExactCleanUpToRow.holds Tryz.pinned (OpenSpec.ofChange fnExactCleanUpToSpec)

/-- ITS FALSE NEIGHBOUR: 'it returns false'. Refute it at one input. -/
def fnExactCleanUpToWrong : ChangeSpec := { name := "fnExactCleanUpTo", fn := fun _ => fun
  | [d1, d2] => { results := [.lit (.bool false)], args := [d1, d2] }
  | _ => none }
def FnExactCleanUpToWrongFalsely : Prop := fnExactCleanUpToRow.holds Tryz.pinned (OpenSpec.ofChange fnExactCleanUpToWrong)

/- THE SECOND FORM. 'bulk': how many values and letters a reading holds, each counted each time it is reached (what is shared counts as often as it is met; a slice's spare places count too). A statement '..UptoSaid' is the law's where the arguments, and the package variables that the reading takes, are together of bulk at most 1048576: NARROWER than '..Said'. Prove '..Said' where nothing that the law and all that it calls make is longer than what came in: it says more and counts as full. Else prove '..UptoSaid'. A law counts once. -/
mutual
def uptoBulk {H : Type} : DataW H → Nat
  | .lit (.string bytes) => bytes.length + 1
  | .lit _ => 1
  | .nil => 1
  | .ptr d => uptoBulk d + 1
  | .slice elems spare => uptoBulkAll elems + uptoBulkAll spare + 1
  | .agg parts => uptoBulkAll parts + 1
  | .iface _ d => uptoBulk d + 1
  | .map entries => uptoBulkEntries entries + 1
  | .held _ => 1
def uptoBulkAll {H : Type} : List (DataW H) → Nat
  | [] => 0
  | d :: r => uptoBulk d + uptoBulkAll r
def uptoBulkEntries {H : Type} : List (Lit × DataW H) → Nat
  | [] => 0
  | x :: r => uptoBulkEntry x + uptoBulkEntries r
def uptoBulkEntry {H : Type} : Lit × DataW H → Nat
  | (.string bytes, d) => bytes.length + uptoBulk d + 1
  | (_, d) => uptoBulk d + 1
 end
def uptoSmall : (H : Type) → List (DataW H) → Bool := fun _ ds => decide (uptoBulkAll ds ≤ 1048576)
def OpenSpec.upto (s : _root_.Go.ChangeSpec) : _root_.Go.OpenSpec := { _root_.Go.OpenSpec.ofChange s with cond := some uptoSmall }

/-- 'laws.FnWorldWhole', WHERE WHAT IT READS IS OF BULK AT MOST 1048576: true; the input reads as it did. -/
def fnWorldWholeUptoRow : OpenClaim := { program := "ytnlonkkbjkfkmaagreatdoor", sum := "cc3bbd959f488121c0649072382c9653d44aa40a988566f971796f5222316da4", func := "loop.example/g03315/laws.FnWorldWhole", spec := "fnWorldWhole", inPlace := ["internal/bytealg.IndexByteString", "internal/bytealg.IndexString", "internal/abi.NoEscape"], unfollowed := true, recurses := true, named := ["unicode/utf8.first", "unicode/utf8.acceptRanges", "internal/bytealg.MaxLen"], apart := false, laid := [("unicode/utf8.acceptRanges", laid_unicode_utf8_acceptRanges), ("unicode/utf8.first", laid_unicode_utf8_first)], narrowed := true }
def FnWorldWholeUptoSaid : Prop := fnWorldWholeUptoRow.holds Tryz.pinned (OpenSpec.upto fnWorldWholeSpec)

/-- 'laws.FnExactFaultyStep', WHERE WHAT IT READS IS OF BULK AT MOST 1048576: true; the input reads as it did. -/
def fnExactFaultyStepUptoRow : OpenClaim := { program := "ytnlonkkbjkfkmaagreatdoor", sum := "cc3bbd959f488121c0649072382c9653d44aa40a988566f971796f5222316da4", func := "loop.example/g03315/laws.FnExactFaultyStep", spec := "fnExactFaultyStep", inPlace := ["internal/bytealg.IndexByteString", "internal/bytealg.IndexString"], unfollowed := true, recurses := true, named := ["unicode/utf8.first", "unicode/utf8.acceptRanges", "internal/bytealg.MaxLen"], apart := false, laid := [("unicode/utf8.acceptRanges", laid_unicode_utf8_acceptRanges), ("unicode/utf8.first", laid_unicode_utf8_first)], narrowed := true }
def FnExactFaultyStepUptoSaid : Prop := fnExactFaultyStepUptoRow.holds Tryz.pinned (OpenSpec.upto fnExactFaultyStepSpec)

/-- 'laws.FnExactNewPeer', WHERE WHAT IT READS IS OF BULK AT MOST 1048576: true; the input reads as it did. -/
def fnExactNewPeerUptoRow : OpenClaim := { program := "ytnlonkkbjkfkmaagreatdoor", sum := "cc3bbd959f488121c0649072382c9653d44aa40a988566f971796f5222316da4", func := "loop.example/g03315/laws.FnExactNewPeer", spec := "fnExactNewPeer", inPlace := ["internal/bytealg.IndexByteString", "internal/bytealg.IndexString", "internal/abi.NoEscape"], unfollowed := true, recurses := true, named := ["unicode/utf8.first", "unicode/utf8.acceptRanges", "internal/bytealg.MaxLen"], apart := false, laid := [("unicode/utf8.acceptRanges", laid_unicode_utf8_acceptRanges), ("unicode/utf8.first", laid_unicode_utf8_first)], narrowed := true }
def FnExactNewPeerUptoSaid : Prop := fnExactNewPeerUptoRow.holds Tryz.pinned (OpenSpec.upto fnExactNewPeerSpec)

/-- 'laws.FnExactPressInput', WHERE WHAT IT READS IS OF BULK AT MOST 1048576: true; the input reads as it did. -/
def fnExactPressInputUptoRow : OpenClaim := { program := "ytnlonkkbjkfkmaagreatdoor", sum := "cc3bbd959f488121c0649072382c9653d44aa40a988566f971796f5222316da4", func := "loop.example/g03315/laws.FnExactPressInput", spec := "fnExactPressInput", inPlace := ["internal/bytealg.IndexByteString", "internal/bytealg.IndexString"], unfollowed := true, recurses := true, named := ["unicode/utf8.first", "unicode/utf8.acceptRanges", "internal/bytealg.MaxLen"], apart := false, laid := [("unicode/utf8.acceptRanges", laid_unicode_utf8_acceptRanges), ("unicode/utf8.first", laid_unicode_utf8_first)], narrowed := true }
def FnExactPressInputUptoSaid : Prop := fnExactPressInputUptoRow.holds Tryz.pinned (OpenSpec.upto fnExactPressInputSpec)

/-- 'laws.FnExactAdvance', WHERE WHAT IT READS IS OF BULK AT MOST 1048576: true; the input reads as it did. -/
def fnExactAdvanceUptoRow : OpenClaim := { program := "ytnlonkkbjkfkmaagreatdoor", sum := "cc3bbd959f488121c0649072382c9653d44aa40a988566f971796f5222316da4", func := "loop.example/g03315/laws.FnExactAdvance", spec := "fnExactAdvance", inPlace := ["internal/bytealg.IndexByteString", "internal/bytealg.IndexString", "internal/abi.NoEscape"], unfollowed := true, recurses := true, named := ["unicode/utf8.first", "unicode/utf8.acceptRanges", "internal/bytealg.MaxLen"], apart := false, laid := [("unicode/utf8.acceptRanges", laid_unicode_utf8_acceptRanges), ("unicode/utf8.first", laid_unicode_utf8_first)], narrowed := true }
def FnExactAdvanceUptoSaid : Prop := fnExactAdvanceUptoRow.holds Tryz.pinned (OpenSpec.upto fnExactAdvanceSpec)

/-- 'laws.FnExactTell', WHERE WHAT IT READS IS OF BULK AT MOST 1048576: true; the input reads as it did. -/
def fnExactTellUptoRow : OpenClaim := { program := "ytnlonkkbjkfkmaagreatdoor", sum := "cc3bbd959f488121c0649072382c9653d44aa40a988566f971796f5222316da4", func := "loop.example/g03315/laws.FnExactTell", spec := "fnExactTell", inPlace := ["internal/bytealg.IndexByteString", "internal/bytealg.IndexString", "internal/abi.NoEscape"], unfollowed := true, recurses := true, named := ["unicode/utf8.first", "unicode/utf8.acceptRanges", "internal/bytealg.MaxLen"], apart := false, laid := [("unicode/utf8.acceptRanges", laid_unicode_utf8_acceptRanges), ("unicode/utf8.first", laid_unicode_utf8_first)], narrowed := true }
def FnExactTellUptoSaid : Prop := fnExactTellUptoRow.holds Tryz.pinned (OpenSpec.upto fnExactTellSpec)

/-- 'laws.FnExactReplayed', WHERE WHAT IT READS IS OF BULK AT MOST 1048576: true; the input reads as it did. -/
def fnExactReplayedUptoRow : OpenClaim := { program := "ytnlonkkbjkfkmaagreatdoor", sum := "cc3bbd959f488121c0649072382c9653d44aa40a988566f971796f5222316da4", func := "loop.example/g03315/laws.FnExactReplayed", spec := "fnExactReplayed", inPlace := ["internal/bytealg.IndexByteString", "internal/bytealg.IndexString"], unfollowed := true, recurses := true, named := ["unicode/utf8.first", "unicode/utf8.acceptRanges", "internal/bytealg.MaxLen"], apart := false, laid := [("unicode/utf8.acceptRanges", laid_unicode_utf8_acceptRanges), ("unicode/utf8.first", laid_unicode_utf8_first)], narrowed := true }
def FnExactReplayedUptoSaid : Prop := fnExactReplayedUptoRow.holds Tryz.pinned (OpenSpec.upto fnExactReplayedSpec)

/-- 'laws.FnExactCleanUpTo', WHERE WHAT IT READS IS OF BULK AT MOST 1048576: true; the input reads as it did. -/
def fnExactCleanUpToUptoRow : OpenClaim := { program := "ytnlonkkbjkfkmaagreatdoor", sum := "cc3bbd959f488121c0649072382c9653d44aa40a988566f971796f5222316da4", func := "loop.example/g03315/laws.FnExactCleanUpTo", spec := "fnExactCleanUpTo", inPlace := ["internal/bytealg.IndexByteString", "internal/bytealg.IndexString"], unfollowed := true, recurses := true, named := ["unicode/utf8.first", "unicode/utf8.acceptRanges", "internal/bytealg.MaxLen"], apart := false, laid := [("unicode/utf8.acceptRanges", laid_unicode_utf8_acceptRanges), ("unicode/utf8.first", laid_unicode_utf8_first)], narrowed := true }
def FnExactCleanUpToUptoSaid : Prop := fnExactCleanUpToUptoRow.holds Tryz.pinned (OpenSpec.upto fnExactCleanUpToSpec)

end Rows
end Go.Proofs.YtnlonkkbjkfkmaaGreatDoor
