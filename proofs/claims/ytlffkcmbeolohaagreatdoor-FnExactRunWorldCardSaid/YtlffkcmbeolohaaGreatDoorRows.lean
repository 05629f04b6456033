/-
  NARROWER THAN 'FOR EVERY INPUT', by the rows' own cells (each row's printed sentence says how): FnExactStepWorld: laid · FnExactRunWorld: laid · FnExactFaultyStep: laid · FnExactPlayReplay: laid · FnExactFeedRows: laid.
  DERIVED. THE GIVEN ROWS OF THIS SEAT. 5 by the template 'for every input the law returns true; each argument reads behind the call as it read before'; 0 by the template 'total and deterministic' (their statements: YtlffkcmbeolohaaGreatDoorTotals.lean).
  GIVEN WITH THE SEED: the statements are not yours to turn. If you find one false, say at which input.
  Laid BY PROGRAM, IN A SANDBOX (cutbox-rows.mjs): the forced cells as the released guide's own fill.sh prints them over the translation 7c011a2295e1735f… (all of the seat's roots in one cut). By AI agents, Wed Nov 11 2026. No macro, syntax, notation, axiom, sorry.
-/
import Derived.Test.YtlffkcmbeolohaaGreatDoorChecked
import GoSem.PinnedTables
import GoSem.Claim
import GoSem.ClaimJoined
import GoSem.ClaimMapViews
import Derived.JoinedTies
import Derived.KernelRfl
namespace Go.Proofs.YtlffkcmbeolohaaGreatDoor
/- THE CELL 'sum', in the pinned program and in every row, IS THE sha256 OF THE DUMP (.gsa) THAT YtlffkcmbeolohaaGreatDoorProg.lean LOADS. Nothing in Lean hashes anything: it is a label: what it is worth is what the hold of that sum in a sandbox is worth. -/
noncomputable def Tryz.pinned : Pinned := { name := "ytlffkcmbeolohaagreatdoor", sum := "7c011a2295e1735f0ad38e0c06a8853d9ec316a063214a2fbaaf8dce8b5ffa9d", checked := Tryz.checked }
namespace Rows
def none {H : Type} : Left H := { results := [], args := [] }

/- WHAT THE LISTED PACKAGE-LEVEL VARIABLES READ AS WHEN THE CALL BEGINS. Each datum BY PROGRAM (the guide's laid-datum.mjs) off the statement by which the dump's own 'gosem.cut.vars' lays the variable. In a bare row this is a premise. The card (YtlffkcmbeolohaaGreatDoorCards.lean) ties it to the program's text. -/
def laid_unicode_utf8_acceptRanges {H : Type} : DataW H := .agg [.agg [.lit (.int .u8 128), .lit (.int .u8 191)], .agg [.lit (.int .u8 160), .lit (.int .u8 191)], .agg [.lit (.int .u8 128), .lit (.int .u8 159)], .agg [.lit (.int .u8 144), .lit (.int .u8 191)], .agg [.lit (.int .u8 128), .lit (.int .u8 143)], .agg [.lit (.int .u8 0), .lit (.int .u8 0)], .agg [.lit (.int .u8 0), .lit (.int .u8 0)], .agg [.lit (.int .u8 0), .lit (.int .u8 0)], .agg [.lit (.int .u8 0), .lit (.int .u8 0)], .agg [.lit (.int .u8 0), .lit (.int .u8 0)], .agg [.lit (.int .u8 0), .lit (.int .u8 0)], .agg [.lit (.int .u8 0), .lit (.int .u8 0)], .agg [.lit (.int .u8 0), .lit (.int .u8 0)], .agg [.lit (.int .u8 0), .lit (.int .u8 0)], .agg [.lit (.int .u8 0), .lit (.int .u8 0)], .agg [.lit (.int .u8 0), .lit (.int .u8 0)]]
/-- One of Go's own tables, pinned by name: the form's constant. -/
def laid_unicode_utf8_first : DataW Unit := Go.Pinned.utf8First

/-- 'laws.FnExactStepWorld': WHATEVER THE INPUT: true; the input reads as it did. -/
def fnExactStepWorldSpec : ChangeSpec := { name := "fnExactStepWorld", fn := fun _ => fun
  | [d1, d2] => { results := [.lit (.bool true)], args := [d1, d2] }
  | _ => none }
def fnExactStepWorldRow : OpenClaim := { program := "ytlffkcmbeolohaagreatdoor", sum := "7c011a2295e1735f0ad38e0c06a8853d9ec316a063214a2fbaaf8dce8b5ffa9d", func := "loop.example/g03315/laws.FnExactStepWorld", spec := "fnExactStepWorld", inPlace := ["internal/bytealg.IndexByteString", "internal/bytealg.IndexString"], unfollowed := true, recurses := true, named := ["unicode/utf8.first", "unicode/utf8.acceptRanges", "internal/bytealg.MaxLen"], apart := false, laid := [("unicode/utf8.acceptRanges", laid_unicode_utf8_acceptRanges), ("unicode/utf8.first", laid_unicode_utf8_first)] }
def FnExactStepWorldSaid : Prop := fnExactStepWorldRow.holds Tryz.pinned (OpenSpec.ofChange fnExactStepWorldSpec)

/-- ITS FALSE NEIGHBOUR: 'it returns false'. Refute it at one input. -/
def fnExactStepWorldWrong : ChangeSpec := { name := "fnExactStepWorld", fn := fun _ => fun
  | [d1, d2] => { results := [.lit (.bool false)], args := [d1, d2] }
  | _ => none }
def FnExactStepWorldWrongFalsely : Prop := fnExactStepWorldRow.holds Tryz.pinned (OpenSpec.ofChange fnExactStepWorldWrong)

/-- 'laws.FnExactRunWorld': WHATEVER THE INPUT: true; the input reads as it did. -/
def fnExactRunWorldSpec : ChangeSpec := { name := "fnExactRunWorld", fn := fun _ => fun
  | [d1, d2] => { results := [.lit (.bool true)], args := [d1, d2] }
  | _ => none }
def fnExactRunWorldRow : OpenClaim := { program := "ytlffkcmbeolohaagreatdoor", sum := "7c011a2295e1735f0ad38e0c06a8853d9ec316a063214a2fbaaf8dce8b5ffa9d", func := "loop.example/g03315/laws.FnExactRunWorld", spec := "fnExactRunWorld", inPlace := ["internal/bytealg.IndexByteString", "internal/bytealg.IndexString"], unfollowed := true, recurses := true, named := ["unicode/utf8.first", "unicode/utf8.acceptRanges", "internal/bytealg.MaxLen"], apart := false, laid := [("unicode/utf8.acceptRanges", laid_unicode_utf8_acceptRanges), ("unicode/utf8.first", laid_unicode_utf8_first)] }
def FnExactRunWorldSaid : Prop := fnExactRunWorldRow.holds Tryz.pinned (OpenSpec.ofChange fnExactRunWorldSpec)

/-- ITS FALSE NEIGHBOUR: 'it returns false'. Refute it at one input. -/
def fnExactRunWorldWrong : ChangeSpec := { name := "fnExactRunWorld", fn := fun _ => fun
  | [d1, d2] => { results := [.lit (.bool false)], args := [d1, d2] }
  | _ => none }
def FnExactRunWorldWrongFalsely : Prop := fnExactRunWorldRow.holds Tryz.pinned (OpenSpec.ofChange fnExactRunWorldWrong)

/-- 'laws.FnExactFaultyStep': WHATEVER THE INPUT: true; the input reads as it did. -/
def fnExactFaultyStepSpec : ChangeSpec := { name := "fnExactFaultyStep", fn := fun _ => fun
  | [d1, d2, d3] => { results := [.lit (.bool true)], args := [d1, d2, d3] }
  | _ => none }
def fnExactFaultyStepRow : OpenClaim := { program := "ytlffkcmbeolohaagreatdoor", sum := "7c011a2295e1735f0ad38e0c06a8853d9ec316a063214a2fbaaf8dce8b5ffa9d", func := "loop.example/g03315/laws.FnExactFaultyStep", spec := "fnExactFaultyStep", inPlace := ["internal/bytealg.IndexByteString", "internal/bytealg.IndexString"], unfollowed := true, recurses := true, named := ["unicode/utf8.first", "unicode/utf8.acceptRanges", "internal/bytealg.MaxLen"], apart := false, laid := [("unicode/utf8.acceptRanges", laid_unicode_utf8_acceptRanges), ("unicode/utf8.first", laid_unicode_utf8_first)] }
def FnExactFaultyStepSaid : Prop := fnExactFaultyStepRow.holds Tryz.pinned (OpenSpec.ofChange fnExactFaultyStepSpec)

/-- ITS FALSE NEIGHBOUR: 'it returns false'. Refute it at one input. -/
def fnExactFaultyStepWrong : ChangeSpec := { name := "fnExactFaultyStep", fn := fun _ => fun
  | [d1, d2, d3] => { results := [.lit (.bool false)], args := [d1, d2, d3] }
  | _ => none }
def FnExactFaultyStepWrongFalsely : Prop := fnExactFaultyStepRow.holds Tryz.pinned (OpenSpec.ofChange fnExactFaultyStepWrong)

/-- 'laws.FnExactPlayReplay': WHATEVER THE INPUT: true; the input reads as it did. -/
def fnExactPlayReplaySpec : ChangeSpec := { name := "fnExactPlayReplay", fn := fun _ => fun
  | [d1, d2] => { results := [.lit (.bool true)], args := [d1, d2] }
  | _ => none }
def fnExactPlayReplayRow : OpenClaim := { program := "ytlffkcmbeolohaagreatdoor", sum := "7c011a2295e1735f0ad38e0c06a8853d9ec316a063214a2fbaaf8dce8b5ffa9d", func := "loop.example/g03315/laws.FnExactPlayReplay", spec := "fnExactPlayReplay", inPlace := ["internal/bytealg.IndexByteString", "internal/bytealg.IndexString"], unfollowed := true, recurses := true, named := ["unicode/utf8.first", "unicode/utf8.acceptRanges", "internal/bytealg.MaxLen"], apart := false, laid := [("unicode/utf8.acceptRanges", laid_unicode_utf8_acceptRanges), ("unicode/utf8.first", laid_unicode_utf8_first)] }
def FnExactPlayReplaySaid : Prop := fnExactPlayReplayRow.holds Tryz.pinned (OpenSpec.ofChange fnExactPlayReplaySpec)

/-- ITS FALSE NEIGHBOUR: 'it returns false'. Refute it at one input. -/
def fnExactPlayReplayWrong : ChangeSpec := { name := "fnExactPlayReplay", fn := fun _ => fun
  | [d1, d2] => { results := [.lit (.bool false)], args := [d1, d2] }
  | _ => none }
def FnExactPlayReplayWrongFalsely : Prop := fnExactPlayReplayRow.holds Tryz.pinned (OpenSpec.ofChange fnExactPlayReplayWrong)

/-- 'laws.FnExactFeedRows': WHATEVER THE INPUT: true; the input reads as it did. -/
def fnExactFeedRowsSpec : ChangeSpec := { name := "fnExactFeedRows", fn := fun _ => fun
  | [d1, d2, d3] => { results := [.lit (.bool true)], args := [d1, d2, d3] }
  | _ => none }
def fnExactFeedRowsRow : OpenClaim := { program := "ytlffkcmbeolohaagreatdoor", sum := "7c011a2295e1735f0ad38e0c06a8853d9ec316a063214a2fbaaf8dce8b5ffa9d", func := "loop.example/g03315/laws.FnExactFeedRows", spec := "fnExactFeedRows", inPlace := ["internal/bytealg.IndexByteString", "internal/bytealg.IndexString"], unfollowed := true, recurses := true, named := ["unicode/utf8.first", "unicode/utf8.acceptRanges", "internal/bytealg.MaxLen"], apart := false, laid := [("unicode/utf8.acceptRanges", laid_unicode_utf8_acceptRanges), ("unicode/utf8.first", laid_unicode_utf8_first)] }
def FnExactFeedRowsSaid : Prop := fnExactFeedRowsRow.holds Tryz.pinned (OpenSpec.ofChange fnExactFeedRowsSpec)

/-- ITS FALSE NEIGHBOUR: 'it returns false'. Refute it at one input. -/
def fnExactFeedRowsWrong : ChangeSpec := { name := "fnExactFeedRows", fn := fun _ => fun
  | [d1, d2, d3] => { results := [.lit (.bool false)], args := [d1, d2, d3] }
  | _ => none }
def FnExactFeedRowsWrongFalsely : Prop := fnExactFeedRowsRow.holds Tryz.pinned (OpenSpec.ofChange fnExactFeedRowsWrong)

/- THE SECOND FORM. 'bulk': how many values and letters a reading holds, each counted each time it is reached (what is shared counts as often as it is met; a slice's spare places count too). A statement '..UptoSaid' is the law's where the arguments, and the package variables that the reading takes, are together of bulk at most 1048576: NARROWER than '..Said'. Prove '..Said' where nothing that the law and all that it calls make is longer than what came in: it says more and counts as full. Else prove '..UptoSaid'. A law counts once. -/
mutual
def uptoBulk {H : Type} : DataW H → Nat
  | .lit (.string bytes) => bytes.length + 1
  | .lit _ => 1
  | .nil => 1
  | .ptr d => uptoBulk d + 1
  | .slice elems spare => uptoBulkAll elems + uptoBulkAll spare + 1
  | .agg parts => uptoBulkAll parts + 1
  | .iface _ d => uptoBulk d + 1
  | .map entries => uptoBulkEntries entries + 1
  | .held _ => 1
def uptoBulkAll {H : Type} : List (DataW H) → Nat
  | [] => 0
  | d :: r => uptoBulk d + uptoBulkAll r
def uptoBulkEntries {H : Type} : List (Lit × DataW H) → Nat
  | [] => 0
  | x :: r => uptoBulkEntry x + uptoBulkEntries r
def uptoBulkEntry {H : Type} : Lit × DataW H → Nat
  | (.string bytes, d) => bytes.length + uptoBulk d + 1
  | (_, d) => uptoBulk d + 1
 end
def uptoSmall : (H : Type) → List (DataW H) → Bool := fun _ ds => decide (uptoBulkAll ds ≤ 1048576)
def OpenSpec.upto (s : _root_.Go.ChangeSpec) : _root_.Go.OpenSpec := { _root_.Go.OpenSpec.ofChange s with cond := some uptoSmall }

/-- 'laws.FnExactStepWorld', WHERE WHAT IT READS IS OF BULK AT MOST 1048576: true; the input reads as it did. -/
def fnExactStepWorldUptoRow : OpenClaim := { program := "ytlffkcmbeolohaagreatdoor", sum := "7c011a2295e1735f0ad38e0c06a8853d9ec316a063214a2fbaaf8dce8b5ffa9d", func := "loop.example/g03315/laws.FnExactStepWorld", spec := "fnExactStepWorld", inPlace := ["internal/bytealg.IndexByteString", "internal/bytealg.IndexString"], unfollowed := true, recurses := true, named := ["unicode/utf8.first", "unicode/utf8.acceptRanges", "internal/bytealg.MaxLen"], apart := false, laid := [("unicode/utf8.acceptRanges", laid_unicode_utf8_acceptRanges), ("unicode/utf8.first", laid_unicode_utf8_first)], narrowed := true }
def FnExactStepWorldUptoSaid : Prop := fnExactStepWorldUptoRow.holds Tryz.pinned (OpenSpec.upto fnExactStepWorldSpec)

/-- 'laws.FnExactRunWorld', WHERE WHAT IT READS IS OF BULK AT MOST 1048576: true; the input reads as it did. -/
def fnExactRunWorldUptoRow : OpenClaim := { program := "ytlffkcmbeolohaagreatdoor", sum := "7c011a2295e1735f0ad38e0c06a8853d9ec316a063214a2fbaaf8dce8b5ffa9d", func := "loop.example/g03315/laws.FnExactRunWorld", spec := "fnExactRunWorld", inPlace := ["internal/bytealg.IndexByteString", "internal/bytealg.IndexString"], unfollowed := true, recurses := true, named := ["unicode/utf8.first", "unicode/utf8.acceptRanges", "internal/bytealg.MaxLen"], apart := false, laid := [("unicode/utf8.acceptRanges", laid_unicode_utf8_acceptRanges), ("unicode/utf8.first", laid_unicode_utf8_first)], narrowed := true }
def FnExactRunWorldUptoSaid : Prop := fnExactRunWorldUptoRow.holds Tryz.pinned (OpenSpec.upto fnExactRunWorldSpec)

/-- 'laws.FnExactFaultyStep', WHERE WHAT IT READS IS OF BULK AT MOST 1048576: true; the input reads as it did. -/
def fnExactFaultyStepUptoRow : OpenClaim := { program := "ytlffkcmbeolohaagreatdoor", sum := "7c011a2295e1735f0ad38e0c06a8853d9ec316a063214a2fbaaf8dce8b5ffa9d", func := "loop.example/g03315/laws.FnExactFaultyStep", spec := "fnExactFaultyStep", inPlace := ["internal/bytealg.IndexByteString", "internal/bytealg.IndexString"], unfollowed := true, recurses := true, named := ["unicode/utf8.first", "unicode/utf8.acceptRanges", "internal/bytealg.MaxLen"], apart := false, laid := [("unicode/utf8.acceptRanges", laid_unicode_utf8_acceptRanges), ("unicode/utf8.first", laid_unicode_utf8_first)], narrowed := true }
def FnExactFaultyStepUptoSaid : Prop := fnExactFaultyStepUptoRow.holds Tryz.pinned (OpenSpec.upto fnExactFaultyStepSpec)

/-- 'laws.FnExactPlayReplay', WHERE WHAT IT READS IS OF BULK AT MOST 1048576: true; the input reads as it did. -/
def fnExactPlayReplayUptoRow : OpenClaim := { program := "ytlffkcmbeolohaagreatdoor", sum := "7c011a2295e1735f0ad38e0c06a8853d9ec316a063214a2fbaaf8dce8b5ffa9d", func := "loop.example/g03315/laws.FnExactPlayReplay", spec := "fnExactPlayReplay", inPlace := ["internal/bytealg.IndexByteString", "internal/bytealg.IndexString"], unfollowed := true, recurses := true, named := ["unicode/utf8.first", "unicode/utf8.acceptRanges", "internal/bytealg.MaxLen"], apart := false, laid := [("unicode/utf8.acceptRanges", laid_unicode_utf8_acceptRanges), ("unicode/utf8.first", laid_unicode_utf8_first)], narrowed := true }
def FnExactPlayReplayUptoSaid : Prop := fnExactPlayReplayUptoRow.holds Tryz.pinned (OpenSpec.upto fnExactPlayReplaySpec)

/-- 'laws.FnExactFeedRows', WHERE WHAT IT READS IS OF BULK AT MOST 1048576: true; the input reads as it did. -/
def fnExactFeedRowsUptoRow : OpenClaim := { program := "ytlffkcmbeolohaagreatdoor", sum := "7c011a2295e1735f0ad38e0c06a8853d9ec316a063214a2fbaaf8dce8b5ffa9d", func := "loop.example/g03315/laws.FnExactFeedRows", spec := "fnExactFeedRows", inPlace := ["internal/bytealg.IndexByteString", "internal/bytealg.IndexString"], unfollowed := true, recurses := true, named := ["unicode/utf8.first", "unicode/utf8.acceptRanges", "internal/bytealg.MaxLen"], apart := false, laid := [("unicode/utf8.acceptRanges", laid_unicode_utf8_acceptRanges), ("unicode/utf8.first", laid_unicode_utf8_first)], narrowed := true }
def FnExactFeedRowsUptoSaid : Prop := fnExactFeedRowsUptoRow.holds Tryz.pinned (OpenSpec.upto fnExactFeedRowsSpec)

end Rows
end Go.Proofs.YtlffkcmbeolohaaGreatDoor
