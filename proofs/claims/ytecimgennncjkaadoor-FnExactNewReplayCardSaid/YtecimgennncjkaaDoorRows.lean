/-
  NARROWER THAN 'FOR EVERY INPUT', by the rows' own cells (each row's printed sentence says how): FnPacketBytes: ifaces, laid · FnExactReplayOk: laid · FnExactNewReplay: laid · FnExactCutReplay: laid · FnExactEncodeReplay: laid.
  DERIVED. THE GIVEN ROWS OF THIS SEAT. 5 by the template 'for every input the law returns true; each argument reads behind the call as it read before'; 0 by the template 'total and deterministic' (their statements: YtecimgennncjkaaDoorTotals.lean).
  GIVEN WITH THE SEED: the statements are not yours to turn. If you find one false, say at which input.
  Laid BY PROGRAM, IN A SANDBOX (cutbox-rows.mjs): the forced cells as the released guide's own fill.sh prints them over the translation b54ecf0a37258e21… (all of the seat's roots in one cut). By AI agents, Wed Nov 11 2026. No macro, syntax, notation, axiom, sorry.
-/
import Derived.Test.YtecimgennncjkaaDoorChecked
import GoSem.PinnedTables
import GoSem.Claim
import GoSem.ClaimJoined
import GoSem.ClaimMapViews
import Derived.JoinedTies
import Derived.KernelRfl
namespace Go.Proofs.YtecimgennncjkaaDoor
/- THE CELL 'sum', in the pinned program and in every row, IS THE sha256 OF THE DUMP (.gsa) THAT YtecimgennncjkaaDoorProg.lean LOADS. Nothing in Lean hashes anything: it is a label: what it is worth is what the hold of that sum in a sandbox is worth. -/
noncomputable def Tryd.pinned : Pinned := { name := "ytecimgennncjkaadoor", sum := "b54ecf0a37258e211e58a47729fe59227032da4cc349580a6e7ef616f5da0fcd", checked := Tryd.checked }
namespace Rows
def none {H : Type} : Left H := { results := [], args := [] }

/- WHAT THE LISTED PACKAGE-LEVEL VARIABLES READ AS WHEN THE CALL BEGINS. Each datum BY PROGRAM (the guide's laid-datum.mjs) off the statement by which the dump's own 'gosem.cut.vars' lays the variable. In a bare row this is a premise. The card (YtecimgennncjkaaDoorCards.lean) ties it to the program's text. -/
def laid_loop_example_g03315_impl_errUnreadable {H : Type} : DataW H := .iface "*errors.errorString" (.ptr (.agg [.lit (.string [110, 111, 32, 112, 97, 99, 107, 101, 116, 32, 99, 97, 110, 32, 98, 101, 32, 114, 101, 97, 100, 32, 102, 114, 111, 109, 32, 116, 104, 101, 32, 116, 101, 120, 116])]))
def laid_unicode_utf8_acceptRanges {H : Type} : DataW H := .agg [.agg [.lit (.int .u8 128), .lit (.int .u8 191)], .agg [.lit (.int .u8 160), .lit (.int .u8 191)], .agg [.lit (.int .u8 128), .lit (.int .u8 159)], .agg [.lit (.int .u8 144), .lit (.int .u8 191)], .agg [.lit (.int .u8 128), .lit (.int .u8 143)], .agg [.lit (.int .u8 0), .lit (.int .u8 0)], .agg [.lit (.int .u8 0), .lit (.int .u8 0)], .agg [.lit (.int .u8 0), .lit (.int .u8 0)], .agg [.lit (.int .u8 0), .lit (.int .u8 0)], .agg [.lit (.int .u8 0), .lit (.int .u8 0)], .agg [.lit (.int .u8 0), .lit (.int .u8 0)], .agg [.lit (.int .u8 0), .lit (.int .u8 0)], .agg [.lit (.int .u8 0), .lit (.int .u8 0)], .agg [.lit (.int .u8 0), .lit (.int .u8 0)], .agg [.lit (.int .u8 0), .lit (.int .u8 0)], .agg [.lit (.int .u8 0), .lit (.int .u8 0)]]
/-- One of Go's own tables, pinned by name: the form's constant. -/
def laid_unicode_utf8_first : DataW Unit := Go.Pinned.utf8First

/-- 'laws.FnPacketBytes': WHATEVER THE INPUT: true; the input reads as it did. -/
def fnPacketBytesSpec : ChangeSpec := { name := "fnPacketBytes", vars := ["loop.example/g03315/impl.errUnreadable"], fn := fun _ => fun
  | [d, g1] => { results := [.lit (.bool true)], args := [d], vars := [g1] }
  | _ => none }
def fnPacketBytesRow : OpenClaim := { program := "ytecimgennncjkaadoor", sum := "b54ecf0a37258e211e58a47729fe59227032da4cc349580a6e7ef616f5da0fcd", func := "loop.example/g03315/laws.FnPacketBytes", spec := "fnPacketBytes", inPlace := ["internal/abi.NoEscape", "internal/reflectlite.TypeOf"], unfollowed := true, recurses := true, named := ["loop.example/g03315/impl.errUnreadable"], ifaces := true, apart := false, laid := [("loop.example/g03315/impl.errUnreadable", laid_loop_example_g03315_impl_errUnreadable)] }
def FnPacketBytesSaid : Prop := fnPacketBytesRow.holds Tryd.pinned (OpenSpec.ofChange fnPacketBytesSpec)

/-- ITS FALSE NEIGHBOUR: 'it returns false'. Refute it at one input. -/
def fnPacketBytesWrong : ChangeSpec := { name := "fnPacketBytes", vars := ["loop.example/g03315/impl.errUnreadable"], fn := fun _ => fun
  | [d, g1] => { results := [.lit (.bool false)], args := [d], vars := [g1] }
  | _ => none }
def FnPacketBytesWrongFalsely : Prop := fnPacketBytesRow.holds Tryd.pinned (OpenSpec.ofChange fnPacketBytesWrong)

/-- 'laws.FnExactReplayOk': WHATEVER THE INPUT: true; the input reads as it did. -/
def fnExactReplayOkSpec : ChangeSpec := { name := "fnExactReplayOk", fn := fun _ => fun
  | [d] => { results := [.lit (.bool true)], args := [d] }
  | _ => none }
def fnExactReplayOkRow : OpenClaim := { program := "ytecimgennncjkaadoor", sum := "b54ecf0a37258e211e58a47729fe59227032da4cc349580a6e7ef616f5da0fcd", func := "loop.example/g03315/laws.FnExactReplayOk", spec := "fnExactReplayOk", inPlace := ["internal/bytealg.IndexByteString", "internal/bytealg.IndexString"], named := ["unicode/utf8.first", "unicode/utf8.acceptRanges", "internal/bytealg.MaxLen"], apart := false, laid := [("unicode/utf8.acceptRanges", laid_unicode_utf8_acceptRanges), ("unicode/utf8.first", laid_unicode_utf8_first)] }
def FnExactReplayOkSaid : Prop := fnExactReplayOkRow.holds Tryd.pinned (OpenSpec.ofChange fnExactReplayOkSpec)

/-- ITS FALSE NEIGHBOUR: 'it returns false'. Refute it at one input. -/
def fnExactReplayOkWrong : ChangeSpec := { name := "fnExactReplayOk", fn := fun _ => fun
  | [d] => { results := [.lit (.bool false)], args := [d] }
  | _ => none }
def FnExactReplayOkWrongFalsely : Prop := fnExactReplayOkRow.holds Tryd.pinned (OpenSpec.ofChange fnExactReplayOkWrong)

/-- 'laws.FnExactNewReplay': WHATEVER THE INPUT: true; the input reads as it did. -/
def fnExactNewReplaySpec : ChangeSpec := { name := "fnExactNewReplay", fn := fun _ => fun
  | [d1, d2, d3, d4] => { results := [.lit (.bool true)], args := [d1, d2, d3, d4] }
  | _ => none }
def fnExactNewReplayRow : OpenClaim := { program := "ytecimgennncjkaadoor", sum := "b54ecf0a37258e211e58a47729fe59227032da4cc349580a6e7ef616f5da0fcd", func := "loop.example/g03315/laws.FnExactNewReplay", spec := "fnExactNewReplay", inPlace := ["internal/bytealg.IndexByteString", "internal/bytealg.IndexString"], named := ["unicode/utf8.first", "unicode/utf8.acceptRanges", "internal/bytealg.MaxLen"], apart := false, laid := [("unicode/utf8.acceptRanges", laid_unicode_utf8_acceptRanges), ("unicode/utf8.first", laid_unicode_utf8_first)] }
def FnExactNewReplaySaid : Prop := fnExactNewReplayRow.holds Tryd.pinned (OpenSpec.ofChange fnExactNewReplaySpec)

/-- ITS FALSE NEIGHBOUR: 'it returns false'. Refute it at one input. -/
def fnExactNewReplayWrong : ChangeSpec := { name := "fnExactNewReplay", fn := fun _ => fun
  | [d1, d2, d3, d4] => { results := [.lit (.bool false)], args := [d1, d2, d3, d4] }
  | _ => none }
def FnExactNewReplayWrongFalsely : Prop := fnExactNewReplayRow.holds Tryd.pinned (OpenSpec.ofChange fnExactNewReplayWrong)

/-- 'laws.FnExactCutReplay': WHATEVER THE INPUT: true; the input reads as it did. -/
def fnExactCutReplaySpec : ChangeSpec := { name := "fnExactCutReplay", fn := fun _ => fun
  | [d1, d2] => { results := [.lit (.bool true)], args := [d1, d2] }
  | _ => none }
def fnExactCutReplayRow : OpenClaim := { program := "ytecimgennncjkaadoor", sum := "b54ecf0a37258e211e58a47729fe59227032da4cc349580a6e7ef616f5da0fcd", func := "loop.example/g03315/laws.FnExactCutReplay", spec := "fnExactCutReplay", inPlace := ["internal/bytealg.IndexByteString", "internal/bytealg.IndexString"], named := ["unicode/utf8.first", "unicode/utf8.acceptRanges", "internal/bytealg.MaxLen"], apart := false, laid := [("unicode/utf8.acceptRanges", laid_unicode_utf8_acceptRanges), ("unicode/utf8.first", laid_unicode_utf8_first)] }
def FnExactCutReplaySaid : Prop := fnExactCutReplayRow.holds Tryd.pinned (OpenSpec.ofChange fnExactCutReplaySpec)

/-- ITS FALSE NEIGHBOUR: 'it returns false'. Refute it at one input. -/
def fnExactCutReplayWrong : ChangeSpec := { name := "fnExactCutReplay", fn := fun _ => fun
  | [d1, d2] => { results := [.lit (.bool false)], args := [d1, d2] }
  | _ => none }
def FnExactCutReplayWrongFalsely : Prop := fnExactCutReplayRow.holds Tryd.pinned (OpenSpec.ofChange fnExactCutReplayWrong)

/-- 'laws.FnExactEncodeReplay': WHATEVER THE INPUT: true; the input reads as it did. -/
def fnExactEncodeReplaySpec : ChangeSpec := { name := "fnExactEncodeReplay", fn := fun _ => fun
  | [d] => { results := [.lit (.bool true)], args := [d] }
  | _ => none }
def fnExactEncodeReplayRow : OpenClaim := { program := "ytecimgennncjkaadoor", sum := "b54ecf0a37258e211e58a47729fe59227032da4cc349580a6e7ef616f5da0fcd", func := "loop.example/g03315/laws.FnExactEncodeReplay", spec := "fnExactEncodeReplay", inPlace := ["internal/bytealg.IndexByteString", "internal/bytealg.IndexString", "internal/abi.NoEscape", "internal/bytealg.MakeNoZero"], named := ["unicode/utf8.first", "unicode/utf8.acceptRanges", "internal/bytealg.MaxLen"], apart := false, laid := [("unicode/utf8.acceptRanges", laid_unicode_utf8_acceptRanges), ("unicode/utf8.first", laid_unicode_utf8_first)] }
def FnExactEncodeReplaySaid : Prop := fnExactEncodeReplayRow.holds Tryd.pinned (OpenSpec.ofChange fnExactEncodeReplaySpec)

/-- ITS FALSE NEIGHBOUR: 'it returns false'. Refute it at one input. -/
def fnExactEncodeReplayWrong : ChangeSpec := { name := "fnExactEncodeReplay", fn := fun _ => fun
  | [d] => { results := [.lit (.bool false)], args := [d] }
  | _ => none }
def FnExactEncodeReplayWrongFalsely : Prop := fnExactEncodeReplayRow.holds Tryd.pinned (OpenSpec.ofChange fnExactEncodeReplayWrong)

/- THE SECOND FORM. 'bulk': how many values and letters a reading holds, each counted each time it is reached (what is shared counts as often as it is met; a slice's spare places count too). A statement '..UptoSaid' is the law's where the arguments, and the package variables that the reading takes, are together of bulk at most 1048576: NARROWER than '..Said'. Prove '..Said' where nothing that the law and all that it calls make is longer than what came in: it says more and counts as full. Else prove '..UptoSaid'. A law counts once. -/
mutual
def uptoBulk {H : Type} : DataW H → Nat
  | .lit (.string bytes) => bytes.length + 1
  | .lit _ => 1
  | .nil => 1
  | .ptr d => uptoBulk d + 1
  | .slice elems spare => uptoBulkAll elems + uptoBulkAll spare + 1
  | .agg parts => uptoBulkAll parts + 1
  | .iface _ d => uptoBulk d + 1
  | .map entries => uptoBulkEntries entries + 1
  | .held _ => 1
def uptoBulkAll {H : Type} : List (DataW H) → Nat
  | [] => 0
  | d :: r => uptoBulk d + uptoBulkAll r
def uptoBulkEntries {H : Type} : List (Lit × DataW H) → Nat
  | [] => 0
  | x :: r => uptoBulkEntry x + uptoBulkEntries r
def uptoBulkEntry {H : Type} : Lit × DataW H → Nat
  | (.string bytes, d) => bytes.length + uptoBulk d + 1
  | (_, d) => uptoBulk d + 1
 end
def uptoSmall : (H : Type) → List (DataW H) → Bool := fun _ ds => decide (uptoBulkAll ds ≤ 1048576)
def OpenSpec.upto (s : _root_.Go.ChangeSpec) : _root_.Go.OpenSpec := { _root_.Go.OpenSpec.ofChange s with cond := some uptoSmall }

/-- 'laws.FnPacketBytes', WHERE WHAT IT READS IS OF BULK AT MOST 1048576: true; the input reads as it did. -/
def fnPacketBytesUptoRow : OpenClaim := { program := "ytecimgennncjkaadoor", sum := "b54ecf0a37258e211e58a47729fe59227032da4cc349580a6e7ef616f5da0fcd", func := "loop.example/g03315/laws.FnPacketBytes", spec := "fnPacketBytes", inPlace := ["internal/abi.NoEscape", "internal/reflectlite.TypeOf"], unfollowed := true, recurses := true, named := ["loop.example/g03315/impl.errUnreadable"], ifaces := true, apart := false, laid := [("loop.example/g03315/impl.errUnreadable", laid_loop_example_g03315_impl_errUnreadable)], narrowed := true }
def FnPacketBytesUptoSaid : Prop := fnPacketBytesUptoRow.holds Tryd.pinned (OpenSpec.upto fnPacketBytesSpec)

/-- 'laws.FnExactReplayOk', WHERE WHAT IT READS IS OF BULK AT MOST 1048576: true; the input reads as it did. -/
def fnExactReplayOkUptoRow : OpenClaim := { program := "ytecimgennncjkaadoor", sum := "b54ecf0a37258e211e58a47729fe59227032da4cc349580a6e7ef616f5da0fcd", func := "loop.example/g03315/laws.FnExactReplayOk", spec := "fnExactReplayOk", inPlace := ["internal/bytealg.IndexByteString", "internal/bytealg.IndexString"], named := ["unicode/utf8.first", "unicode/utf8.acceptRanges", "internal/bytealg.MaxLen"], apart := false, laid := [("unicode/utf8.acceptRanges", laid_unicode_utf8_acceptRanges), ("unicode/utf8.first", laid_unicode_utf8_first)], narrowed := true }
def FnExactReplayOkUptoSaid : Prop := fnExactReplayOkUptoRow.holds Tryd.pinned (OpenSpec.upto fnExactReplayOkSpec)

/-- 'laws.FnExactNewReplay', WHERE WHAT IT READS IS OF BULK AT MOST 1048576: true; the input reads as it did. -/
def fnExactNewReplayUptoRow : OpenClaim := { program := "ytecimgennncjkaadoor", sum := "b54ecf0a37258e211e58a47729fe59227032da4cc349580a6e7ef616f5da0fcd", func := "loop.example/g03315/laws.FnExactNewReplay", spec := "fnExactNewReplay", inPlace := ["internal/bytealg.IndexByteString", "internal/bytealg.IndexString"], named := ["unicode/utf8.first", "unicode/utf8.acceptRanges", "internal/bytealg.MaxLen"], apart := false, laid := [("unicode/utf8.acceptRanges", laid_unicode_utf8_acceptRanges), ("unicode/utf8.first", laid_unicode_utf8_first)], narrowed := true }
def FnExactNewReplayUptoSaid : Prop := fnExactNewReplayUptoRow.holds Tryd.pinned (OpenSpec.upto fnExactNewReplaySpec)

/-- 'laws.FnExactCutReplay', WHERE WHAT IT READS IS OF BULK AT MOST 1048576: true; the input reads as it did. -/
def fnExactCutReplayUptoRow : OpenClaim := { program := "ytecimgennncjkaadoor", sum := "b54ecf0a37258e211e58a47729fe59227032da4cc349580a6e7ef616f5da0fcd", func := "loop.example/g03315/laws.FnExactCutReplay", spec := "fnExactCutReplay", inPlace := ["internal/bytealg.IndexByteString", "internal/bytealg.IndexString"], named := ["unicode/utf8.first", "unicode/utf8.acceptRanges", "internal/bytealg.MaxLen"], apart := false, laid := [("unicode/utf8.acceptRanges", laid_unicode_utf8_acceptRanges), ("unicode/utf8.first", laid_unicode_utf8_first)], narrowed := true }
def FnExactCutReplayUptoSaid : Prop := fnExactCutReplayUptoRow.holds Tryd.pinned (OpenSpec.upto fnExactCutReplaySpec)

/-- 'laws.FnExactEncodeReplay', WHERE WHAT IT READS IS OF BULK AT MOST 1048576: true; the input reads as it did. -/
def fnExactEncodeReplayUptoRow : OpenClaim := { program := "ytecimgennncjkaadoor", sum := "b54ecf0a37258e211e58a47729fe59227032da4cc349580a6e7ef616f5da0fcd", func := "loop.example/g03315/laws.FnExactEncodeReplay", spec := "fnExactEncodeReplay", inPlace := ["internal/bytealg.IndexByteString", "internal/bytealg.IndexString", "internal/abi.NoEscape", "internal/bytealg.MakeNoZero"], named := ["unicode/utf8.first", "unicode/utf8.acceptRanges", "internal/bytealg.MaxLen"], apart := false, laid := [("unicode/utf8.acceptRanges", laid_unicode_utf8_acceptRanges), ("unicode/utf8.first", laid_unicode_utf8_first)], narrowed := true }
def FnExactEncodeReplayUptoSaid : Prop := fnExactEncodeReplayUptoRow.holds Tryd.pinned (OpenSpec.upto fnExactEncodeReplaySpec)

end Rows
end Go.Proofs.YtecimgennncjkaaDoor
