/-
  No cell of these rows narrows 'for every input' (looked for: loops, veiled, ifaces, maps, wideKeys, modest, calm, conditions, laid).
  DERIVED. THE GIVEN ROWS OF THIS SEAT. 8 by the template 'for every input the law returns true; each argument reads behind the call as it read before'; 0 by the template 'total and deterministic' (their statements: YtikaiimafliceaaTotals.lean).
  GIVEN WITH THE SEED: the statements are not yours to turn. If you find one false, say at which input.
  Laid BY PROGRAM, IN A SANDBOX (cutbox-rows.mjs): the forced cells as the released guide's own fill.sh prints them over the translation 835d1f94086b22f5… (all of the seat's roots in one cut). By AI agents, Wed Nov 11 2026. No macro, syntax, notation, axiom, sorry.
-/
import Derived.Test.YtikaiimafliceaaChecked
import GoSem.Claim
import GoSem.ClaimJoined
import GoSem.ClaimMapViews
import Derived.JoinedTies
import Derived.KernelRfl
namespace Go.Proofs.Ytikaiimafliceaa
/- THE CELL 'sum', in the pinned program and in every row, IS THE sha256 OF THE DUMP (.gsa) THAT YtikaiimafliceaaProg.lean LOADS. Nothing in Lean hashes anything: it is a label: what it is worth is what the hold of that sum in a sandbox is worth. -/
noncomputable def Try.pinned : Pinned := { name := "ytikaiimafliceaa", sum := "835d1f94086b22f53669cbb251b1963c4cafc22f4271711bcf7b84970856904b", checked := Try.checked }
namespace Rows
def none {H : Type} : Left H := { results := [], args := [] }

/-- 'laws.FnHunted': WHATEVER THE INPUT: true; the input reads as it did. -/
def fnHuntedSpec : ChangeSpec := { name := "fnHunted", fn := fun _ => fun
  | [d] => { results := [.lit (.bool true)], args := [d] }
  | _ => none }
def fnHuntedRow : OpenClaim := { program := "ytikaiimafliceaa", sum := "835d1f94086b22f53669cbb251b1963c4cafc22f4271711bcf7b84970856904b", func := "loop.example/g03315/laws.FnHunted", spec := "fnHunted", unfollowed := true, recurses := true, apart := false }
def FnHuntedSaid : Prop := fnHuntedRow.holds Try.pinned (OpenSpec.ofChange fnHuntedSpec)

/-- ITS FALSE NEIGHBOUR: 'it returns false'. Refute it at one input. -/
def fnHuntedWrong : ChangeSpec := { name := "fnHunted", fn := fun _ => fun
  | [d] => { results := [.lit (.bool false)], args := [d] }
  | _ => none }
def FnHuntedWrongFalsely : Prop := fnHuntedRow.holds Try.pinned (OpenSpec.ofChange fnHuntedWrong)

/-- 'laws.FnExactSumsAgree': WHATEVER THE INPUT: true; the input reads as it did. -/
def fnExactSumsAgreeSpec : ChangeSpec := { name := "fnExactSumsAgree", fn := fun _ => fun
  | [d1, d2, d3] => { results := [.lit (.bool true)], args := [d1, d2, d3] }
  | _ => none }
def fnExactSumsAgreeRow : OpenClaim := { program := "ytikaiimafliceaa", sum := "835d1f94086b22f53669cbb251b1963c4cafc22f4271711bcf7b84970856904b", func := "loop.example/g03315/laws.FnExactSumsAgree", spec := "fnExactSumsAgree", apart := false }
def FnExactSumsAgreeSaid : Prop := fnExactSumsAgreeRow.holds Try.pinned (OpenSpec.ofChange fnExactSumsAgreeSpec)

/-- ITS FALSE NEIGHBOUR: 'it returns false'. Refute it at one input. -/
def fnExactSumsAgreeWrong : ChangeSpec := { name := "fnExactSumsAgree", fn := fun _ => fun
  | [d1, d2, d3] => { results := [.lit (.bool false)], args := [d1, d2, d3] }
  | _ => none }
def FnExactSumsAgreeWrongFalsely : Prop := fnExactSumsAgreeRow.holds Try.pinned (OpenSpec.ofChange fnExactSumsAgreeWrong)

/-- 'laws.FnExactFirstDifference': WHATEVER THE INPUT: true; the input reads as it did. -/
def fnExactFirstDifferenceSpec : ChangeSpec := { name := "fnExactFirstDifference", fn := fun _ => fun
  | [d1, d2] => { results := [.lit (.bool true)], args := [d1, d2] }
  | _ => none }
def fnExactFirstDifferenceRow : OpenClaim := { program := "ytikaiimafliceaa", sum := "835d1f94086b22f53669cbb251b1963c4cafc22f4271711bcf7b84970856904b", func := "loop.example/g03315/laws.FnExactFirstDifference", spec := "fnExactFirstDifference", apart := false }
def FnExactFirstDifferenceSaid : Prop := fnExactFirstDifferenceRow.holds Try.pinned (OpenSpec.ofChange fnExactFirstDifferenceSpec)

/-- ITS FALSE NEIGHBOUR: 'it returns false'. Refute it at one input. -/
def fnExactFirstDifferenceWrong : ChangeSpec := { name := "fnExactFirstDifference", fn := fun _ => fun
  | [d1, d2] => { results := [.lit (.bool false)], args := [d1, d2] }
  | _ => none }
def FnExactFirstDifferenceWrongFalsely : Prop := fnExactFirstDifferenceRow.holds Try.pinned (OpenSpec.ofChange fnExactFirstDifferenceWrong)

/-- 'laws.FnExactStartHunt': WHATEVER THE INPUT: true; the input reads as it did. -/
def fnExactStartHuntSpec : ChangeSpec := { name := "fnExactStartHunt", fn := fun _ => fun
  | [d1, d2] => { results := [.lit (.bool true)], args := [d1, d2] }
  | _ => none }
def fnExactStartHuntRow : OpenClaim := { program := "ytikaiimafliceaa", sum := "835d1f94086b22f53669cbb251b1963c4cafc22f4271711bcf7b84970856904b", func := "loop.example/g03315/laws.FnExactStartHunt", spec := "fnExactStartHunt", apart := false }
def FnExactStartHuntSaid : Prop := fnExactStartHuntRow.holds Try.pinned (OpenSpec.ofChange fnExactStartHuntSpec)

/-- ITS FALSE NEIGHBOUR: 'it returns false'. Refute it at one input. -/
def fnExactStartHuntWrong : ChangeSpec := { name := "fnExactStartHunt", fn := fun _ => fun
  | [d1, d2] => { results := [.lit (.bool false)], args := [d1, d2] }
  | _ => none }
def FnExactStartHuntWrongFalsely : Prop := fnExactStartHuntRow.holds Try.pinned (OpenSpec.ofChange fnExactStartHuntWrong)

/-- 'laws.FnExactProbeOf': WHATEVER THE INPUT: true; the input reads as it did. -/
def fnExactProbeOfSpec : ChangeSpec := { name := "fnExactProbeOf", fn := fun _ => fun
  | [d] => { results := [.lit (.bool true)], args := [d] }
  | _ => none }
def fnExactProbeOfRow : OpenClaim := { program := "ytikaiimafliceaa", sum := "835d1f94086b22f53669cbb251b1963c4cafc22f4271711bcf7b84970856904b", func := "loop.example/g03315/laws.FnExactProbeOf", spec := "fnExactProbeOf", apart := false }
def FnExactProbeOfSaid : Prop := fnExactProbeOfRow.holds Try.pinned (OpenSpec.ofChange fnExactProbeOfSpec)

/-- ITS FALSE NEIGHBOUR: 'it returns false'. Refute it at one input. -/
def fnExactProbeOfWrong : ChangeSpec := { name := "fnExactProbeOf", fn := fun _ => fun
  | [d] => { results := [.lit (.bool false)], args := [d] }
  | _ => none }
def FnExactProbeOfWrongFalsely : Prop := fnExactProbeOfRow.holds Try.pinned (OpenSpec.ofChange fnExactProbeOfWrong)

/-- 'laws.FnExactNarrow': WHATEVER THE INPUT: true; the input reads as it did. -/
def fnExactNarrowSpec : ChangeSpec := { name := "fnExactNarrow", fn := fun _ => fun
  | [d1, d2] => { results := [.lit (.bool true)], args := [d1, d2] }
  | _ => none }
def fnExactNarrowRow : OpenClaim := { program := "ytikaiimafliceaa", sum := "835d1f94086b22f53669cbb251b1963c4cafc22f4271711bcf7b84970856904b", func := "loop.example/g03315/laws.FnExactNarrow", spec := "fnExactNarrow", apart := false }
def FnExactNarrowSaid : Prop := fnExactNarrowRow.holds Try.pinned (OpenSpec.ofChange fnExactNarrowSpec)

/-- ITS FALSE NEIGHBOUR: 'it returns false'. Refute it at one input. -/
def fnExactNarrowWrong : ChangeSpec := { name := "fnExactNarrow", fn := fun _ => fun
  | [d1, d2] => { results := [.lit (.bool false)], args := [d1, d2] }
  | _ => none }
def FnExactNarrowWrongFalsely : Prop := fnExactNarrowRow.holds Try.pinned (OpenSpec.ofChange fnExactNarrowWrong)

/-- 'laws.FnExactRunHunt': WHATEVER THE INPUT: true; the input reads as it did. -/
def fnExactRunHuntSpec : ChangeSpec := { name := "fnExactRunHunt", fn := fun _ => fun
  | [d1, d2] => { results := [.lit (.bool true)], args := [d1, d2] }
  | _ => none }
def fnExactRunHuntRow : OpenClaim := { program := "ytikaiimafliceaa", sum := "835d1f94086b22f53669cbb251b1963c4cafc22f4271711bcf7b84970856904b", func := "loop.example/g03315/laws.FnExactRunHunt", spec := "fnExactRunHunt", unfollowed := true, recurses := true, apart := false }
def FnExactRunHuntSaid : Prop := fnExactRunHuntRow.holds Try.pinned (OpenSpec.ofChange fnExactRunHuntSpec)

/-- ITS FALSE NEIGHBOUR: 'it returns false'. Refute it at one input. -/
def fnExactRunHuntWrong : ChangeSpec := { name := "fnExactRunHunt", fn := fun _ => fun
  | [d1, d2] => { results := [.lit (.bool false)], args := [d1, d2] }
  | _ => none }
def FnExactRunHuntWrongFalsely : Prop := fnExactRunHuntRow.holds Try.pinned (OpenSpec.ofChange fnExactRunHuntWrong)

/-- 'laws.FnExactBlame': WHATEVER THE INPUT: true; the input reads as it did. -/
def fnExactBlameSpec : ChangeSpec := { name := "fnExactBlame", fn := fun _ => fun
  | [d1, d2] => { results := [.lit (.bool true)], args := [d1, d2] }
  | _ => none }
def fnExactBlameRow : OpenClaim := { program := "ytikaiimafliceaa", sum := "835d1f94086b22f53669cbb251b1963c4cafc22f4271711bcf7b84970856904b", func := "loop.example/g03315/laws.FnExactBlame", spec := "fnExactBlame", apart := false }
def FnExactBlameSaid : Prop := fnExactBlameRow.holds Try.pinned (OpenSpec.ofChange fnExactBlameSpec)

/-- ITS FALSE NEIGHBOUR: 'it returns false'. Refute it at one input. -/
def fnExactBlameWrong : ChangeSpec := { name := "fnExactBlame", fn := fun _ => fun
  | [d1, d2] => { results := [.lit (.bool false)], args := [d1, d2] }
  | _ => none }
def FnExactBlameWrongFalsely : Prop := fnExactBlameRow.holds Try.pinned (OpenSpec.ofChange fnExactBlameWrong)

/- THE SECOND FORM. 'bulk': how many values and letters a reading holds, each counted each time it is reached (what is shared counts as often as it is met; a slice's spare places count too). A statement '..UptoSaid' is the law's where the arguments, and the package variables that the reading takes, are together of bulk at most 1048576: NARROWER than '..Said'. Prove '..Said' where nothing that the law and all that it calls make is longer than what came in: it says more and counts as full. Else prove '..UptoSaid'. A law counts once. -/
mutual
def uptoBulk {H : Type} : DataW H → Nat
  | .lit (.string bytes) => bytes.length + 1
  | .lit _ => 1
  | .nil => 1
  | .ptr d => uptoBulk d + 1
  | .slice elems spare => uptoBulkAll elems + uptoBulkAll spare + 1
  | .agg parts => uptoBulkAll parts + 1
  | .iface _ d => uptoBulk d + 1
  | .map entries => uptoBulkEntries entries + 1
  | .held _ => 1
def uptoBulkAll {H : Type} : List (DataW H) → Nat
  | [] => 0
  | d :: r => uptoBulk d + uptoBulkAll r
def uptoBulkEntries {H : Type} : List (Lit × DataW H) → Nat
  | [] => 0
  | x :: r => uptoBulkEntry x + uptoBulkEntries r
def uptoBulkEntry {H : Type} : Lit × DataW H → Nat
  | (.string bytes, d) => bytes.length + uptoBulk d + 1
  | (_, d) => uptoBulk d + 1
 end
def uptoSmall : (H : Type) → List (DataW H) → Bool := fun _ ds => decide (uptoBulkAll ds ≤ 1048576)
def OpenSpec.upto (s : _root_.Go.ChangeSpec) : _root_.Go.OpenSpec := { _root_.Go.OpenSpec.ofChange s with cond := some uptoSmall }

/-- 'laws.FnHunted', WHERE WHAT IT READS IS OF BULK AT MOST 1048576: true; the input reads as it did. -/
def fnHuntedUptoRow : OpenClaim := { program := "ytikaiimafliceaa", sum := "835d1f94086b22f53669cbb251b1963c4cafc22f4271711bcf7b84970856904b", func := "loop.example/g03315/laws.FnHunted", spec := "fnHunted", unfollowed := true, recurses := true, apart := false, narrowed := true }
def FnHuntedUptoSaid : Prop := fnHuntedUptoRow.holds Try.pinned (OpenSpec.upto fnHuntedSpec)

/-- 'laws.FnExactSumsAgree', WHERE WHAT IT READS IS OF BULK AT MOST 1048576: true; the input reads as it did. -/
def fnExactSumsAgreeUptoRow : OpenClaim := { program := "ytikaiimafliceaa", sum := "835d1f94086b22f53669cbb251b1963c4cafc22f4271711bcf7b84970856904b", func := "loop.example/g03315/laws.FnExactSumsAgree", spec := "fnExactSumsAgree", apart := false, narrowed := true }
def FnExactSumsAgreeUptoSaid : Prop := fnExactSumsAgreeUptoRow.holds Try.pinned (OpenSpec.upto fnExactSumsAgreeSpec)

/-- 'laws.FnExactFirstDifference', WHERE WHAT IT READS IS OF BULK AT MOST 1048576: true; the input reads as it did. -/
def fnExactFirstDifferenceUptoRow : OpenClaim := { program := "ytikaiimafliceaa", sum := "835d1f94086b22f53669cbb251b1963c4cafc22f4271711bcf7b84970856904b", func := "loop.example/g03315/laws.FnExactFirstDifference", spec := "fnExactFirstDifference", apart := false, narrowed := true }
def FnExactFirstDifferenceUptoSaid : Prop := fnExactFirstDifferenceUptoRow.holds Try.pinned (OpenSpec.upto fnExactFirstDifferenceSpec)

/-- 'laws.FnExactStartHunt', WHERE WHAT IT READS IS OF BULK AT MOST 1048576: true; the input reads as it did. -/
def fnExactStartHuntUptoRow : OpenClaim := { program := "ytikaiimafliceaa", sum := "835d1f94086b22f53669cbb251b1963c4cafc22f4271711bcf7b84970856904b", func := "loop.example/g03315/laws.FnExactStartHunt", spec := "fnExactStartHunt", apart := false, narrowed := true }
def FnExactStartHuntUptoSaid : Prop := fnExactStartHuntUptoRow.holds Try.pinned (OpenSpec.upto fnExactStartHuntSpec)

/-- 'laws.FnExactProbeOf', WHERE WHAT IT READS IS OF BULK AT MOST 1048576: true; the input reads as it did. -/
def fnExactProbeOfUptoRow : OpenClaim := { program := "ytikaiimafliceaa", sum := "835d1f94086b22f53669cbb251b1963c4cafc22f4271711bcf7b84970856904b", func := "loop.example/g03315/laws.FnExactProbeOf", spec := "fnExactProbeOf", apart := false, narrowed := true }
def FnExactProbeOfUptoSaid : Prop := fnExactProbeOfUptoRow.holds Try.pinned (OpenSpec.upto fnExactProbeOfSpec)

/-- 'laws.FnExactNarrow', WHERE WHAT IT READS IS OF BULK AT MOST 1048576: true; the input reads as it did. -/
def fnExactNarrowUptoRow : OpenClaim := { program := "ytikaiimafliceaa", sum := "835d1f94086b22f53669cbb251b1963c4cafc22f4271711bcf7b84970856904b", func := "loop.example/g03315/laws.FnExactNarrow", spec := "fnExactNarrow", apart := false, narrowed := true }
def FnExactNarrowUptoSaid : Prop := fnExactNarrowUptoRow.holds Try.pinned (OpenSpec.upto fnExactNarrowSpec)

/-- 'laws.FnExactRunHunt', WHERE WHAT IT READS IS OF BULK AT MOST 1048576: true; the input reads as it did. -/
def fnExactRunHuntUptoRow : OpenClaim := { program := "ytikaiimafliceaa", sum := "835d1f94086b22f53669cbb251b1963c4cafc22f4271711bcf7b84970856904b", func := "loop.example/g03315/laws.FnExactRunHunt", spec := "fnExactRunHunt", unfollowed := true, recurses := true, apart := false, narrowed := true }
def FnExactRunHuntUptoSaid : Prop := fnExactRunHuntUptoRow.holds Try.pinned (OpenSpec.upto fnExactRunHuntSpec)

/-- 'laws.FnExactBlame', WHERE WHAT IT READS IS OF BULK AT MOST 1048576: true; the input reads as it did. -/
def fnExactBlameUptoRow : OpenClaim := { program := "ytikaiimafliceaa", sum := "835d1f94086b22f53669cbb251b1963c4cafc22f4271711bcf7b84970856904b", func := "loop.example/g03315/laws.FnExactBlame", spec := "fnExactBlame", apart := false, narrowed := true }
def FnExactBlameUptoSaid : Prop := fnExactBlameUptoRow.holds Try.pinned (OpenSpec.upto fnExactBlameSpec)

end Rows
end Go.Proofs.Ytikaiimafliceaa
