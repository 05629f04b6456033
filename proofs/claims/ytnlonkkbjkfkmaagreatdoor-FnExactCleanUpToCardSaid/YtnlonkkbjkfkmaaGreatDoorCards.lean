/-
  DERIVED. GIVEN WITH THE SEED: THE CARDS: each row of YtnlonkkbjkfkmaaGreatDoorRows.lean that lists a variable, with what it lists TIED to the program's text (the seventh form; the later family's looks); each row that meets fmt, with fmt's text TOLD by the authors' own Lean function (tested against real Go, not proved from fmt's source: count such statements apart). THE CARD IS WHAT COUNTS. Prove the row's statement (the work); the ties are given (YtnlonkkbjkfkmaaGreatDoorTie.lean); close each card by the builder's one call (the guide's Derived/Test/ToyasCard.lean, 'card_holds'). Laid BY PROGRAM, IN A SANDBOX (cutbox-door.mjs). By AI agents, Wed Nov 11 2026. No macro, syntax, notation, axiom, sorry.
-/
import Derived.Test.YtnlonkkbjkfkmaaGreatDoorRows
import GoSem.ClaimSeven
namespace Go.Proofs.YtnlonkkbjkfkmaaGreatDoor
namespace Rows

/-- THE TIED CARD OF 'laws.FnWorldWhole'. -/
def fnWorldWholeCard : Claim7 := { stood := { row := fnWorldWholeRow, standIns := [], harness := (true, "938035ed7b55b8cfbb261b7a8f2e885c7e9dee2290bd8a9649edb1ad5bb2369e"), looks := true }, kinds := [], alts := [], laidByText := true, laidKinds := [.data, .pinned], laidTests := true, laidLooks := .later }
def FnWorldWholeCardSaid : Prop := Claim7.holds Tryz.pinned (.plain (OpenSpec.ofChange fnWorldWholeSpec)) fnWorldWholeCard

/-- THE TIED CARD OF 'laws.FnExactFaultyStep'. -/
def fnExactFaultyStepCard : Claim7 := { stood := { row := fnExactFaultyStepRow, standIns := [], harness := (true, "938035ed7b55b8cfbb261b7a8f2e885c7e9dee2290bd8a9649edb1ad5bb2369e"), looks := true }, kinds := [], alts := [], laidByText := true, laidKinds := [.data, .pinned], laidTests := true, laidLooks := .later }
def FnExactFaultyStepCardSaid : Prop := Claim7.holds Tryz.pinned (.plain (OpenSpec.ofChange fnExactFaultyStepSpec)) fnExactFaultyStepCard

/-- THE TIED CARD OF 'laws.FnExactNewPeer'. -/
def fnExactNewPeerCard : Claim7 := { stood := { row := fnExactNewPeerRow, standIns := [], harness := (true, "938035ed7b55b8cfbb261b7a8f2e885c7e9dee2290bd8a9649edb1ad5bb2369e"), looks := true }, kinds := [], alts := [], laidByText := true, laidKinds := [.data, .pinned], laidTests := true, laidLooks := .later }
def FnExactNewPeerCardSaid : Prop := Claim7.holds Tryz.pinned (.plain (OpenSpec.ofChange fnExactNewPeerSpec)) fnExactNewPeerCard

/-- THE TIED CARD OF 'laws.FnExactPressInput'. -/
def fnExactPressInputCard : Claim7 := { stood := { row := fnExactPressInputRow, standIns := [], harness := (true, "938035ed7b55b8cfbb261b7a8f2e885c7e9dee2290bd8a9649edb1ad5bb2369e"), looks := true }, kinds := [], alts := [], laidByText := true, laidKinds := [.data, .pinned], laidTests := true, laidLooks := .later }
def FnExactPressInputCardSaid : Prop := Claim7.holds Tryz.pinned (.plain (OpenSpec.ofChange fnExactPressInputSpec)) fnExactPressInputCard

/-- THE TIED CARD OF 'laws.FnExactAdvance'. -/
def fnExactAdvanceCard : Claim7 := { stood := { row := fnExactAdvanceRow, standIns := [], harness := (true, "938035ed7b55b8cfbb261b7a8f2e885c7e9dee2290bd8a9649edb1ad5bb2369e"), looks := true }, kinds := [], alts := [], laidByText := true, laidKinds := [.data, .pinned], laidTests := true, laidLooks := .later }
def FnExactAdvanceCardSaid : Prop := Claim7.holds Tryz.pinned (.plain (OpenSpec.ofChange fnExactAdvanceSpec)) fnExactAdvanceCard

/-- THE TIED CARD OF 'laws.FnExactTell'. -/
def fnExactTellCard : Claim7 := { stood := { row := fnExactTellRow, standIns := [], harness := (true, "938035ed7b55b8cfbb261b7a8f2e885c7e9dee2290bd8a9649edb1ad5bb2369e"), looks := true }, kinds := [], alts := [], laidByText := true, laidKinds := [.data, .pinned], laidTests := true, laidLooks := .later }
def FnExactTellCardSaid : Prop := Claim7.holds Tryz.pinned (.plain (OpenSpec.ofChange fnExactTellSpec)) fnExactTellCard

/-- THE TIED CARD OF 'laws.FnExactReplayed'. -/
def fnExactReplayedCard : Claim7 := { stood := { row := fnExactReplayedRow, standIns := [], harness := (true, "938035ed7b55b8cfbb261b7a8f2e885c7e9dee2290bd8a9649edb1ad5bb2369e"), looks := true }, kinds := [], alts := [], laidByText := true, laidKinds := [.data, .pinned], laidTests := true, laidLooks := .later }
def FnExactReplayedCardSaid : Prop := Claim7.holds Tryz.pinned (.plain (OpenSpec.ofChange fnExactReplayedSpec)) fnExactReplayedCard

/-- THE TIED CARD OF 'laws.FnExactCleanUpTo'. -/
def fnExactCleanUpToCard : Claim7 := { stood := { row := fnExactCleanUpToRow, standIns := [], harness := (true, "938035ed7b55b8cfbb261b7a8f2e885c7e9dee2290bd8a9649edb1ad5bb2369e"), looks := true }, kinds := [], alts := [], laidByText := true, laidKinds := [.data, .pinned], laidTests := true, laidLooks := .later }
def FnExactCleanUpToCardSaid : Prop := Claim7.holds Tryz.pinned (.plain (OpenSpec.ofChange fnExactCleanUpToSpec)) fnExactCleanUpToCard

/-- THE SECOND FORM's CARD OF 'laws.FnWorldWhole'. -/
def fnWorldWholeUptoCard : Claim7 := { stood := { row := fnWorldWholeUptoRow, standIns := [], harness := (true, "938035ed7b55b8cfbb261b7a8f2e885c7e9dee2290bd8a9649edb1ad5bb2369e"), looks := true }, kinds := [], alts := [], laidByText := true, laidKinds := [.data, .pinned], laidTests := true, laidLooks := .later }
def FnWorldWholeUptoCardSaid : Prop := Claim7.holds Tryz.pinned (.plain (OpenSpec.upto fnWorldWholeSpec)) fnWorldWholeUptoCard

/-- THE SECOND FORM's CARD OF 'laws.FnExactFaultyStep'. -/
def fnExactFaultyStepUptoCard : Claim7 := { stood := { row := fnExactFaultyStepUptoRow, standIns := [], harness := (true, "938035ed7b55b8cfbb261b7a8f2e885c7e9dee2290bd8a9649edb1ad5bb2369e"), looks := true }, kinds := [], alts := [], laidByText := true, laidKinds := [.data, .pinned], laidTests := true, laidLooks := .later }
def FnExactFaultyStepUptoCardSaid : Prop := Claim7.holds Tryz.pinned (.plain (OpenSpec.upto fnExactFaultyStepSpec)) fnExactFaultyStepUptoCard

/-- THE SECOND FORM's CARD OF 'laws.FnExactNewPeer'. -/
def fnExactNewPeerUptoCard : Claim7 := { stood := { row := fnExactNewPeerUptoRow, standIns := [], harness := (true, "938035ed7b55b8cfbb261b7a8f2e885c7e9dee2290bd8a9649edb1ad5bb2369e"), looks := true }, kinds := [], alts := [], laidByText := true, laidKinds := [.data, .pinned], laidTests := true, laidLooks := .later }
def FnExactNewPeerUptoCardSaid : Prop := Claim7.holds Tryz.pinned (.plain (OpenSpec.upto fnExactNewPeerSpec)) fnExactNewPeerUptoCard

/-- THE SECOND FORM's CARD OF 'laws.FnExactPressInput'. -/
def fnExactPressInputUptoCard : Claim7 := { stood := { row := fnExactPressInputUptoRow, standIns := [], harness := (true, "938035ed7b55b8cfbb261b7a8f2e885c7e9dee2290bd8a9649edb1ad5bb2369e"), looks := true }, kinds := [], alts := [], laidByText := true, laidKinds := [.data, .pinned], laidTests := true, laidLooks := .later }
def FnExactPressInputUptoCardSaid : Prop := Claim7.holds Tryz.pinned (.plain (OpenSpec.upto fnExactPressInputSpec)) fnExactPressInputUptoCard

/-- THE SECOND FORM's CARD OF 'laws.FnExactAdvance'. -/
def fnExactAdvanceUptoCard : Claim7 := { stood := { row := fnExactAdvanceUptoRow, standIns := [], harness := (true, "938035ed7b55b8cfbb261b7a8f2e885c7e9dee2290bd8a9649edb1ad5bb2369e"), looks := true }, kinds := [], alts := [], laidByText := true, laidKinds := [.data, .pinned], laidTests := true, laidLooks := .later }
def FnExactAdvanceUptoCardSaid : Prop := Claim7.holds Tryz.pinned (.plain (OpenSpec.upto fnExactAdvanceSpec)) fnExactAdvanceUptoCard

/-- THE SECOND FORM's CARD OF 'laws.FnExactTell'. -/
def fnExactTellUptoCard : Claim7 := { stood := { row := fnExactTellUptoRow, standIns := [], harness := (true, "938035ed7b55b8cfbb261b7a8f2e885c7e9dee2290bd8a9649edb1ad5bb2369e"), looks := true }, kinds := [], alts := [], laidByText := true, laidKinds := [.data, .pinned], laidTests := true, laidLooks := .later }
def FnExactTellUptoCardSaid : Prop := Claim7.holds Tryz.pinned (.plain (OpenSpec.upto fnExactTellSpec)) fnExactTellUptoCard

/-- THE SECOND FORM's CARD OF 'laws.FnExactReplayed'. -/
def fnExactReplayedUptoCard : Claim7 := { stood := { row := fnExactReplayedUptoRow, standIns := [], harness := (true, "938035ed7b55b8cfbb261b7a8f2e885c7e9dee2290bd8a9649edb1ad5bb2369e"), looks := true }, kinds := [], alts := [], laidByText := true, laidKinds := [.data, .pinned], laidTests := true, laidLooks := .later }
def FnExactReplayedUptoCardSaid : Prop := Claim7.holds Tryz.pinned (.plain (OpenSpec.upto fnExactReplayedSpec)) fnExactReplayedUptoCard

/-- THE SECOND FORM's CARD OF 'laws.FnExactCleanUpTo'. -/
def fnExactCleanUpToUptoCard : Claim7 := { stood := { row := fnExactCleanUpToUptoRow, standIns := [], harness := (true, "938035ed7b55b8cfbb261b7a8f2e885c7e9dee2290bd8a9649edb1ad5bb2369e"), looks := true }, kinds := [], alts := [], laidByText := true, laidKinds := [.data, .pinned], laidTests := true, laidLooks := .later }
def FnExactCleanUpToUptoCardSaid : Prop := Claim7.holds Tryz.pinned (.plain (OpenSpec.upto fnExactCleanUpToSpec)) fnExactCleanUpToUptoCard
end Rows
end Go.Proofs.YtnlonkkbjkfkmaaGreatDoor
