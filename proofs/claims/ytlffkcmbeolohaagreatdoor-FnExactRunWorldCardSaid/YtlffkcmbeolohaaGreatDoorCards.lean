/-
  DERIVED. GIVEN WITH THE SEED: THE CARDS: each row of YtlffkcmbeolohaaGreatDoorRows.lean that lists a variable, with what it lists TIED to the program's text (the seventh form; the later family's looks); each row that meets fmt, with fmt's text TOLD by the authors' own Lean function (tested against real Go, not proved from fmt's source: count such statements apart). THE CARD IS WHAT COUNTS. Prove the row's statement (the work); the ties are given (YtlffkcmbeolohaaGreatDoorTie.lean); close each card by the builder's one call (the guide's Derived/Test/ToyasCard.lean, 'card_holds'). Laid BY PROGRAM, IN A SANDBOX (cutbox-door.mjs). By AI agents, Wed Nov 11 2026. No macro, syntax, notation, axiom, sorry.
-/
import Derived.Test.YtlffkcmbeolohaaGreatDoorRows
import GoSem.ClaimSeven
namespace Go.Proofs.YtlffkcmbeolohaaGreatDoor
namespace Rows

/-- THE TIED CARD OF 'laws.FnExactStepWorld'. -/
def fnExactStepWorldCard : Claim7 := { stood := { row := fnExactStepWorldRow, standIns := [], harness := (true, "50fd23c7d4cfa608a407b64bcba2293b498645443b0355f8b53107e1638f14c7"), looks := true }, kinds := [], alts := [], laidByText := true, laidKinds := [.data, .pinned], laidTests := true, laidLooks := .later }
def FnExactStepWorldCardSaid : Prop := Claim7.holds Tryz.pinned (.plain (OpenSpec.ofChange fnExactStepWorldSpec)) fnExactStepWorldCard

/-- THE TIED CARD OF 'laws.FnExactRunWorld'. -/
def fnExactRunWorldCard : Claim7 := { stood := { row := fnExactRunWorldRow, standIns := [], harness := (true, "50fd23c7d4cfa608a407b64bcba2293b498645443b0355f8b53107e1638f14c7"), looks := true }, kinds := [], alts := [], laidByText := true, laidKinds := [.data, .pinned], laidTests := true, laidLooks := .later }
def FnExactRunWorldCardSaid : Prop := Claim7.holds Tryz.pinned (.plain (OpenSpec.ofChange fnExactRunWorldSpec)) fnExactRunWorldCard

/-- THE TIED CARD OF 'laws.FnExactFaultyStep'. -/
def fnExactFaultyStepCard : Claim7 := { stood := { row := fnExactFaultyStepRow, standIns := [], harness := (true, "50fd23c7d4cfa608a407b64bcba2293b498645443b0355f8b53107e1638f14c7"), looks := true }, kinds := [], alts := [], laidByText := true, laidKinds := [.data, .pinned], laidTests := true, laidLooks := .later }
def FnExactFaultyStepCardSaid : Prop := Claim7.holds Tryz.pinned (.plain (OpenSpec.ofChange fnExactFaultyStepSpec)) fnExactFaultyStepCard

/-- THE TIED CARD OF 'laws.FnExactPlayReplay'. -/
def fnExactPlayReplayCard : Claim7 := { stood := { row := fnExactPlayReplayRow, standIns := [], harness := (true, "50fd23c7d4cfa608a407b64bcba2293b498645443b0355f8b53107e1638f14c7"), looks := true }, kinds := [], alts := [], laidByText := true, laidKinds := [.data, .pinned], laidTests := true, laidLooks := .later }
def FnExactPlayReplayCardSaid : Prop := Claim7.holds Tryz.pinned (.plain (OpenSpec.ofChange fnExactPlayReplaySpec)) fnExactPlayReplayCard

/-- THE TIED CARD OF 'laws.FnExactFeedRows'. -/
def fnExactFeedRowsCard : Claim7 := { stood := { row := fnExactFeedRowsRow, standIns := [], harness := (true, "50fd23c7d4cfa608a407b64bcba2293b498645443b0355f8b53107e1638f14c7"), looks := true }, kinds := [], alts := [], laidByText := true, laidKinds := [.data, .pinned], laidTests := true, laidLooks := .later }
def FnExactFeedRowsCardSaid : Prop := Claim7.holds Tryz.pinned (.plain (OpenSpec.ofChange fnExactFeedRowsSpec)) fnExactFeedRowsCard

/-- THE SECOND FORM's CARD OF 'laws.FnExactStepWorld'. -/
def fnExactStepWorldUptoCard : Claim7 := { stood := { row := fnExactStepWorldUptoRow, standIns := [], harness := (true, "50fd23c7d4cfa608a407b64bcba2293b498645443b0355f8b53107e1638f14c7"), looks := true }, kinds := [], alts := [], laidByText := true, laidKinds := [.data, .pinned], laidTests := true, laidLooks := .later }
def FnExactStepWorldUptoCardSaid : Prop := Claim7.holds Tryz.pinned (.plain (OpenSpec.upto fnExactStepWorldSpec)) fnExactStepWorldUptoCard

/-- THE SECOND FORM's CARD OF 'laws.FnExactRunWorld'. -/
def fnExactRunWorldUptoCard : Claim7 := { stood := { row := fnExactRunWorldUptoRow, standIns := [], harness := (true, "50fd23c7d4cfa608a407b64bcba2293b498645443b0355f8b53107e1638f14c7"), looks := true }, kinds := [], alts := [], laidByText := true, laidKinds := [.data, .pinned], laidTests := true, laidLooks := .later }
def FnExactRunWorldUptoCardSaid : Prop := Claim7.holds Tryz.pinned (.plain (OpenSpec.upto fnExactRunWorldSpec)) fnExactRunWorldUptoCard

/-- THE SECOND FORM's CARD OF 'laws.FnExactFaultyStep'. -/
def fnExactFaultyStepUptoCard : Claim7 := { stood := { row := fnExactFaultyStepUptoRow, standIns := [], harness := (true, "50fd23c7d4cfa608a407b64bcba2293b498645443b0355f8b53107e1638f14c7"), looks := true }, kinds := [], alts := [], laidByText := true, laidKinds := [.data, .pinned], laidTests := true, laidLooks := .later }
def FnExactFaultyStepUptoCardSaid : Prop := Claim7.holds Tryz.pinned (.plain (OpenSpec.upto fnExactFaultyStepSpec)) fnExactFaultyStepUptoCard

/-- THE SECOND FORM's CARD OF 'laws.FnExactPlayReplay'. -/
def fnExactPlayReplayUptoCard : Claim7 := { stood := { row := fnExactPlayReplayUptoRow, standIns := [], harness := (true, "50fd23c7d4cfa608a407b64bcba2293b498645443b0355f8b53107e1638f14c7"), looks := true }, kinds := [], alts := [], laidByText := true, laidKinds := [.data, .pinned], laidTests := true, laidLooks := .later }
def FnExactPlayReplayUptoCardSaid : Prop := Claim7.holds Tryz.pinned (.plain (OpenSpec.upto fnExactPlayReplaySpec)) fnExactPlayReplayUptoCard

/-- THE SECOND FORM's CARD OF 'laws.FnExactFeedRows'. -/
def fnExactFeedRowsUptoCard : Claim7 := { stood := { row := fnExactFeedRowsUptoRow, standIns := [], harness := (true, "50fd23c7d4cfa608a407b64bcba2293b498645443b0355f8b53107e1638f14c7"), looks := true }, kinds := [], alts := [], laidByText := true, laidKinds := [.data, .pinned], laidTests := true, laidLooks := .later }
def FnExactFeedRowsUptoCardSaid : Prop := Claim7.holds Tryz.pinned (.plain (OpenSpec.upto fnExactFeedRowsSpec)) fnExactFeedRowsUptoCard
end Rows
end Go.Proofs.YtlffkcmbeolohaaGreatDoor
