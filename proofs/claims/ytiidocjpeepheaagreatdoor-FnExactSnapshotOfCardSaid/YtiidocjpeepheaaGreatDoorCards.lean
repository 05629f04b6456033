/-
  DERIVED. GIVEN WITH THE SEED: THE CARDS: each row of YtiidocjpeepheaaGreatDoorRows.lean that lists a variable, with what it lists TIED to the program's text (the seventh form; the later family's looks); each row that meets fmt, with fmt's text TOLD by the authors' own Lean function (tested against real Go, not proved from fmt's source: count such statements apart). THE CARD IS WHAT COUNTS. Prove the row's statement (the work); the ties are given (YtiidocjpeepheaaGreatDoorTie.lean); close each card by the builder's one call (the guide's Derived/Test/ToyasCard.lean, 'card_holds'). Laid BY PROGRAM, IN A SANDBOX (cutbox-door.mjs). By AI agents, Wed Nov 11 2026. No macro, syntax, notation, axiom, sorry.
-/
import Derived.Test.YtiidocjpeepheaaGreatDoorRows
import GoSem.ClaimSeven
namespace Go.Proofs.YtiidocjpeepheaaGreatDoor
namespace Rows

/-- THE TIED CARD OF 'laws.FnExactCanAdvance'. -/
def fnExactCanAdvanceCard : Claim7 := { stood := { row := fnExactCanAdvanceRow, standIns := [], harness := (true, "e6d3a83cb7c6fe44d40dc871e2ed1073138157aa6e5824574941a52e827953db"), looks := false }, kinds := [], alts := [], laidByText := true, laidKinds := [.data, .pinned], laidTests := true, laidLooks := .later }
def FnExactCanAdvanceCardSaid : Prop := Claim7.holds Tryz.pinned (.plain (OpenSpec.ofChange fnExactCanAdvanceSpec)) fnExactCanAdvanceCard

/-- THE TIED CARD OF 'laws.FnExactLeadOf'. -/
def fnExactLeadOfCard : Claim7 := { stood := { row := fnExactLeadOfRow, standIns := [], harness := (true, "e6d3a83cb7c6fe44d40dc871e2ed1073138157aa6e5824574941a52e827953db"), looks := false }, kinds := [], alts := [], laidByText := true, laidKinds := [.data, .pinned], laidTests := true, laidLooks := .later }
def FnExactLeadOfCardSaid : Prop := Claim7.holds Tryz.pinned (.plain (OpenSpec.ofChange fnExactLeadOfSpec)) fnExactLeadOfCard

/-- THE TIED CARD OF 'laws.FnExactFirstWrong'. -/
def fnExactFirstWrongCard : Claim7 := { stood := { row := fnExactFirstWrongRow, standIns := [], harness := (true, "e6d3a83cb7c6fe44d40dc871e2ed1073138157aa6e5824574941a52e827953db"), looks := false }, kinds := [], alts := [], laidByText := true, laidKinds := [.data, .pinned], laidTests := true, laidLooks := .later }
def FnExactFirstWrongCardSaid : Prop := Claim7.holds Tryz.pinned (.plain (OpenSpec.ofChange fnExactFirstWrongSpec)) fnExactFirstWrongCard

/-- THE TIED CARD OF 'laws.FnExactSuspects'. -/
def fnExactSuspectsCard : Claim7 := { stood := { row := fnExactSuspectsRow, standIns := [], harness := (true, "e6d3a83cb7c6fe44d40dc871e2ed1073138157aa6e5824574941a52e827953db"), looks := false }, kinds := [], alts := [], laidByText := true, laidKinds := [.data, .pinned], laidTests := true, laidLooks := .later }
def FnExactSuspectsCardSaid : Prop := Claim7.holds Tryz.pinned (.plain (OpenSpec.ofChange fnExactSuspectsSpec)) fnExactSuspectsCard

/-- THE TIED CARD OF 'laws.FnExactSnapshotOf'. -/
def fnExactSnapshotOfCard : Claim7 := { stood := { row := fnExactSnapshotOfRow, standIns := [], harness := (true, "e6d3a83cb7c6fe44d40dc871e2ed1073138157aa6e5824574941a52e827953db"), looks := false }, kinds := [], alts := [], laidByText := true, laidKinds := [.data, .pinned], laidTests := true, laidLooks := .later }
def FnExactSnapshotOfCardSaid : Prop := Claim7.holds Tryz.pinned (.plain (OpenSpec.ofChange fnExactSnapshotOfSpec)) fnExactSnapshotOfCard

/-- THE SECOND FORM's CARD OF 'laws.FnExactCanAdvance'. -/
def fnExactCanAdvanceUptoCard : Claim7 := { stood := { row := fnExactCanAdvanceUptoRow, standIns := [], harness := (true, "e6d3a83cb7c6fe44d40dc871e2ed1073138157aa6e5824574941a52e827953db"), looks := false }, kinds := [], alts := [], laidByText := true, laidKinds := [.data, .pinned], laidTests := true, laidLooks := .later }
def FnExactCanAdvanceUptoCardSaid : Prop := Claim7.holds Tryz.pinned (.plain (OpenSpec.upto fnExactCanAdvanceSpec)) fnExactCanAdvanceUptoCard

/-- THE SECOND FORM's CARD OF 'laws.FnExactLeadOf'. -/
def fnExactLeadOfUptoCard : Claim7 := { stood := { row := fnExactLeadOfUptoRow, standIns := [], harness := (true, "e6d3a83cb7c6fe44d40dc871e2ed1073138157aa6e5824574941a52e827953db"), looks := false }, kinds := [], alts := [], laidByText := true, laidKinds := [.data, .pinned], laidTests := true, laidLooks := .later }
def FnExactLeadOfUptoCardSaid : Prop := Claim7.holds Tryz.pinned (.plain (OpenSpec.upto fnExactLeadOfSpec)) fnExactLeadOfUptoCard

/-- THE SECOND FORM's CARD OF 'laws.FnExactFirstWrong'. -/
def fnExactFirstWrongUptoCard : Claim7 := { stood := { row := fnExactFirstWrongUptoRow, standIns := [], harness := (true, "e6d3a83cb7c6fe44d40dc871e2ed1073138157aa6e5824574941a52e827953db"), looks := false }, kinds := [], alts := [], laidByText := true, laidKinds := [.data, .pinned], laidTests := true, laidLooks := .later }
def FnExactFirstWrongUptoCardSaid : Prop := Claim7.holds Tryz.pinned (.plain (OpenSpec.upto fnExactFirstWrongSpec)) fnExactFirstWrongUptoCard

/-- THE SECOND FORM's CARD OF 'laws.FnExactSuspects'. -/
def fnExactSuspectsUptoCard : Claim7 := { stood := { row := fnExactSuspectsUptoRow, standIns := [], harness := (true, "e6d3a83cb7c6fe44d40dc871e2ed1073138157aa6e5824574941a52e827953db"), looks := false }, kinds := [], alts := [], laidByText := true, laidKinds := [.data, .pinned], laidTests := true, laidLooks := .later }
def FnExactSuspectsUptoCardSaid : Prop := Claim7.holds Tryz.pinned (.plain (OpenSpec.upto fnExactSuspectsSpec)) fnExactSuspectsUptoCard

/-- THE SECOND FORM's CARD OF 'laws.FnExactSnapshotOf'. -/
def fnExactSnapshotOfUptoCard : Claim7 := { stood := { row := fnExactSnapshotOfUptoRow, standIns := [], harness := (true, "e6d3a83cb7c6fe44d40dc871e2ed1073138157aa6e5824574941a52e827953db"), looks := false }, kinds := [], alts := [], laidByText := true, laidKinds := [.data, .pinned], laidTests := true, laidLooks := .later }
def FnExactSnapshotOfUptoCardSaid : Prop := Claim7.holds Tryz.pinned (.plain (OpenSpec.upto fnExactSnapshotOfSpec)) fnExactSnapshotOfUptoCard
end Rows
end Go.Proofs.YtiidocjpeepheaaGreatDoor
