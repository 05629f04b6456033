/-
  DERIVED. GIVEN WITH THE SEED: THE CARDS: each row of YthnjfafeiichgaaDoorRows.lean that lists a variable, with what it lists TIED to the program's text (the seventh form; the later family's looks); each row that meets fmt, with fmt's text TOLD by the authors' own Lean function (tested against real Go, not proved from fmt's source: count such statements apart). THE CARD IS WHAT COUNTS. Prove the row's statement (the work); the ties are given (YthnjfafeiichgaaDoorTie.lean); close each card by the builder's one call (the guide's Derived/Test/ToyasCard.lean, 'card_holds'). Laid BY PROGRAM, IN A SANDBOX (cutbox-door.mjs). By AI agents, Wed Nov 11 2026. No macro, syntax, notation, axiom, sorry.
-/
import Derived.Test.YthnjfafeiichgaaDoorRows
import GoSem.ClaimSeven
namespace Go.Proofs.YthnjfafeiichgaaDoor
namespace Rows

/-- THE TIED CARD OF 'laws.FnLevels'. -/
def fnLevelsCard : Claim7 := { stood := { row := fnLevelsRow, standIns := [], harness := (true, "13fb5c2b2b5e53be7fa17144069ed91d79e514ab54f1051678fc3e114ef0a963"), looks := true }, kinds := [], alts := [], laidByText := true, laidKinds := [.data, .pinned], laidTests := true, laidLooks := .later }
def FnLevelsCardSaid : Prop := Claim7.holds Tryd.pinned (.plain (OpenSpec.ofChange fnLevelsSpec)) fnLevelsCard

/-- THE TIED CARD OF 'laws.FnMoves'. -/
def fnMovesCard : Claim7 := { stood := { row := fnMovesRow, standIns := [], harness := (true, "13fb5c2b2b5e53be7fa17144069ed91d79e514ab54f1051678fc3e114ef0a963"), looks := true }, kinds := [], alts := [], laidByText := true, laidKinds := [.data, .pinned], laidTests := true, laidLooks := .later }
def FnMovesCardSaid : Prop := Claim7.holds Tryd.pinned (.plain (OpenSpec.ofChange fnMovesSpec)) fnMovesCard

/-- THE TIED CARD OF 'laws.FnWorldStays'. -/
def fnWorldStaysCard : Claim7 := { stood := { row := fnWorldStaysRow, standIns := [], harness := (true, "13fb5c2b2b5e53be7fa17144069ed91d79e514ab54f1051678fc3e114ef0a963"), looks := true }, kinds := [], alts := [], laidByText := true, laidKinds := [.data, .pinned], laidTests := true, laidLooks := .later }
def FnWorldStaysCardSaid : Prop := Claim7.holds Tryd.pinned (.plain (OpenSpec.ofChange fnWorldStaysSpec)) fnWorldStaysCard

/-- THE TIED CARD OF 'laws.FnIdle'. -/
def fnIdleCard : Claim7 := { stood := { row := fnIdleRow, standIns := [], harness := (true, "13fb5c2b2b5e53be7fa17144069ed91d79e514ab54f1051678fc3e114ef0a963"), looks := true }, kinds := [], alts := [], laidByText := true, laidKinds := [.data, .pinned], laidTests := true, laidLooks := .later }
def FnIdleCardSaid : Prop := Claim7.holds Tryd.pinned (.plain (OpenSpec.ofChange fnIdleSpec)) fnIdleCard

/-- THE TIED CARD OF 'laws.FnSteered'. -/
def fnSteeredCard : Claim7 := { stood := { row := fnSteeredRow, standIns := [], harness := (true, "13fb5c2b2b5e53be7fa17144069ed91d79e514ab54f1051678fc3e114ef0a963"), looks := true }, kinds := [], alts := [], laidByText := true, laidKinds := [.data, .pinned], laidTests := true, laidLooks := .later }
def FnSteeredCardSaid : Prop := Claim7.holds Tryd.pinned (.plain (OpenSpec.ofChange fnSteeredSpec)) fnSteeredCard

/-- THE TIED CARD OF 'laws.FnExactLevelOk'. -/
def fnExactLevelOkCard : Claim7 := { stood := { row := fnExactLevelOkRow, standIns := [], harness := (true, "13fb5c2b2b5e53be7fa17144069ed91d79e514ab54f1051678fc3e114ef0a963"), looks := true }, kinds := [], alts := [], laidByText := true, laidKinds := [.data, .pinned], laidTests := true, laidLooks := .later }
def FnExactLevelOkCardSaid : Prop := Claim7.holds Tryd.pinned (.plain (OpenSpec.ofChange fnExactLevelOkSpec)) fnExactLevelOkCard

/-- THE TIED CARD OF 'laws.FnExactFormatLevel'. -/
def fnExactFormatLevelCard : Claim7 := { stood := { row := fnExactFormatLevelRow, standIns := [], harness := (true, "13fb5c2b2b5e53be7fa17144069ed91d79e514ab54f1051678fc3e114ef0a963"), looks := true }, kinds := [], alts := [], laidByText := true, laidKinds := [.data, .pinned], laidTests := true, laidLooks := .later }
def FnExactFormatLevelCardSaid : Prop := Claim7.holds Tryd.pinned (.plain (OpenSpec.ofChange fnExactFormatLevelSpec)) fnExactFormatLevelCard

/-- THE TIED CARD OF 'laws.FnExactParseLevel'. -/
def fnExactParseLevelCard : Claim7 := { stood := { row := fnExactParseLevelRow, standIns := [], harness := (true, "13fb5c2b2b5e53be7fa17144069ed91d79e514ab54f1051678fc3e114ef0a963"), looks := true }, kinds := [], alts := [], laidByText := true, laidKinds := [.data, .pinned], laidTests := true, laidLooks := .later }
def FnExactParseLevelCardSaid : Prop := Claim7.holds Tryd.pinned (.plain (OpenSpec.ofChange fnExactParseLevelSpec)) fnExactParseLevelCard

/-- THE TIED CARD OF 'laws.FnExactStartOf'. -/
def fnExactStartOfCard : Claim7 := { stood := { row := fnExactStartOfRow, standIns := [], harness := (true, "13fb5c2b2b5e53be7fa17144069ed91d79e514ab54f1051678fc3e114ef0a963"), looks := true }, kinds := [], alts := [], laidByText := true, laidKinds := [.data, .pinned], laidTests := true, laidLooks := .later }
def FnExactStartOfCardSaid : Prop := Claim7.holds Tryd.pinned (.plain (OpenSpec.ofChange fnExactStartOfSpec)) fnExactStartOfCard

/-- THE TIED CARD OF 'laws.FnExactSpotsOf'. -/
def fnExactSpotsOfCard : Claim7 := { stood := { row := fnExactSpotsOfRow, standIns := [], harness := (true, "13fb5c2b2b5e53be7fa17144069ed91d79e514ab54f1051678fc3e114ef0a963"), looks := true }, kinds := [], alts := [], laidByText := true, laidKinds := [.data, .pinned], laidTests := true, laidLooks := .later }
def FnExactSpotsOfCardSaid : Prop := Claim7.holds Tryd.pinned (.plain (OpenSpec.ofChange fnExactSpotsOfSpec)) fnExactSpotsOfCard

/-- THE TIED CARD OF 'laws.FnExactSolidAt'. -/
def fnExactSolidAtCard : Claim7 := { stood := { row := fnExactSolidAtRow, standIns := [], harness := (true, "13fb5c2b2b5e53be7fa17144069ed91d79e514ab54f1051678fc3e114ef0a963"), looks := true }, kinds := [], alts := [], laidByText := true, laidKinds := [.data, .pinned], laidTests := true, laidLooks := .later }
def FnExactSolidAtCardSaid : Prop := Claim7.holds Tryd.pinned (.plain (OpenSpec.ofChange fnExactSolidAtSpec)) fnExactSolidAtCard

/-- THE SECOND FORM's CARD OF 'laws.FnLevels'. -/
def fnLevelsUptoCard : Claim7 := { stood := { row := fnLevelsUptoRow, standIns := [], harness := (true, "13fb5c2b2b5e53be7fa17144069ed91d79e514ab54f1051678fc3e114ef0a963"), looks := true }, kinds := [], alts := [], laidByText := true, laidKinds := [.data, .pinned], laidTests := true, laidLooks := .later }
def FnLevelsUptoCardSaid : Prop := Claim7.holds Tryd.pinned (.plain (OpenSpec.upto fnLevelsSpec)) fnLevelsUptoCard

/-- THE SECOND FORM's CARD OF 'laws.FnMoves'. -/
def fnMovesUptoCard : Claim7 := { stood := { row := fnMovesUptoRow, standIns := [], harness := (true, "13fb5c2b2b5e53be7fa17144069ed91d79e514ab54f1051678fc3e114ef0a963"), looks := true }, kinds := [], alts := [], laidByText := true, laidKinds := [.data, .pinned], laidTests := true, laidLooks := .later }
def FnMovesUptoCardSaid : Prop := Claim7.holds Tryd.pinned (.plain (OpenSpec.upto fnMovesSpec)) fnMovesUptoCard

/-- THE SECOND FORM's CARD OF 'laws.FnWorldStays'. -/
def fnWorldStaysUptoCard : Claim7 := { stood := { row := fnWorldStaysUptoRow, standIns := [], harness := (true, "13fb5c2b2b5e53be7fa17144069ed91d79e514ab54f1051678fc3e114ef0a963"), looks := true }, kinds := [], alts := [], laidByText := true, laidKinds := [.data, .pinned], laidTests := true, laidLooks := .later }
def FnWorldStaysUptoCardSaid : Prop := Claim7.holds Tryd.pinned (.plain (OpenSpec.upto fnWorldStaysSpec)) fnWorldStaysUptoCard

/-- THE SECOND FORM's CARD OF 'laws.FnIdle'. -/
def fnIdleUptoCard : Claim7 := { stood := { row := fnIdleUptoRow, standIns := [], harness := (true, "13fb5c2b2b5e53be7fa17144069ed91d79e514ab54f1051678fc3e114ef0a963"), looks := true }, kinds := [], alts := [], laidByText := true, laidKinds := [.data, .pinned], laidTests := true, laidLooks := .later }
def FnIdleUptoCardSaid : Prop := Claim7.holds Tryd.pinned (.plain (OpenSpec.upto fnIdleSpec)) fnIdleUptoCard

/-- THE SECOND FORM's CARD OF 'laws.FnSteered'. -/
def fnSteeredUptoCard : Claim7 := { stood := { row := fnSteeredUptoRow, standIns := [], harness := (true, "13fb5c2b2b5e53be7fa17144069ed91d79e514ab54f1051678fc3e114ef0a963"), looks := true }, kinds := [], alts := [], laidByText := true, laidKinds := [.data, .pinned], laidTests := true, laidLooks := .later }
def FnSteeredUptoCardSaid : Prop := Claim7.holds Tryd.pinned (.plain (OpenSpec.upto fnSteeredSpec)) fnSteeredUptoCard

/-- THE SECOND FORM's CARD OF 'laws.FnExactLevelOk'. -/
def fnExactLevelOkUptoCard : Claim7 := { stood := { row := fnExactLevelOkUptoRow, standIns := [], harness := (true, "13fb5c2b2b5e53be7fa17144069ed91d79e514ab54f1051678fc3e114ef0a963"), looks := true }, kinds := [], alts := [], laidByText := true, laidKinds := [.data, .pinned], laidTests := true, laidLooks := .later }
def FnExactLevelOkUptoCardSaid : Prop := Claim7.holds Tryd.pinned (.plain (OpenSpec.upto fnExactLevelOkSpec)) fnExactLevelOkUptoCard

/-- THE SECOND FORM's CARD OF 'laws.FnExactFormatLevel'. -/
def fnExactFormatLevelUptoCard : Claim7 := { stood := { row := fnExactFormatLevelUptoRow, standIns := [], harness := (true, "13fb5c2b2b5e53be7fa17144069ed91d79e514ab54f1051678fc3e114ef0a963"), looks := true }, kinds := [], alts := [], laidByText := true, laidKinds := [.data, .pinned], laidTests := true, laidLooks := .later }
def FnExactFormatLevelUptoCardSaid : Prop := Claim7.holds Tryd.pinned (.plain (OpenSpec.upto fnExactFormatLevelSpec)) fnExactFormatLevelUptoCard

/-- THE SECOND FORM's CARD OF 'laws.FnExactParseLevel'. -/
def fnExactParseLevelUptoCard : Claim7 := { stood := { row := fnExactParseLevelUptoRow, standIns := [], harness := (true, "13fb5c2b2b5e53be7fa17144069ed91d79e514ab54f1051678fc3e114ef0a963"), looks := true }, kinds := [], alts := [], laidByText := true, laidKinds := [.data, .pinned], laidTests := true, laidLooks := .later }
def FnExactParseLevelUptoCardSaid : Prop := Claim7.holds Tryd.pinned (.plain (OpenSpec.upto fnExactParseLevelSpec)) fnExactParseLevelUptoCard

/-- THE SECOND FORM's CARD OF 'laws.FnExactStartOf'. -/
def fnExactStartOfUptoCard : Claim7 := { stood := { row := fnExactStartOfUptoRow, standIns := [], harness := (true, "13fb5c2b2b5e53be7fa17144069ed91d79e514ab54f1051678fc3e114ef0a963"), looks := true }, kinds := [], alts := [], laidByText := true, laidKinds := [.data, .pinned], laidTests := true, laidLooks := .later }
def FnExactStartOfUptoCardSaid : Prop := Claim7.holds Tryd.pinned (.plain (OpenSpec.upto fnExactStartOfSpec)) fnExactStartOfUptoCard

/-- THE SECOND FORM's CARD OF 'laws.FnExactSpotsOf'. -/
def fnExactSpotsOfUptoCard : Claim7 := { stood := { row := fnExactSpotsOfUptoRow, standIns := [], harness := (true, "13fb5c2b2b5e53be7fa17144069ed91d79e514ab54f1051678fc3e114ef0a963"), looks := true }, kinds := [], alts := [], laidByText := true, laidKinds := [.data, .pinned], laidTests := true, laidLooks := .later }
def FnExactSpotsOfUptoCardSaid : Prop := Claim7.holds Tryd.pinned (.plain (OpenSpec.upto fnExactSpotsOfSpec)) fnExactSpotsOfUptoCard

/-- THE SECOND FORM's CARD OF 'laws.FnExactSolidAt'. -/
def fnExactSolidAtUptoCard : Claim7 := { stood := { row := fnExactSolidAtUptoRow, standIns := [], harness := (true, "13fb5c2b2b5e53be7fa17144069ed91d79e514ab54f1051678fc3e114ef0a963"), looks := true }, kinds := [], alts := [], laidByText := true, laidKinds := [.data, .pinned], laidTests := true, laidLooks := .later }
def FnExactSolidAtUptoCardSaid : Prop := Claim7.holds Tryd.pinned (.plain (OpenSpec.upto fnExactSolidAtSpec)) fnExactSolidAtUptoCard
end Rows
end Go.Proofs.YthnjfafeiichgaaDoor
