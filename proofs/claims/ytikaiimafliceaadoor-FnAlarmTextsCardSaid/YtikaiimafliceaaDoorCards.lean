/-
  DERIVED. GIVEN WITH THE SEED: THE CARDS: each row of YtikaiimafliceaaDoorRows.lean that lists a variable, with what it lists TIED to the program's text (the seventh form; the later family's looks); each row that meets fmt, with fmt's text TOLD by the authors' own Lean function (tested against real Go, not proved from fmt's source: count such statements apart). THE CARD IS WHAT COUNTS. Prove the row's statement (the work); the ties are given (YtikaiimafliceaaDoorTie.lean); close each card by the builder's one call (the guide's Derived/Test/ToyasCard.lean, 'card_holds'). Laid BY PROGRAM, IN A SANDBOX (cutbox-door.mjs). By AI agents, Wed Nov 11 2026. No macro, syntax, notation, axiom, sorry.
-/
import Derived.Test.YtikaiimafliceaaDoorRows
import GoSem.ClaimSeven
namespace Go.Proofs.YtikaiimafliceaaDoor
namespace Rows

/-- THE TIED CARD OF 'laws.FnAlarmTexts'. -/
def fnAlarmTextsCard : Claim7 := { stood := { row := fnAlarmTextsRow, standIns := [], harness := (true, "398bcf9b3a5d719c787e2a1d05f04c93f24c9e963f900be73a6ab4a6b51423bb"), looks := true }, kinds := [], alts := [], laidByText := true, laidKinds := [.data, .data, .data, .data, .sentinel, .sentinel, .pinned], laidTests := true, laidLooks := .later }
def FnAlarmTextsCardSaid : Prop := Claim7.holds Tryd.pinned (.plain (OpenSpec.ofChange fnAlarmTextsSpec)) fnAlarmTextsCard

/-- THE TIED CARD OF 'laws.FnExactFormatAlarm'. -/
def fnExactFormatAlarmCard : Claim7 := { stood := { row := fnExactFormatAlarmRow, standIns := [], harness := (true, "398bcf9b3a5d719c787e2a1d05f04c93f24c9e963f900be73a6ab4a6b51423bb"), looks := true }, kinds := [], alts := [], laidByText := true, laidKinds := [.data, .data, .data], laidTests := true, laidLooks := .later }
def FnExactFormatAlarmCardSaid : Prop := Claim7.holds Tryd.pinned (.plain (OpenSpec.ofChange fnExactFormatAlarmSpec)) fnExactFormatAlarmCard

/-- THE TIED CARD OF 'laws.FnExactParseAlarm'. -/
def fnExactParseAlarmCard : Claim7 := { stood := { row := fnExactParseAlarmRow, standIns := [], harness := (true, "398bcf9b3a5d719c787e2a1d05f04c93f24c9e963f900be73a6ab4a6b51423bb"), looks := true }, kinds := [], alts := [], laidByText := true, laidKinds := [.data, .data, .data, .data, .sentinel, .sentinel, .pinned], laidTests := true, laidLooks := .later }
def FnExactParseAlarmCardSaid : Prop := Claim7.holds Tryd.pinned (.plain (OpenSpec.ofChange fnExactParseAlarmSpec)) fnExactParseAlarmCard

/-- THE SECOND FORM's CARD OF 'laws.FnAlarmTexts'. -/
def fnAlarmTextsUptoCard : Claim7 := { stood := { row := fnAlarmTextsUptoRow, standIns := [], harness := (true, "398bcf9b3a5d719c787e2a1d05f04c93f24c9e963f900be73a6ab4a6b51423bb"), looks := true }, kinds := [], alts := [], laidByText := true, laidKinds := [.data, .data, .data, .data, .sentinel, .sentinel, .pinned], laidTests := true, laidLooks := .later }
def FnAlarmTextsUptoCardSaid : Prop := Claim7.holds Tryd.pinned (.plain (OpenSpec.upto fnAlarmTextsSpec)) fnAlarmTextsUptoCard

/-- THE SECOND FORM's CARD OF 'laws.FnExactFormatAlarm'. -/
def fnExactFormatAlarmUptoCard : Claim7 := { stood := { row := fnExactFormatAlarmUptoRow, standIns := [], harness := (true, "398bcf9b3a5d719c787e2a1d05f04c93f24c9e963f900be73a6ab4a6b51423bb"), looks := true }, kinds := [], alts := [], laidByText := true, laidKinds := [.data, .data, .data], laidTests := true, laidLooks := .later }
def FnExactFormatAlarmUptoCardSaid : Prop := Claim7.holds Tryd.pinned (.plain (OpenSpec.upto fnExactFormatAlarmSpec)) fnExactFormatAlarmUptoCard

/-- THE SECOND FORM's CARD OF 'laws.FnExactParseAlarm'. -/
def fnExactParseAlarmUptoCard : Claim7 := { stood := { row := fnExactParseAlarmUptoRow, standIns := [], harness := (true, "398bcf9b3a5d719c787e2a1d05f04c93f24c9e963f900be73a6ab4a6b51423bb"), looks := true }, kinds := [], alts := [], laidByText := true, laidKinds := [.data, .data, .data, .data, .sentinel, .sentinel, .pinned], laidTests := true, laidLooks := .later }
def FnExactParseAlarmUptoCardSaid : Prop := Claim7.holds Tryd.pinned (.plain (OpenSpec.upto fnExactParseAlarmSpec)) fnExactParseAlarmUptoCard
end Rows
end Go.Proofs.YtikaiimafliceaaDoor
