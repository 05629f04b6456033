/-
  DERIVED. GIVEN WITH THE SEED: THE CARDS: each row of YtecimgennncjkaaDoorRows.lean that lists a variable, with what it lists TIED to the program's text (the seventh form; the later family's looks); each row that meets fmt, with fmt's text TOLD by the authors' own Lean function (tested against real Go, not proved from fmt's source: count such statements apart). THE CARD IS WHAT COUNTS. Prove the row's statement (the work); the ties are given (YtecimgennncjkaaDoorTie.lean); close each card by the builder's one call (the guide's Derived/Test/ToyasCard.lean, 'card_holds'). Laid BY PROGRAM, IN A SANDBOX (cutbox-door.mjs). By AI agents, Wed Nov 11 2026. No macro, syntax, notation, axiom, sorry.
-/
import Derived.Test.YtecimgennncjkaaDoorRows
import GoSem.ClaimSeven
namespace Go.Proofs.YtecimgennncjkaaDoor
namespace Rows

/-- THE TIED CARD OF 'laws.FnPacketBytes'. -/
def fnPacketBytesCard : Claim7 := { stood := { row := fnPacketBytesRow, standIns := [], harness := (true, "15e8da248adfcffb1c2687c941e1e1ee85dbee830328d960a7b97697d78d3f98"), looks := true }, kinds := [], alts := [], laidByText := true, laidKinds := [.sentinel], laidTests := true, laidLooks := .later }
def FnPacketBytesCardSaid : Prop := Claim7.holds Tryd.pinned (.plain (OpenSpec.ofChange fnPacketBytesSpec)) fnPacketBytesCard

/-- THE TIED CARD OF 'laws.FnExactReplayOk'. -/
def fnExactReplayOkCard : Claim7 := { stood := { row := fnExactReplayOkRow, standIns := [], harness := (true, "15e8da248adfcffb1c2687c941e1e1ee85dbee830328d960a7b97697d78d3f98"), looks := true }, kinds := [], alts := [], laidByText := true, laidKinds := [.data, .pinned], laidTests := true, laidLooks := .later }
def FnExactReplayOkCardSaid : Prop := Claim7.holds Tryd.pinned (.plain (OpenSpec.ofChange fnExactReplayOkSpec)) fnExactReplayOkCard

/-- THE TIED CARD OF 'laws.FnExactNewReplay'. -/
def fnExactNewReplayCard : Claim7 := { stood := { row := fnExactNewReplayRow, standIns := [], harness := (true, "15e8da248adfcffb1c2687c941e1e1ee85dbee830328d960a7b97697d78d3f98"), looks := true }, kinds := [], alts := [], laidByText := true, laidKinds := [.data, .pinned], laidTests := true, laidLooks := .later }
def FnExactNewReplayCardSaid : Prop := Claim7.holds Tryd.pinned (.plain (OpenSpec.ofChange fnExactNewReplaySpec)) fnExactNewReplayCard

/-- THE TIED CARD OF 'laws.FnExactCutReplay'. -/
def fnExactCutReplayCard : Claim7 := { stood := { row := fnExactCutReplayRow, standIns := [], harness := (true, "15e8da248adfcffb1c2687c941e1e1ee85dbee830328d960a7b97697d78d3f98"), looks := true }, kinds := [], alts := [], laidByText := true, laidKinds := [.data, .pinned], laidTests := true, laidLooks := .later }
def FnExactCutReplayCardSaid : Prop := Claim7.holds Tryd.pinned (.plain (OpenSpec.ofChange fnExactCutReplaySpec)) fnExactCutReplayCard

/-- THE TIED CARD OF 'laws.FnExactEncodeReplay'. -/
def fnExactEncodeReplayCard : Claim7 := { stood := { row := fnExactEncodeReplayRow, standIns := [], harness := (true, "15e8da248adfcffb1c2687c941e1e1ee85dbee830328d960a7b97697d78d3f98"), looks := true }, kinds := [], alts := [], laidByText := true, laidKinds := [.data, .pinned], laidTests := true, laidLooks := .later }
def FnExactEncodeReplayCardSaid : Prop := Claim7.holds Tryd.pinned (.plain (OpenSpec.ofChange fnExactEncodeReplaySpec)) fnExactEncodeReplayCard

/-- THE SECOND FORM's CARD OF 'laws.FnPacketBytes'. -/
def fnPacketBytesUptoCard : Claim7 := { stood := { row := fnPacketBytesUptoRow, standIns := [], harness := (true, "15e8da248adfcffb1c2687c941e1e1ee85dbee830328d960a7b97697d78d3f98"), looks := true }, kinds := [], alts := [], laidByText := true, laidKinds := [.sentinel], laidTests := true, laidLooks := .later }
def FnPacketBytesUptoCardSaid : Prop := Claim7.holds Tryd.pinned (.plain (OpenSpec.upto fnPacketBytesSpec)) fnPacketBytesUptoCard

/-- THE SECOND FORM's CARD OF 'laws.FnExactReplayOk'. -/
def fnExactReplayOkUptoCard : Claim7 := { stood := { row := fnExactReplayOkUptoRow, standIns := [], harness := (true, "15e8da248adfcffb1c2687c941e1e1ee85dbee830328d960a7b97697d78d3f98"), looks := true }, kinds := [], alts := [], laidByText := true, laidKinds := [.data, .pinned], laidTests := true, laidLooks := .later }
def FnExactReplayOkUptoCardSaid : Prop := Claim7.holds Tryd.pinned (.plain (OpenSpec.upto fnExactReplayOkSpec)) fnExactReplayOkUptoCard

/-- THE SECOND FORM's CARD OF 'laws.FnExactNewReplay'. -/
def fnExactNewReplayUptoCard : Claim7 := { stood := { row := fnExactNewReplayUptoRow, standIns := [], harness := (true, "15e8da248adfcffb1c2687c941e1e1ee85dbee830328d960a7b97697d78d3f98"), looks := true }, kinds := [], alts := [], laidByText := true, laidKinds := [.data, .pinned], laidTests := true, laidLooks := .later }
def FnExactNewReplayUptoCardSaid : Prop := Claim7.holds Tryd.pinned (.plain (OpenSpec.upto fnExactNewReplaySpec)) fnExactNewReplayUptoCard

/-- THE SECOND FORM's CARD OF 'laws.FnExactCutReplay'. -/
def fnExactCutReplayUptoCard : Claim7 := { stood := { row := fnExactCutReplayUptoRow, standIns := [], harness := (true, "15e8da248adfcffb1c2687c941e1e1ee85dbee830328d960a7b97697d78d3f98"), looks := true }, kinds := [], alts := [], laidByText := true, laidKinds := [.data, .pinned], laidTests := true, laidLooks := .later }
def FnExactCutReplayUptoCardSaid : Prop := Claim7.holds Tryd.pinned (.plain (OpenSpec.upto fnExactCutReplaySpec)) fnExactCutReplayUptoCard

/-- THE SECOND FORM's CARD OF 'laws.FnExactEncodeReplay'. -/
def fnExactEncodeReplayUptoCard : Claim7 := { stood := { row := fnExactEncodeReplayUptoRow, standIns := [], harness := (true, "15e8da248adfcffb1c2687c941e1e1ee85dbee830328d960a7b97697d78d3f98"), looks := true }, kinds := [], alts := [], laidByText := true, laidKinds := [.data, .pinned], laidTests := true, laidLooks := .later }
def FnExactEncodeReplayUptoCardSaid : Prop := Claim7.holds Tryd.pinned (.plain (OpenSpec.upto fnExactEncodeReplaySpec)) fnExactEncodeReplayUptoCard
end Rows
end Go.Proofs.YtecimgennncjkaaDoor
