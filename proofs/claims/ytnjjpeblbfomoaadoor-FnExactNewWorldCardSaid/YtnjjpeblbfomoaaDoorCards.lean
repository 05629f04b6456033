/-
  DERIVED. GIVEN WITH THE SEED: THE CARDS: each row of YtnjjpeblbfomoaaDoorRows.lean that lists a variable, with what it lists TIED to the program's text (the seventh form; the later family's looks); each row that meets fmt, with fmt's text TOLD by the authors' own Lean function (tested against real Go, not proved from fmt's source: count such statements apart). THE CARD IS WHAT COUNTS. Prove the row's statement (the work); the ties are given (YtnjjpeblbfomoaaDoorTie.lean); close each card by the builder's one call (the guide's Derived/Test/ToyasCard.lean, 'card_holds'). Laid BY PROGRAM, IN A SANDBOX (cutbox-door.mjs). By AI agents, Wed Nov 11 2026. No macro, syntax, notation, axiom, sorry.
-/
import Derived.Test.YtnjjpeblbfomoaaDoorRows
import GoSem.ClaimSeven
namespace Go.Proofs.YtnjjpeblbfomoaaDoor
namespace Rows

/-- THE TIED CARD OF 'laws.FnExactDecodePacket'. -/
def fnExactDecodePacketCard : Claim7 := { stood := { row := fnExactDecodePacketRow, standIns := [], harness := (true, "9e449cfa54d1fbf588890e92ac37c74f057c8caf70614262be87b60c27b2f416"), looks := true }, kinds := [], alts := [], laidByText := true, laidKinds := [.sentinel], laidTests := true, laidLooks := .later }
def FnExactDecodePacketCardSaid : Prop := Claim7.holds Tryd.pinned (.plain (OpenSpec.ofChange fnExactDecodePacketSpec)) fnExactDecodePacketCard

/-- THE TIED CARD OF 'laws.FnExactWorldOk'. -/
def fnExactWorldOkCard : Claim7 := { stood := { row := fnExactWorldOkRow, standIns := [], harness := (true, "9e449cfa54d1fbf588890e92ac37c74f057c8caf70614262be87b60c27b2f416"), looks := true }, kinds := [], alts := [], laidByText := true, laidKinds := [.data, .pinned], laidTests := true, laidLooks := .later }
def FnExactWorldOkCardSaid : Prop := Claim7.holds Tryd.pinned (.plain (OpenSpec.ofChange fnExactWorldOkSpec)) fnExactWorldOkCard

/-- THE TIED CARD OF 'laws.FnExactWorldBytes'. -/
def fnExactWorldBytesCard : Claim7 := { stood := { row := fnExactWorldBytesRow, standIns := [], harness := (true, "9e449cfa54d1fbf588890e92ac37c74f057c8caf70614262be87b60c27b2f416"), looks := true }, kinds := [], alts := [], laidByText := true, laidKinds := [.data, .pinned], laidTests := true, laidLooks := .later }
def FnExactWorldBytesCardSaid : Prop := Claim7.holds Tryd.pinned (.plain (OpenSpec.ofChange fnExactWorldBytesSpec)) fnExactWorldBytesCard

/-- THE TIED CARD OF 'laws.FnExactWorldSum'. -/
def fnExactWorldSumCard : Claim7 := { stood := { row := fnExactWorldSumRow, standIns := [], harness := (true, "9e449cfa54d1fbf588890e92ac37c74f057c8caf70614262be87b60c27b2f416"), looks := true }, kinds := [], alts := [], laidByText := true, laidKinds := [.data, .pinned], laidTests := true, laidLooks := .later }
def FnExactWorldSumCardSaid : Prop := Claim7.holds Tryd.pinned (.plain (OpenSpec.ofChange fnExactWorldSumSpec)) fnExactWorldSumCard

/-- THE TIED CARD OF 'laws.FnExactNewWorld'. -/
def fnExactNewWorldCard : Claim7 := { stood := { row := fnExactNewWorldRow, standIns := [], harness := (true, "9e449cfa54d1fbf588890e92ac37c74f057c8caf70614262be87b60c27b2f416"), looks := true }, kinds := [], alts := [], laidByText := true, laidKinds := [.data, .pinned], laidTests := true, laidLooks := .later }
def FnExactNewWorldCardSaid : Prop := Claim7.holds Tryd.pinned (.plain (OpenSpec.ofChange fnExactNewWorldSpec)) fnExactNewWorldCard

/-- THE TIED CARD OF 'laws.FnLevels'. -/
def fnLevelsCard : Claim7 := { stood := { row := fnLevelsRow, standIns := [], harness := (true, "9e449cfa54d1fbf588890e92ac37c74f057c8caf70614262be87b60c27b2f416"), looks := true }, kinds := [], alts := [], laidByText := true, laidKinds := [.data, .pinned], laidTests := true, laidLooks := .later }
def FnLevelsCardSaid : Prop := Claim7.holds Tryd.pinned (.plain (OpenSpec.ofChange fnLevelsSpec)) fnLevelsCard

/-- THE SECOND FORM's CARD OF 'laws.FnExactDecodePacket'. -/
def fnExactDecodePacketUptoCard : Claim7 := { stood := { row := fnExactDecodePacketUptoRow, standIns := [], harness := (true, "9e449cfa54d1fbf588890e92ac37c74f057c8caf70614262be87b60c27b2f416"), looks := true }, kinds := [], alts := [], laidByText := true, laidKinds := [.sentinel], laidTests := true, laidLooks := .later }
def FnExactDecodePacketUptoCardSaid : Prop := Claim7.holds Tryd.pinned (.plain (OpenSpec.upto fnExactDecodePacketSpec)) fnExactDecodePacketUptoCard

/-- THE SECOND FORM's CARD OF 'laws.FnExactWorldOk'. -/
def fnExactWorldOkUptoCard : Claim7 := { stood := { row := fnExactWorldOkUptoRow, standIns := [], harness := (true, "9e449cfa54d1fbf588890e92ac37c74f057c8caf70614262be87b60c27b2f416"), looks := true }, kinds := [], alts := [], laidByText := true, laidKinds := [.data, .pinned], laidTests := true, laidLooks := .later }
def FnExactWorldOkUptoCardSaid : Prop := Claim7.holds Tryd.pinned (.plain (OpenSpec.upto fnExactWorldOkSpec)) fnExactWorldOkUptoCard

/-- THE SECOND FORM's CARD OF 'laws.FnExactWorldBytes'. -/
def fnExactWorldBytesUptoCard : Claim7 := { stood := { row := fnExactWorldBytesUptoRow, standIns := [], harness := (true, "9e449cfa54d1fbf588890e92ac37c74f057c8caf70614262be87b60c27b2f416"), looks := true }, kinds := [], alts := [], laidByText := true, laidKinds := [.data, .pinned], laidTests := true, laidLooks := .later }
def FnExactWorldBytesUptoCardSaid : Prop := Claim7.holds Tryd.pinned (.plain (OpenSpec.upto fnExactWorldBytesSpec)) fnExactWorldBytesUptoCard

/-- THE SECOND FORM's CARD OF 'laws.FnExactWorldSum'. -/
def fnExactWorldSumUptoCard : Claim7 := { stood := { row := fnExactWorldSumUptoRow, standIns := [], harness := (true, "9e449cfa54d1fbf588890e92ac37c74f057c8caf70614262be87b60c27b2f416"), looks := true }, kinds := [], alts := [], laidByText := true, laidKinds := [.data, .pinned], laidTests := true, laidLooks := .later }
def FnExactWorldSumUptoCardSaid : Prop := Claim7.holds Tryd.pinned (.plain (OpenSpec.upto fnExactWorldSumSpec)) fnExactWorldSumUptoCard

/-- THE SECOND FORM's CARD OF 'laws.FnExactNewWorld'. -/
def fnExactNewWorldUptoCard : Claim7 := { stood := { row := fnExactNewWorldUptoRow, standIns := [], harness := (true, "9e449cfa54d1fbf588890e92ac37c74f057c8caf70614262be87b60c27b2f416"), looks := true }, kinds := [], alts := [], laidByText := true, laidKinds := [.data, .pinned], laidTests := true, laidLooks := .later }
def FnExactNewWorldUptoCardSaid : Prop := Claim7.holds Tryd.pinned (.plain (OpenSpec.upto fnExactNewWorldSpec)) fnExactNewWorldUptoCard

/-- THE SECOND FORM's CARD OF 'laws.FnLevels'. -/
def fnLevelsUptoCard : Claim7 := { stood := { row := fnLevelsUptoRow, standIns := [], harness := (true, "9e449cfa54d1fbf588890e92ac37c74f057c8caf70614262be87b60c27b2f416"), looks := true }, kinds := [], alts := [], laidByText := true, laidKinds := [.data, .pinned], laidTests := true, laidLooks := .later }
def FnLevelsUptoCardSaid : Prop := Claim7.holds Tryd.pinned (.plain (OpenSpec.upto fnLevelsSpec)) fnLevelsUptoCard
end Rows
end Go.Proofs.YtnjjpeblbfomoaaDoor
