/-
  DERIVED. GIVEN WITH THE SEED: THE CARDS: each row of YtjdiflomgalpdaaDoorRows.lean that lists a variable, with what it lists TIED to the program's text (the seventh form; the later family's looks); each row that meets fmt, with fmt's text TOLD by the authors' own Lean function (tested against real Go, not proved from fmt's source: count such statements apart). THE CARD IS WHAT COUNTS. Prove the row's statement (the work); the ties are given (YtjdiflomgalpdaaDoorTie.lean); close each card by the builder's one call (the guide's Derived/Test/ToyasCard.lean, 'card_holds'). Laid BY PROGRAM, IN A SANDBOX (cutbox-door.mjs). By AI agents, Wed Nov 11 2026. No macro, syntax, notation, axiom, sorry.
-/
import Derived.Test.YtjdiflomgalpdaaDoorRows
import GoSem.ClaimSeven
namespace Go.Proofs.YtjdiflomgalpdaaDoor
namespace Rows

/-- THE TIED CARD OF 'laws.FnPacketBytes'. -/
def fnPacketBytesCard : Claim7 := { stood := { row := fnPacketBytesRow, standIns := [], harness := (true, "5dba87899425fcec6c6cda0ec069293a5dad998493fef483f63b1a7145c73e85"), looks := true }, kinds := [], alts := [], laidByText := true, laidKinds := [.sentinel], laidTests := true, laidLooks := .later }
def FnPacketBytesCardSaid : Prop := Claim7.holds Tryd.pinned (.plain (OpenSpec.ofChange fnPacketBytesSpec)) fnPacketBytesCard

/-- THE TIED CARD OF 'laws.FnExactBodyOk'. -/
def fnExactBodyOkCard : Claim7 := { stood := { row := fnExactBodyOkRow, standIns := [], harness := (true, "5dba87899425fcec6c6cda0ec069293a5dad998493fef483f63b1a7145c73e85"), looks := true }, kinds := [], alts := [], laidByText := true, laidKinds := [.data, .pinned], laidTests := true, laidLooks := .later }
def FnExactBodyOkCardSaid : Prop := Claim7.holds Tryd.pinned (.plain (OpenSpec.ofChange fnExactBodyOkSpec)) fnExactBodyOkCard

/-- THE TIED CARD OF 'laws.FnExactMoveBody'. -/
def fnExactMoveBodyCard : Claim7 := { stood := { row := fnExactMoveBodyRow, standIns := [], harness := (true, "5dba87899425fcec6c6cda0ec069293a5dad998493fef483f63b1a7145c73e85"), looks := true }, kinds := [], alts := [], laidByText := true, laidKinds := [.data, .pinned], laidTests := true, laidLooks := .later }
def FnExactMoveBodyCardSaid : Prop := Claim7.holds Tryd.pinned (.plain (OpenSpec.ofChange fnExactMoveBodySpec)) fnExactMoveBodyCard

/-- THE TIED CARD OF 'laws.FnExactSteerPlayer'. -/
def fnExactSteerPlayerCard : Claim7 := { stood := { row := fnExactSteerPlayerRow, standIns := [], harness := (true, "5dba87899425fcec6c6cda0ec069293a5dad998493fef483f63b1a7145c73e85"), looks := true }, kinds := [], alts := [], laidByText := true, laidKinds := [.data, .pinned], laidTests := true, laidLooks := .later }
def FnExactSteerPlayerCardSaid : Prop := Claim7.holds Tryd.pinned (.plain (OpenSpec.ofChange fnExactSteerPlayerSpec)) fnExactSteerPlayerCard

/-- THE SECOND FORM's CARD OF 'laws.FnPacketBytes'. -/
def fnPacketBytesUptoCard : Claim7 := { stood := { row := fnPacketBytesUptoRow, standIns := [], harness := (true, "5dba87899425fcec6c6cda0ec069293a5dad998493fef483f63b1a7145c73e85"), looks := true }, kinds := [], alts := [], laidByText := true, laidKinds := [.sentinel], laidTests := true, laidLooks := .later }
def FnPacketBytesUptoCardSaid : Prop := Claim7.holds Tryd.pinned (.plain (OpenSpec.upto fnPacketBytesSpec)) fnPacketBytesUptoCard

/-- THE SECOND FORM's CARD OF 'laws.FnExactBodyOk'. -/
def fnExactBodyOkUptoCard : Claim7 := { stood := { row := fnExactBodyOkUptoRow, standIns := [], harness := (true, "5dba87899425fcec6c6cda0ec069293a5dad998493fef483f63b1a7145c73e85"), looks := true }, kinds := [], alts := [], laidByText := true, laidKinds := [.data, .pinned], laidTests := true, laidLooks := .later }
def FnExactBodyOkUptoCardSaid : Prop := Claim7.holds Tryd.pinned (.plain (OpenSpec.upto fnExactBodyOkSpec)) fnExactBodyOkUptoCard

/-- THE SECOND FORM's CARD OF 'laws.FnExactMoveBody'. -/
def fnExactMoveBodyUptoCard : Claim7 := { stood := { row := fnExactMoveBodyUptoRow, standIns := [], harness := (true, "5dba87899425fcec6c6cda0ec069293a5dad998493fef483f63b1a7145c73e85"), looks := true }, kinds := [], alts := [], laidByText := true, laidKinds := [.data, .pinned], laidTests := true, laidLooks := .later }
def FnExactMoveBodyUptoCardSaid : Prop := Claim7.holds Tryd.pinned (.plain (OpenSpec.upto fnExactMoveBodySpec)) fnExactMoveBodyUptoCard

/-- THE SECOND FORM's CARD OF 'laws.FnExactSteerPlayer'. -/
def fnExactSteerPlayerUptoCard : Claim7 := { stood := { row := fnExactSteerPlayerUptoRow, standIns := [], harness := (true, "5dba87899425fcec6c6cda0ec069293a5dad998493fef483f63b1a7145c73e85"), looks := true }, kinds := [], alts := [], laidByText := true, laidKinds := [.data, .pinned], laidTests := true, laidLooks := .later }
def FnExactSteerPlayerUptoCardSaid : Prop := Claim7.holds Tryd.pinned (.plain (OpenSpec.upto fnExactSteerPlayerSpec)) fnExactSteerPlayerUptoCard
end Rows
end Go.Proofs.YtjdiflomgalpdaaDoor
