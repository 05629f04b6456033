/-
  DERIVED. GIVEN WITH THE SEED: THE CARDS: each row of YtdnnejohfhmliaaDoorRows.lean that lists a variable, with what it lists TIED to the program's text (the seventh form; the later family's looks); each row that meets fmt, with fmt's text TOLD by the authors' own Lean function (tested against real Go, not proved from fmt's source: count such statements apart). THE CARD IS WHAT COUNTS. Prove the row's statement (the work); the ties are given (YtdnnejohfhmliaaDoorTie.lean); close each card by the builder's one call (the guide's Derived/Test/ToyasCard.lean, 'card_holds'). Laid BY PROGRAM, IN A SANDBOX (cutbox-door.mjs). By AI agents, Wed Nov 11 2026. No macro, syntax, notation, axiom, sorry.
-/
import Derived.Test.YtdnnejohfhmliaaDoorRows
import GoSem.ClaimSeven
namespace Go.Proofs.YtdnnejohfhmliaaDoor
namespace Rows

/-- THE TIED CARD OF 'laws.FnMoves'. -/
def fnMovesCard : Claim7 := { stood := { row := fnMovesRow, standIns := [], harness := (true, "f2307f674804ffb3948755f15e6ced88d955a099e678cc3ff4036308284cba8a"), looks := true }, kinds := [], alts := [], laidByText := true, laidKinds := [.data, .pinned], laidTests := true, laidLooks := .later }
def FnMovesCardSaid : Prop := Claim7.holds Tryd.pinned (.plain (OpenSpec.ofChange fnMovesSpec)) fnMovesCard

/-- THE TIED CARD OF 'laws.FnWorldStays'. -/
def fnWorldStaysCard : Claim7 := { stood := { row := fnWorldStaysRow, standIns := [], harness := (true, "f2307f674804ffb3948755f15e6ced88d955a099e678cc3ff4036308284cba8a"), looks := true }, kinds := [], alts := [], laidByText := true, laidKinds := [.data, .pinned], laidTests := true, laidLooks := .later }
def FnWorldStaysCardSaid : Prop := Claim7.holds Tryd.pinned (.plain (OpenSpec.ofChange fnWorldStaysSpec)) fnWorldStaysCard

/-- THE TIED CARD OF 'laws.FnIdle'. -/
def fnIdleCard : Claim7 := { stood := { row := fnIdleRow, standIns := [], harness := (true, "f2307f674804ffb3948755f15e6ced88d955a099e678cc3ff4036308284cba8a"), looks := true }, kinds := [], alts := [], laidByText := true, laidKinds := [.data, .pinned], laidTests := true, laidLooks := .later }
def FnIdleCardSaid : Prop := Claim7.holds Tryd.pinned (.plain (OpenSpec.ofChange fnIdleSpec)) fnIdleCard

/-- THE TIED CARD OF 'laws.FnSteered'. -/
def fnSteeredCard : Claim7 := { stood := { row := fnSteeredRow, standIns := [], harness := (true, "f2307f674804ffb3948755f15e6ced88d955a099e678cc3ff4036308284cba8a"), looks := true }, kinds := [], alts := [], laidByText := true, laidKinds := [.data, .pinned], laidTests := true, laidLooks := .later }
def FnSteeredCardSaid : Prop := Claim7.holds Tryd.pinned (.plain (OpenSpec.ofChange fnSteeredSpec)) fnSteeredCard

/-- THE SECOND FORM's CARD OF 'laws.FnMoves'. -/
def fnMovesUptoCard : Claim7 := { stood := { row := fnMovesUptoRow, standIns := [], harness := (true, "f2307f674804ffb3948755f15e6ced88d955a099e678cc3ff4036308284cba8a"), looks := true }, kinds := [], alts := [], laidByText := true, laidKinds := [.data, .pinned], laidTests := true, laidLooks := .later }
def FnMovesUptoCardSaid : Prop := Claim7.holds Tryd.pinned (.plain (OpenSpec.upto fnMovesSpec)) fnMovesUptoCard

/-- THE SECOND FORM's CARD OF 'laws.FnWorldStays'. -/
def fnWorldStaysUptoCard : Claim7 := { stood := { row := fnWorldStaysUptoRow, standIns := [], harness := (true, "f2307f674804ffb3948755f15e6ced88d955a099e678cc3ff4036308284cba8a"), looks := true }, kinds := [], alts := [], laidByText := true, laidKinds := [.data, .pinned], laidTests := true, laidLooks := .later }
def FnWorldStaysUptoCardSaid : Prop := Claim7.holds Tryd.pinned (.plain (OpenSpec.upto fnWorldStaysSpec)) fnWorldStaysUptoCard

/-- THE SECOND FORM's CARD OF 'laws.FnIdle'. -/
def fnIdleUptoCard : Claim7 := { stood := { row := fnIdleUptoRow, standIns := [], harness := (true, "f2307f674804ffb3948755f15e6ced88d955a099e678cc3ff4036308284cba8a"), looks := true }, kinds := [], alts := [], laidByText := true, laidKinds := [.data, .pinned], laidTests := true, laidLooks := .later }
def FnIdleUptoCardSaid : Prop := Claim7.holds Tryd.pinned (.plain (OpenSpec.upto fnIdleSpec)) fnIdleUptoCard

/-- THE SECOND FORM's CARD OF 'laws.FnSteered'. -/
def fnSteeredUptoCard : Claim7 := { stood := { row := fnSteeredUptoRow, standIns := [], harness := (true, "f2307f674804ffb3948755f15e6ced88d955a099e678cc3ff4036308284cba8a"), looks := true }, kinds := [], alts := [], laidByText := true, laidKinds := [.data, .pinned], laidTests := true, laidLooks := .later }
def FnSteeredUptoCardSaid : Prop := Claim7.holds Tryd.pinned (.plain (OpenSpec.upto fnSteeredSpec)) fnSteeredUptoCard
end Rows
end Go.Proofs.YtdnnejohfhmliaaDoor
