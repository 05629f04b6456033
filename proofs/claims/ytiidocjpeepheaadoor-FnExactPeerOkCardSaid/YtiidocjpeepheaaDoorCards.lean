/-
  DERIVED. GIVEN WITH THE SEED: THE CARDS: each row of YtiidocjpeepheaaDoorRows.lean that lists a variable, with what it lists TIED to the program's text (the seventh form; the later family's looks); each row that meets fmt, with fmt's text TOLD by the authors' own Lean function (tested against real Go, not proved from fmt's source: count such statements apart). THE CARD IS WHAT COUNTS. Prove the row's statement (the work); the ties are given (YtiidocjpeepheaaDoorTie.lean); close each card by the builder's one call (the guide's Derived/Test/ToyasCard.lean, 'card_holds'). Laid BY PROGRAM, IN A SANDBOX (cutbox-door.mjs). By AI agents, Wed Nov 11 2026. No macro, syntax, notation, axiom, sorry.
-/
import Derived.Test.YtiidocjpeepheaaDoorRows
import GoSem.ClaimSeven
namespace Go.Proofs.YtiidocjpeepheaaDoor
namespace Rows

/-- THE TIED CARD OF 'laws.FnExactPeerOk'. -/
def fnExactPeerOkCard : Claim7 := { stood := { row := fnExactPeerOkRow, standIns := [], harness := (true, "d675e921b334a3591df654633d7a2a1d3125ed02a9ab60f583314d04dfc98d4f"), looks := false }, kinds := [], alts := [], laidByText := true, laidKinds := [.data, .pinned], laidTests := true, laidLooks := .later }
def FnExactPeerOkCardSaid : Prop := Claim7.holds Tryd.pinned (.plain (OpenSpec.ofChange fnExactPeerOkSpec)) fnExactPeerOkCard

/-- THE TIED CARD OF 'laws.FnExactPartSum'. -/
def fnExactPartSumCard : Claim7 := { stood := { row := fnExactPartSumRow, standIns := [], harness := (true, "d675e921b334a3591df654633d7a2a1d3125ed02a9ab60f583314d04dfc98d4f"), looks := false }, kinds := [], alts := [], laidByText := true, laidKinds := [.data, .data, .data, .data, .pinned], laidTests := true, laidLooks := .later }
def FnExactPartSumCardSaid : Prop := Claim7.holds Tryd.pinned (.plain (OpenSpec.ofChange fnExactPartSumSpec)) fnExactPartSumCard

/-- THE TIED CARD OF 'laws.FnExactPartsOf'. -/
def fnExactPartsOfCard : Claim7 := { stood := { row := fnExactPartsOfRow, standIns := [], harness := (true, "d675e921b334a3591df654633d7a2a1d3125ed02a9ab60f583314d04dfc98d4f"), looks := false }, kinds := [], alts := [], laidByText := true, laidKinds := [.data, .data, .data, .data, .pinned], laidTests := true, laidLooks := .later }
def FnExactPartsOfCardSaid : Prop := Claim7.holds Tryd.pinned (.plain (OpenSpec.ofChange fnExactPartsOfSpec)) fnExactPartsOfCard

/-- THE SECOND FORM's CARD OF 'laws.FnExactPeerOk'. -/
def fnExactPeerOkUptoCard : Claim7 := { stood := { row := fnExactPeerOkUptoRow, standIns := [], harness := (true, "d675e921b334a3591df654633d7a2a1d3125ed02a9ab60f583314d04dfc98d4f"), looks := false }, kinds := [], alts := [], laidByText := true, laidKinds := [.data, .pinned], laidTests := true, laidLooks := .later }
def FnExactPeerOkUptoCardSaid : Prop := Claim7.holds Tryd.pinned (.plain (OpenSpec.upto fnExactPeerOkSpec)) fnExactPeerOkUptoCard

/-- THE SECOND FORM's CARD OF 'laws.FnExactPartSum'. -/
def fnExactPartSumUptoCard : Claim7 := { stood := { row := fnExactPartSumUptoRow, standIns := [], harness := (true, "d675e921b334a3591df654633d7a2a1d3125ed02a9ab60f583314d04dfc98d4f"), looks := false }, kinds := [], alts := [], laidByText := true, laidKinds := [.data, .data, .data, .data, .pinned], laidTests := true, laidLooks := .later }
def FnExactPartSumUptoCardSaid : Prop := Claim7.holds Tryd.pinned (.plain (OpenSpec.upto fnExactPartSumSpec)) fnExactPartSumUptoCard

/-- THE SECOND FORM's CARD OF 'laws.FnExactPartsOf'. -/
def fnExactPartsOfUptoCard : Claim7 := { stood := { row := fnExactPartsOfUptoRow, standIns := [], harness := (true, "d675e921b334a3591df654633d7a2a1d3125ed02a9ab60f583314d04dfc98d4f"), looks := false }, kinds := [], alts := [], laidByText := true, laidKinds := [.data, .data, .data, .data, .pinned], laidTests := true, laidLooks := .later }
def FnExactPartsOfUptoCardSaid : Prop := Claim7.holds Tryd.pinned (.plain (OpenSpec.upto fnExactPartsOfSpec)) fnExactPartsOfUptoCard
end Rows
end Go.Proofs.YtiidocjpeepheaaDoor
