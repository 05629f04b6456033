/-
  DERIVED. GIVEN WITH THE SEED: THE CARDS: each row of YtnlonkkbjkfkmaaDoorRows.lean that lists a variable, with what it lists TIED to the program's text (the seventh form; the later family's looks); each row that meets fmt, with fmt's text TOLD by the authors' own Lean function (tested against real Go, not proved from fmt's source: count such statements apart). THE CARD IS WHAT COUNTS. Prove the row's statement (the work); the ties are given (YtnlonkkbjkfkmaaDoorTie.lean); close each card by the builder's one call (the guide's Derived/Test/ToyasCard.lean, 'card_holds'). Laid BY PROGRAM, IN A SANDBOX (cutbox-door.mjs). By AI agents, Wed Nov 11 2026. No macro, syntax, notation, axiom, sorry.
-/
import Derived.Test.YtnlonkkbjkfkmaaDoorRows
import GoSem.ClaimSeven
namespace Go.Proofs.YtnlonkkbjkfkmaaDoor
namespace Rows

/-- THE TIED CARD OF 'laws.FnWorldStays'. -/
def fnWorldStaysCard : Claim7 := { stood := { row := fnWorldStaysRow, standIns := [], harness := (true, "b4bb71880765a8774793881e186e005515c4e110ce100aedfb4eec65cd748495"), looks := true }, kinds := [], alts := [], laidByText := true, laidKinds := [.data, .pinned], laidTests := true, laidLooks := .later }
def FnWorldStaysCardSaid : Prop := Claim7.holds Tryd.pinned (.plain (OpenSpec.ofChange fnWorldStaysSpec)) fnWorldStaysCard

/-- THE TIED CARD OF 'laws.FnIdle'. -/
def fnIdleCard : Claim7 := { stood := { row := fnIdleRow, standIns := [], harness := (true, "b4bb71880765a8774793881e186e005515c4e110ce100aedfb4eec65cd748495"), looks := true }, kinds := [], alts := [], laidByText := true, laidKinds := [.data, .pinned], laidTests := true, laidLooks := .later }
def FnIdleCardSaid : Prop := Claim7.holds Tryd.pinned (.plain (OpenSpec.ofChange fnIdleSpec)) fnIdleCard

/-- THE TIED CARD OF 'laws.FnExactReadWorld'. -/
def fnExactReadWorldCard : Claim7 := { stood := { row := fnExactReadWorldRow, standIns := [], harness := (true, "b4bb71880765a8774793881e186e005515c4e110ce100aedfb4eec65cd748495"), looks := true }, kinds := [], alts := [], laidByText := true, laidKinds := [.data, .pinned], laidTests := true, laidLooks := .later }
def FnExactReadWorldCardSaid : Prop := Claim7.holds Tryd.pinned (.plain (OpenSpec.ofChange fnExactReadWorldSpec)) fnExactReadWorldCard

/-- THE TIED CARD OF 'laws.FnExactPartSum'. -/
def fnExactPartSumCard : Claim7 := { stood := { row := fnExactPartSumRow, standIns := [], harness := (true, "b4bb71880765a8774793881e186e005515c4e110ce100aedfb4eec65cd748495"), looks := true }, kinds := [], alts := [], laidByText := true, laidKinds := [.data, .data, .data, .data, .pinned], laidTests := true, laidLooks := .later }
def FnExactPartSumCardSaid : Prop := Claim7.holds Tryd.pinned (.plain (OpenSpec.ofChange fnExactPartSumSpec)) fnExactPartSumCard

/-- THE SECOND FORM's CARD OF 'laws.FnWorldStays'. -/
def fnWorldStaysUptoCard : Claim7 := { stood := { row := fnWorldStaysUptoRow, standIns := [], harness := (true, "b4bb71880765a8774793881e186e005515c4e110ce100aedfb4eec65cd748495"), looks := true }, kinds := [], alts := [], laidByText := true, laidKinds := [.data, .pinned], laidTests := true, laidLooks := .later }
def FnWorldStaysUptoCardSaid : Prop := Claim7.holds Tryd.pinned (.plain (OpenSpec.upto fnWorldStaysSpec)) fnWorldStaysUptoCard

/-- THE SECOND FORM's CARD OF 'laws.FnIdle'. -/
def fnIdleUptoCard : Claim7 := { stood := { row := fnIdleUptoRow, standIns := [], harness := (true, "b4bb71880765a8774793881e186e005515c4e110ce100aedfb4eec65cd748495"), looks := true }, kinds := [], alts := [], laidByText := true, laidKinds := [.data, .pinned], laidTests := true, laidLooks := .later }
def FnIdleUptoCardSaid : Prop := Claim7.holds Tryd.pinned (.plain (OpenSpec.upto fnIdleSpec)) fnIdleUptoCard

/-- THE SECOND FORM's CARD OF 'laws.FnExactReadWorld'. -/
def fnExactReadWorldUptoCard : Claim7 := { stood := { row := fnExactReadWorldUptoRow, standIns := [], harness := (true, "b4bb71880765a8774793881e186e005515c4e110ce100aedfb4eec65cd748495"), looks := true }, kinds := [], alts := [], laidByText := true, laidKinds := [.data, .pinned], laidTests := true, laidLooks := .later }
def FnExactReadWorldUptoCardSaid : Prop := Claim7.holds Tryd.pinned (.plain (OpenSpec.upto fnExactReadWorldSpec)) fnExactReadWorldUptoCard

/-- THE SECOND FORM's CARD OF 'laws.FnExactPartSum'. -/
def fnExactPartSumUptoCard : Claim7 := { stood := { row := fnExactPartSumUptoRow, standIns := [], harness := (true, "b4bb71880765a8774793881e186e005515c4e110ce100aedfb4eec65cd748495"), looks := true }, kinds := [], alts := [], laidByText := true, laidKinds := [.data, .data, .data, .data, .pinned], laidTests := true, laidLooks := .later }
def FnExactPartSumUptoCardSaid : Prop := Claim7.holds Tryd.pinned (.plain (OpenSpec.upto fnExactPartSumSpec)) fnExactPartSumUptoCard
end Rows
end Go.Proofs.YtnlonkkbjkfkmaaDoor
