/-
  DERIVED. GIVEN WITH THE SEED: THE CARDS: each row of YtjngnjokbnklfaaDoorRows.lean that lists a variable, with what it lists TIED to the program's text (the seventh form; the later family's looks); each row that meets fmt, with fmt's text TOLD by the authors' own Lean function (tested against real Go, not proved from fmt's source: count such statements apart). THE CARD IS WHAT COUNTS. Prove the row's statement (the work); the ties are given (YtjngnjokbnklfaaDoorTie.lean); close each card by the builder's one call (the guide's Derived/Test/ToyasCard.lean, 'card_holds'). Laid BY PROGRAM, IN A SANDBOX (cutbox-door.mjs). By AI agents, Wed Nov 11 2026. No macro, syntax, notation, axiom, sorry.
-/
import Derived.Test.YtjngnjokbnklfaaDoorRows
import GoSem.ClaimSeven
namespace Go.Proofs.YtjngnjokbnklfaaDoor
namespace Rows

/-- THE TIED CARD OF 'laws.FnRunners'. -/
def fnRunnersCard : Claim7 := { stood := { row := fnRunnersRow, standIns := [], harness := (true, "31b07266d0a2fe3d202d490eb5f3e5c9678f80bcfc293099befae33e490fc3c0"), looks := true }, kinds := [], alts := [], laidByText := true, laidKinds := [.data, .data, .data, .sentinel, .sentinel], laidTests := true, laidLooks := .later }
def FnRunnersCardSaid : Prop := Claim7.holds Tryd.pinned (.plain (OpenSpec.ofChange fnRunnersSpec)) fnRunnersCard

/-- THE TIED CARD OF 'laws.FnExactParseRunner'. -/
def fnExactParseRunnerCard : Claim7 := { stood := { row := fnExactParseRunnerRow, standIns := [], harness := (true, "31b07266d0a2fe3d202d490eb5f3e5c9678f80bcfc293099befae33e490fc3c0"), looks := true }, kinds := [], alts := [], laidByText := true, laidKinds := [.data, .data, .data, .sentinel, .sentinel], laidTests := true, laidLooks := .later }
def FnExactParseRunnerCardSaid : Prop := Claim7.holds Tryd.pinned (.plain (OpenSpec.ofChange fnExactParseRunnerSpec)) fnExactParseRunnerCard

/-- THE SECOND FORM's CARD OF 'laws.FnRunners'. -/
def fnRunnersUptoCard : Claim7 := { stood := { row := fnRunnersUptoRow, standIns := [], harness := (true, "31b07266d0a2fe3d202d490eb5f3e5c9678f80bcfc293099befae33e490fc3c0"), looks := true }, kinds := [], alts := [], laidByText := true, laidKinds := [.data, .data, .data, .sentinel, .sentinel], laidTests := true, laidLooks := .later }
def FnRunnersUptoCardSaid : Prop := Claim7.holds Tryd.pinned (.plain (OpenSpec.upto fnRunnersSpec)) fnRunnersUptoCard

/-- THE SECOND FORM's CARD OF 'laws.FnExactParseRunner'. -/
def fnExactParseRunnerUptoCard : Claim7 := { stood := { row := fnExactParseRunnerUptoRow, standIns := [], harness := (true, "31b07266d0a2fe3d202d490eb5f3e5c9678f80bcfc293099befae33e490fc3c0"), looks := true }, kinds := [], alts := [], laidByText := true, laidKinds := [.data, .data, .data, .sentinel, .sentinel], laidTests := true, laidLooks := .later }
def FnExactParseRunnerUptoCardSaid : Prop := Claim7.holds Tryd.pinned (.plain (OpenSpec.upto fnExactParseRunnerSpec)) fnExactParseRunnerUptoCard
end Rows
end Go.Proofs.YtjngnjokbnklfaaDoor
