/-
  DERIVED. GIVEN WITH THE SEED: THE CARDS: each row of YtnenaponiahalaaDoorRows.lean that lists a variable, with what it lists TIED to the program's text (the seventh form; the later family's looks); each row that meets fmt, with fmt's text TOLD by the authors' own Lean function (tested against real Go, not proved from fmt's source: count such statements apart). THE CARD IS WHAT COUNTS. Prove the row's statement (the work); the ties are given (YtnenaponiahalaaDoorTie.lean); close each card by the builder's one call (the guide's Derived/Test/ToyasCard.lean, 'card_holds'). Laid BY PROGRAM, IN A SANDBOX (cutbox-door.mjs). By AI agents, Wed Nov 11 2026. No macro, syntax, notation, axiom, sorry.
-/
import Derived.Test.YtnenaponiahalaaDoorRows
import GoSem.ClaimSeven
namespace Go.Proofs.YtnenaponiahalaaDoor
namespace Rows

/-- THE TIED CARD OF 'laws.FnExactClassText'. -/
def fnExactClassTextCard : Claim7 := { stood := { row := fnExactClassTextRow, standIns := [], harness := (true, "5fd1f1db237ff866b8a0faa60458496ecb82afc9d60e62d93e60dc0b98894455"), looks := true }, kinds := [], alts := [], laidByText := true, laidKinds := [.data, .data, .data], laidTests := true, laidLooks := .later }
def FnExactClassTextCardSaid : Prop := Claim7.holds Tryd.pinned (.plain (OpenSpec.ofChange fnExactClassTextSpec)) fnExactClassTextCard

/-- THE TIED CARD OF 'laws.FnExactParseClass'. -/
def fnExactParseClassCard : Claim7 := { stood := { row := fnExactParseClassRow, standIns := [], harness := (true, "5fd1f1db237ff866b8a0faa60458496ecb82afc9d60e62d93e60dc0b98894455"), looks := true }, kinds := [], alts := [], laidByText := true, laidKinds := [.data, .data, .data, .sentinel, .sentinel], laidTests := true, laidLooks := .later }
def FnExactParseClassCardSaid : Prop := Claim7.holds Tryd.pinned (.plain (OpenSpec.ofChange fnExactParseClassSpec)) fnExactParseClassCard

/-- THE SECOND FORM's CARD OF 'laws.FnExactClassText'. -/
def fnExactClassTextUptoCard : Claim7 := { stood := { row := fnExactClassTextUptoRow, standIns := [], harness := (true, "5fd1f1db237ff866b8a0faa60458496ecb82afc9d60e62d93e60dc0b98894455"), looks := true }, kinds := [], alts := [], laidByText := true, laidKinds := [.data, .data, .data], laidTests := true, laidLooks := .later }
def FnExactClassTextUptoCardSaid : Prop := Claim7.holds Tryd.pinned (.plain (OpenSpec.upto fnExactClassTextSpec)) fnExactClassTextUptoCard

/-- THE SECOND FORM's CARD OF 'laws.FnExactParseClass'. -/
def fnExactParseClassUptoCard : Claim7 := { stood := { row := fnExactParseClassUptoRow, standIns := [], harness := (true, "5fd1f1db237ff866b8a0faa60458496ecb82afc9d60e62d93e60dc0b98894455"), looks := true }, kinds := [], alts := [], laidByText := true, laidKinds := [.data, .data, .data, .sentinel, .sentinel], laidTests := true, laidLooks := .later }
def FnExactParseClassUptoCardSaid : Prop := Claim7.holds Tryd.pinned (.plain (OpenSpec.upto fnExactParseClassSpec)) fnExactParseClassUptoCard
end Rows
end Go.Proofs.YtnenaponiahalaaDoor
