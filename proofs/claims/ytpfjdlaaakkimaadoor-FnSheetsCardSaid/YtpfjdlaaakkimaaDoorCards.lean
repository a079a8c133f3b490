/-
  DERIVED. GIVEN WITH THE SEED: THE CARDS: each row of YtpfjdlaaakkimaaDoorRows.lean that lists a variable, with what it lists TIED to the program's text (the seventh form; the later family's looks); each row that meets fmt, with fmt's text TOLD by the authors' own Lean function (tested against real Go, not proved from fmt's source: count such statements apart). THE CARD IS WHAT COUNTS. Prove the row's statement (the work); the ties are given (YtpfjdlaaakkimaaDoorTie.lean); close each card by the builder's one call (the guide's Derived/Test/ToyasCard.lean, 'card_holds'). Laid BY PROGRAM, IN A SANDBOX (cutbox-door.mjs). By AI agents, Wed Nov 11 2026. No macro, syntax, notation, axiom, sorry.
-/
import Derived.Test.YtpfjdlaaakkimaaDoorRows
import GoSem.ClaimSeven
namespace Go.Proofs.YtpfjdlaaakkimaaDoor
namespace Rows

/-- THE TIED CARD OF 'laws.FnSymbols'. -/
def fnSymbolsCard : Claim7 := { stood := { row := fnSymbolsRow, standIns := [], harness := (true, "a99ddd470d1fe46103d0f8c8d268f1ffba4feb305905482004698a189127c7d4"), looks := true }, kinds := [], alts := [], laidByText := true, laidKinds := [.data, .data, .data, .sentinel, .sentinel], laidTests := true, laidLooks := .later }
def FnSymbolsCardSaid : Prop := Claim7.holds Tryd.pinned (.plain (OpenSpec.ofChange fnSymbolsSpec)) fnSymbolsCard

/-- THE TIED CARD OF 'laws.FnSheets'. -/
def fnSheetsCard : Claim7 := { stood := { row := fnSheetsRow, standIns := [], harness := (true, "a99ddd470d1fe46103d0f8c8d268f1ffba4feb305905482004698a189127c7d4"), looks := true }, kinds := [], alts := [], laidByText := true, laidKinds := [.data, .data, .data], laidTests := true, laidLooks := .later }
def FnSheetsCardSaid : Prop := Claim7.holds Tryd.pinned (.plain (OpenSpec.ofChange fnSheetsSpec)) fnSheetsCard

/-- THE TIED CARD OF 'laws.FnExactFeatureText'. -/
def fnExactFeatureTextCard : Claim7 := { stood := { row := fnExactFeatureTextRow, standIns := [], harness := (true, "a99ddd470d1fe46103d0f8c8d268f1ffba4feb305905482004698a189127c7d4"), looks := true }, kinds := [], alts := [], laidByText := true, laidKinds := [.data, .data, .data], laidTests := true, laidLooks := .later }
def FnExactFeatureTextCardSaid : Prop := Claim7.holds Tryd.pinned (.plain (OpenSpec.ofChange fnExactFeatureTextSpec)) fnExactFeatureTextCard

/-- THE TIED CARD OF 'laws.FnExactParseFeature'. -/
def fnExactParseFeatureCard : Claim7 := { stood := { row := fnExactParseFeatureRow, standIns := [], harness := (true, "a99ddd470d1fe46103d0f8c8d268f1ffba4feb305905482004698a189127c7d4"), looks := true }, kinds := [], alts := [], laidByText := true, laidKinds := [.data, .data, .data, .sentinel, .sentinel], laidTests := true, laidLooks := .later }
def FnExactParseFeatureCardSaid : Prop := Claim7.holds Tryd.pinned (.plain (OpenSpec.ofChange fnExactParseFeatureSpec)) fnExactParseFeatureCard

/-- THE TIED CARD OF 'laws.FnExactSheetText'. -/
def fnExactSheetTextCard : Claim7 := { stood := { row := fnExactSheetTextRow, standIns := [], harness := (true, "a99ddd470d1fe46103d0f8c8d268f1ffba4feb305905482004698a189127c7d4"), looks := true }, kinds := [], alts := [], laidByText := true, laidKinds := [.data, .data, .data], laidTests := true, laidLooks := .later }
def FnExactSheetTextCardSaid : Prop := Claim7.holds Tryd.pinned (.plain (OpenSpec.ofChange fnExactSheetTextSpec)) fnExactSheetTextCard

/-- THE SECOND FORM's CARD OF 'laws.FnSymbols'. -/
def fnSymbolsUptoCard : Claim7 := { stood := { row := fnSymbolsUptoRow, standIns := [], harness := (true, "a99ddd470d1fe46103d0f8c8d268f1ffba4feb305905482004698a189127c7d4"), looks := true }, kinds := [], alts := [], laidByText := true, laidKinds := [.data, .data, .data, .sentinel, .sentinel], laidTests := true, laidLooks := .later }
def FnSymbolsUptoCardSaid : Prop := Claim7.holds Tryd.pinned (.plain (OpenSpec.upto fnSymbolsSpec)) fnSymbolsUptoCard

/-- THE SECOND FORM's CARD OF 'laws.FnSheets'. -/
def fnSheetsUptoCard : Claim7 := { stood := { row := fnSheetsUptoRow, standIns := [], harness := (true, "a99ddd470d1fe46103d0f8c8d268f1ffba4feb305905482004698a189127c7d4"), looks := true }, kinds := [], alts := [], laidByText := true, laidKinds := [.data, .data, .data], laidTests := true, laidLooks := .later }
def FnSheetsUptoCardSaid : Prop := Claim7.holds Tryd.pinned (.plain (OpenSpec.upto fnSheetsSpec)) fnSheetsUptoCard

/-- THE SECOND FORM's CARD OF 'laws.FnExactFeatureText'. -/
def fnExactFeatureTextUptoCard : Claim7 := { stood := { row := fnExactFeatureTextUptoRow, standIns := [], harness := (true, "a99ddd470d1fe46103d0f8c8d268f1ffba4feb305905482004698a189127c7d4"), looks := true }, kinds := [], alts := [], laidByText := true, laidKinds := [.data, .data, .data], laidTests := true, laidLooks := .later }
def FnExactFeatureTextUptoCardSaid : Prop := Claim7.holds Tryd.pinned (.plain (OpenSpec.upto fnExactFeatureTextSpec)) fnExactFeatureTextUptoCard

/-- THE SECOND FORM's CARD OF 'laws.FnExactParseFeature'. -/
def fnExactParseFeatureUptoCard : Claim7 := { stood := { row := fnExactParseFeatureUptoRow, standIns := [], harness := (true, "a99ddd470d1fe46103d0f8c8d268f1ffba4feb305905482004698a189127c7d4"), looks := true }, kinds := [], alts := [], laidByText := true, laidKinds := [.data, .data, .data, .sentinel, .sentinel], laidTests := true, laidLooks := .later }
def FnExactParseFeatureUptoCardSaid : Prop := Claim7.holds Tryd.pinned (.plain (OpenSpec.upto fnExactParseFeatureSpec)) fnExactParseFeatureUptoCard

/-- THE SECOND FORM's CARD OF 'laws.FnExactSheetText'. -/
def fnExactSheetTextUptoCard : Claim7 := { stood := { row := fnExactSheetTextUptoRow, standIns := [], harness := (true, "a99ddd470d1fe46103d0f8c8d268f1ffba4feb305905482004698a189127c7d4"), looks := true }, kinds := [], alts := [], laidByText := true, laidKinds := [.data, .data, .data], laidTests := true, laidLooks := .later }
def FnExactSheetTextUptoCardSaid : Prop := Claim7.holds Tryd.pinned (.plain (OpenSpec.upto fnExactSheetTextSpec)) fnExactSheetTextUptoCard
end Rows
end Go.Proofs.YtpfjdlaaakkimaaDoor
