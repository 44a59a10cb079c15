/-
  DERIVED. GIVEN WITH THE SEED: THE CARDS: each row of YtkjjieloncdjhaaGreatDoorRows.lean that lists a variable, with what it lists TIED to the program's text (the seventh form; the later family's looks); each row that meets fmt, with fmt's text TOLD by the authors' own Lean function (tested against real Go, not proved from fmt's source: count such statements apart). THE CARD IS WHAT COUNTS. Prove the row's statement (the work); the ties are given (YtkjjieloncdjhaaGreatDoorTie.lean); close each card by the builder's one call (the guide's Derived/Test/ToyasCard.lean, 'card_holds'). Laid BY PROGRAM, IN A SANDBOX (cutbox-door.mjs). By AI agents, Wed Nov 11 2026. No macro, syntax, notation, axiom, sorry.
-/
import Derived.Test.YtkjjieloncdjhaaGreatDoorRows
import GoSem.ClaimSeven
namespace Go.Proofs.YtkjjieloncdjhaaGreatDoor
namespace Rows

/-- THE TIED CARD OF 'newellaw06.SymbolsNames'. -/
def symbolsNamesCard : Claim7 := { stood := { row := symbolsNamesRow, standIns := [], harness := (true, "5ca1a52da3c986330d928338f8c415f1289b7415445721bdbdd2212415ce4aa9"), looks := false }, kinds := [], alts := [], laidByText := true, laidKinds := [.data, .pinned], laidTests := true, laidLooks := .later }
def SymbolsNamesCardSaid : Prop := Claim7.holds Tryz.pinned (.plain (OpenSpec.ofChange symbolsNamesSpec)) symbolsNamesCard

/-- THE TIED CARD OF 'newellaw06.SymbolsFinds'. -/
def symbolsFindsCard : Claim7 := { stood := { row := symbolsFindsRow, standIns := [], harness := (true, "5ca1a52da3c986330d928338f8c415f1289b7415445721bdbdd2212415ce4aa9"), looks := false }, kinds := [], alts := [], laidByText := true, laidKinds := [.data, .pinned], laidTests := true, laidLooks := .later }
def SymbolsFindsCardSaid : Prop := Claim7.holds Tryz.pinned (.plain (OpenSpec.ofChange symbolsFindsSpec)) symbolsFindsCard

/-- THE TIED CARD OF 'newellaw06.SymbolsDeclares'. -/
def symbolsDeclaresCard : Claim7 := { stood := { row := symbolsDeclaresRow, standIns := [], harness := (true, "5ca1a52da3c986330d928338f8c415f1289b7415445721bdbdd2212415ce4aa9"), looks := false }, kinds := [], alts := [], laidByText := true, laidKinds := [.data, .pinned], laidTests := true, laidLooks := .later }
def SymbolsDeclaresCardSaid : Prop := Claim7.holds Tryz.pinned (.plain (OpenSpec.ofChange symbolsDeclaresSpec)) symbolsDeclaresCard

/-- THE TIED CARD OF 'newellaw06.SymbolsRelated'. -/
def symbolsRelatedCard : Claim7 := { stood := { row := symbolsRelatedRow, standIns := [], harness := (true, "5ca1a52da3c986330d928338f8c415f1289b7415445721bdbdd2212415ce4aa9"), looks := false }, kinds := [], alts := [], laidByText := true, laidKinds := [.data, .pinned], laidTests := true, laidLooks := .later }
def SymbolsRelatedCardSaid : Prop := Claim7.holds Tryz.pinned (.plain (OpenSpec.ofChange symbolsRelatedSpec)) symbolsRelatedCard

/-- THE TIED CARD OF 'newellaw06.SymbolsTexts'. -/
def symbolsTextsCard : Claim7 := { stood := { row := symbolsTextsRow, standIns := [], harness := (true, "5ca1a52da3c986330d928338f8c415f1289b7415445721bdbdd2212415ce4aa9"), looks := false }, kinds := [], alts := [], laidByText := true, laidKinds := [.data, .data, .data, .data, .pinned], laidTests := true, laidLooks := .later }
def SymbolsTextsCardSaid : Prop := Claim7.holds Tryz.pinned (.plain (OpenSpec.ofChange symbolsTextsSpec)) symbolsTextsCard

/-- THE TIED CARD OF 'newellaw06.SymbolsOrders'. -/
def symbolsOrdersCard : Claim7 := { stood := { row := symbolsOrdersRow, standIns := [], harness := (true, "5ca1a52da3c986330d928338f8c415f1289b7415445721bdbdd2212415ce4aa9"), looks := false }, kinds := [], alts := [], laidByText := true, laidKinds := [.data, .pinned], laidTests := true, laidLooks := .later }
def SymbolsOrdersCardSaid : Prop := Claim7.holds Tryz.pinned (.plain (OpenSpec.ofChange symbolsOrdersSpec)) symbolsOrdersCard

/-- THE TIED CARD OF 'newellaw06.SymbolsDiffer'. -/
def symbolsDifferCard : Claim7 := { stood := { row := symbolsDifferRow, standIns := [], harness := (true, "5ca1a52da3c986330d928338f8c415f1289b7415445721bdbdd2212415ce4aa9"), looks := false }, kinds := [], alts := [], laidByText := true, laidKinds := [.data, .pinned], laidTests := true, laidLooks := .later }
def SymbolsDifferCardSaid : Prop := Claim7.holds Tryz.pinned (.plain (OpenSpec.ofChange symbolsDifferSpec)) symbolsDifferCard

/-- THE SECOND FORM's CARD OF 'newellaw06.SymbolsNames'. -/
def symbolsNamesUptoCard : Claim7 := { stood := { row := symbolsNamesUptoRow, standIns := [], harness := (true, "5ca1a52da3c986330d928338f8c415f1289b7415445721bdbdd2212415ce4aa9"), looks := false }, kinds := [], alts := [], laidByText := true, laidKinds := [.data, .pinned], laidTests := true, laidLooks := .later }
def SymbolsNamesUptoCardSaid : Prop := Claim7.holds Tryz.pinned (.plain (OpenSpec.upto symbolsNamesSpec)) symbolsNamesUptoCard

/-- THE SECOND FORM's CARD OF 'newellaw06.SymbolsFinds'. -/
def symbolsFindsUptoCard : Claim7 := { stood := { row := symbolsFindsUptoRow, standIns := [], harness := (true, "5ca1a52da3c986330d928338f8c415f1289b7415445721bdbdd2212415ce4aa9"), looks := false }, kinds := [], alts := [], laidByText := true, laidKinds := [.data, .pinned], laidTests := true, laidLooks := .later }
def SymbolsFindsUptoCardSaid : Prop := Claim7.holds Tryz.pinned (.plain (OpenSpec.upto symbolsFindsSpec)) symbolsFindsUptoCard

/-- THE SECOND FORM's CARD OF 'newellaw06.SymbolsDeclares'. -/
def symbolsDeclaresUptoCard : Claim7 := { stood := { row := symbolsDeclaresUptoRow, standIns := [], harness := (true, "5ca1a52da3c986330d928338f8c415f1289b7415445721bdbdd2212415ce4aa9"), looks := false }, kinds := [], alts := [], laidByText := true, laidKinds := [.data, .pinned], laidTests := true, laidLooks := .later }
def SymbolsDeclaresUptoCardSaid : Prop := Claim7.holds Tryz.pinned (.plain (OpenSpec.upto symbolsDeclaresSpec)) symbolsDeclaresUptoCard

/-- THE SECOND FORM's CARD OF 'newellaw06.SymbolsRelated'. -/
def symbolsRelatedUptoCard : Claim7 := { stood := { row := symbolsRelatedUptoRow, standIns := [], harness := (true, "5ca1a52da3c986330d928338f8c415f1289b7415445721bdbdd2212415ce4aa9"), looks := false }, kinds := [], alts := [], laidByText := true, laidKinds := [.data, .pinned], laidTests := true, laidLooks := .later }
def SymbolsRelatedUptoCardSaid : Prop := Claim7.holds Tryz.pinned (.plain (OpenSpec.upto symbolsRelatedSpec)) symbolsRelatedUptoCard

/-- THE SECOND FORM's CARD OF 'newellaw06.SymbolsTexts'. -/
def symbolsTextsUptoCard : Claim7 := { stood := { row := symbolsTextsUptoRow, standIns := [], harness := (true, "5ca1a52da3c986330d928338f8c415f1289b7415445721bdbdd2212415ce4aa9"), looks := false }, kinds := [], alts := [], laidByText := true, laidKinds := [.data, .data, .data, .data, .pinned], laidTests := true, laidLooks := .later }
def SymbolsTextsUptoCardSaid : Prop := Claim7.holds Tryz.pinned (.plain (OpenSpec.upto symbolsTextsSpec)) symbolsTextsUptoCard

/-- THE SECOND FORM's CARD OF 'newellaw06.SymbolsOrders'. -/
def symbolsOrdersUptoCard : Claim7 := { stood := { row := symbolsOrdersUptoRow, standIns := [], harness := (true, "5ca1a52da3c986330d928338f8c415f1289b7415445721bdbdd2212415ce4aa9"), looks := false }, kinds := [], alts := [], laidByText := true, laidKinds := [.data, .pinned], laidTests := true, laidLooks := .later }
def SymbolsOrdersUptoCardSaid : Prop := Claim7.holds Tryz.pinned (.plain (OpenSpec.upto symbolsOrdersSpec)) symbolsOrdersUptoCard

/-- THE SECOND FORM's CARD OF 'newellaw06.SymbolsDiffer'. -/
def symbolsDifferUptoCard : Claim7 := { stood := { row := symbolsDifferUptoRow, standIns := [], harness := (true, "5ca1a52da3c986330d928338f8c415f1289b7415445721bdbdd2212415ce4aa9"), looks := false }, kinds := [], alts := [], laidByText := true, laidKinds := [.data, .pinned], laidTests := true, laidLooks := .later }
def SymbolsDifferUptoCardSaid : Prop := Claim7.holds Tryz.pinned (.plain (OpenSpec.upto symbolsDifferSpec)) symbolsDifferUptoCard
end Rows
end Go.Proofs.YtkjjieloncdjhaaGreatDoor
