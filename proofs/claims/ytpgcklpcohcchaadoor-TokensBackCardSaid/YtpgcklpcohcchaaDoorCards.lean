/-
  DERIVED. GIVEN WITH THE SEED: THE CARDS: each row of YtpgcklpcohcchaaDoorRows.lean that lists a variable, with what it lists TIED to the program's text (the seventh form; the later family's looks); each row that meets fmt, with fmt's text TOLD by the authors' own Lean function (tested against real Go, not proved from fmt's source: count such statements apart). THE CARD IS WHAT COUNTS. Prove the row's statement (the work); the ties are given (YtpgcklpcohcchaaDoorTie.lean); close each card by the builder's one call (the guide's Derived/Test/ToyasCard.lean, 'card_holds'). Laid BY PROGRAM, IN A SANDBOX (cutbox-door.mjs). By AI agents, Wed Nov 11 2026. No macro, syntax, notation, axiom, sorry.
-/
import Derived.Test.YtpgcklpcohcchaaDoorRows
import GoSem.ClaimSeven
namespace Go.Proofs.YtpgcklpcohcchaaDoor
namespace Rows

/-- THE TIED CARD OF 'newellaw01.TokensBack'. -/
def tokensBackCard : Claim7 := { stood := { row := tokensBackRow, standIns := [], harness := (true, "0e6b7c33ff66e1a2048a3f3e8f773bca50443a48e3a870d10cceacd8e69f6aae"), looks := true }, kinds := [], alts := [], laidByText := true, laidKinds := [.data], laidTests := true, laidLooks := .later }
def TokensBackCardSaid : Prop := Claim7.holds Tryd.pinned (.plain (OpenSpec.ofChange tokensBackSpec)) tokensBackCard

/-- THE TIED CARD OF 'newellaw01.TokensMatch'. -/
def tokensMatchCard : Claim7 := { stood := { row := tokensMatchRow, standIns := [], harness := (true, "0e6b7c33ff66e1a2048a3f3e8f773bca50443a48e3a870d10cceacd8e69f6aae"), looks := true }, kinds := [], alts := [], laidByText := true, laidKinds := [.data], laidTests := true, laidLooks := .later }
def TokensMatchCardSaid : Prop := Claim7.holds Tryd.pinned (.plain (OpenSpec.ofChange tokensMatchSpec)) tokensMatchCard

/-- THE TIED CARD OF 'newellaw01.TokensSpaces'. -/
def tokensSpacesCard : Claim7 := { stood := { row := tokensSpacesRow, standIns := [], harness := (true, "0e6b7c33ff66e1a2048a3f3e8f773bca50443a48e3a870d10cceacd8e69f6aae"), looks := true }, kinds := [], alts := [], laidByText := true, laidKinds := [.data], laidTests := true, laidLooks := .later }
def TokensSpacesCardSaid : Prop := Claim7.holds Tryd.pinned (.plain (OpenSpec.ofChange tokensSpacesSpec)) tokensSpacesCard

/-- THE SECOND FORM's CARD OF 'newellaw01.TokensBack'. -/
def tokensBackUptoCard : Claim7 := { stood := { row := tokensBackUptoRow, standIns := [], harness := (true, "0e6b7c33ff66e1a2048a3f3e8f773bca50443a48e3a870d10cceacd8e69f6aae"), looks := true }, kinds := [], alts := [], laidByText := true, laidKinds := [.data], laidTests := true, laidLooks := .later }
def TokensBackUptoCardSaid : Prop := Claim7.holds Tryd.pinned (.plain (OpenSpec.upto tokensBackSpec)) tokensBackUptoCard

/-- THE SECOND FORM's CARD OF 'newellaw01.TokensMatch'. -/
def tokensMatchUptoCard : Claim7 := { stood := { row := tokensMatchUptoRow, standIns := [], harness := (true, "0e6b7c33ff66e1a2048a3f3e8f773bca50443a48e3a870d10cceacd8e69f6aae"), looks := true }, kinds := [], alts := [], laidByText := true, laidKinds := [.data], laidTests := true, laidLooks := .later }
def TokensMatchUptoCardSaid : Prop := Claim7.holds Tryd.pinned (.plain (OpenSpec.upto tokensMatchSpec)) tokensMatchUptoCard

/-- THE SECOND FORM's CARD OF 'newellaw01.TokensSpaces'. -/
def tokensSpacesUptoCard : Claim7 := { stood := { row := tokensSpacesUptoRow, standIns := [], harness := (true, "0e6b7c33ff66e1a2048a3f3e8f773bca50443a48e3a870d10cceacd8e69f6aae"), looks := true }, kinds := [], alts := [], laidByText := true, laidKinds := [.data], laidTests := true, laidLooks := .later }
def TokensSpacesUptoCardSaid : Prop := Claim7.holds Tryd.pinned (.plain (OpenSpec.upto tokensSpacesSpec)) tokensSpacesUptoCard
end Rows
end Go.Proofs.YtpgcklpcohcchaaDoor
