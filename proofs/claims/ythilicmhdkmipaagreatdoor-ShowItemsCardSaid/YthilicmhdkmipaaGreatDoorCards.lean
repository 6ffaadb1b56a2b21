/-
  DERIVED. GIVEN WITH THE SEED: THE CARDS: each row of YthilicmhdkmipaaGreatDoorRows.lean that lists a variable, with what it lists TIED to the program's text (the seventh form; the later family's looks); each row that meets fmt, with fmt's text TOLD by the authors' own Lean function (tested against real Go, not proved from fmt's source: count such statements apart). THE CARD IS WHAT COUNTS. Prove the row's statement (the work); the ties are given (YthilicmhdkmipaaGreatDoorTie.lean); close each card by the builder's one call (the guide's Derived/Test/ToyasCard.lean, 'card_holds'). Laid BY PROGRAM, IN A SANDBOX (cutbox-door.mjs). By AI agents, Wed Nov 11 2026. No macro, syntax, notation, axiom, sorry.
-/
import Derived.Test.YthilicmhdkmipaaGreatDoorRows
import GoSem.ClaimSeven
namespace Go.Proofs.YthilicmhdkmipaaGreatDoor
namespace Rows

/-- THE TIED CARD OF 'weftwaylaw04.ShowProgram'. -/
def showProgramCard : Claim7 := { stood := { row := showProgramRow, standIns := [], harness := (true, "86d9c80facae5a89cf6b380061ee14a07def5061efa99c5b47937130154e2efe"), looks := false }, kinds := [], alts := [], laidByText := true, laidKinds := [.data, .data, .data, .data, .data], laidTests := true, laidLooks := .later }
def ShowProgramCardSaid : Prop := Claim7.holds Tryz.pinned (.plain (OpenSpec.ofChange showProgramSpec)) showProgramCard

/-- THE TIED CARD OF 'weftwaylaw04.ShowParts'. -/
def showPartsCard : Claim7 := { stood := { row := showPartsRow, standIns := [], harness := (true, "86d9c80facae5a89cf6b380061ee14a07def5061efa99c5b47937130154e2efe"), looks := false }, kinds := [], alts := [], laidByText := true, laidKinds := [.data, .data, .data, .data, .data], laidTests := true, laidLooks := .later }
def ShowPartsCardSaid : Prop := Claim7.holds Tryz.pinned (.plain (OpenSpec.ofChange showPartsSpec)) showPartsCard

/-- THE TIED CARD OF 'weftwaylaw04.ShowOne'. -/
def showOneCard : Claim7 := { stood := { row := showOneRow, standIns := [], harness := (true, "86d9c80facae5a89cf6b380061ee14a07def5061efa99c5b47937130154e2efe"), looks := false }, kinds := [], alts := [], laidByText := true, laidKinds := [.data, .data, .data, .data, .data], laidTests := true, laidLooks := .later }
def ShowOneCardSaid : Prop := Claim7.holds Tryz.pinned (.plain (OpenSpec.ofChange showOneSpec)) showOneCard

/-- THE TIED CARD OF 'weftwaylaw04.ShowItems'. -/
def showItemsCard : Claim7 := { stood := { row := showItemsRow, standIns := [], harness := (true, "86d9c80facae5a89cf6b380061ee14a07def5061efa99c5b47937130154e2efe"), looks := false }, kinds := [], alts := [], laidByText := true, laidKinds := [.data, .data, .data, .data, .data], laidTests := true, laidLooks := .later }
def ShowItemsCardSaid : Prop := Claim7.holds Tryz.pinned (.plain (OpenSpec.ofChange showItemsSpec)) showItemsCard

/-- THE TIED CARD OF 'weftwaylaw04.ShowTokens'. -/
def showTokensCard : Claim7 := { stood := { row := showTokensRow, standIns := [], harness := (true, "86d9c80facae5a89cf6b380061ee14a07def5061efa99c5b47937130154e2efe"), looks := false }, kinds := [], alts := [], laidByText := true, laidKinds := [.data, .data, .data, .listed, .data, .data, .data], laidTests := true, laidLooks := .later }
def ShowTokensCardSaid : Prop := Claim7.holds Tryz.pinned (.plain (OpenSpec.ofChange showTokensSpec)) showTokensCard

/-- THE TIED CARD OF 'weftwaylaw04.ShowWraps'. -/
def showWrapsCard : Claim7 := { stood := { row := showWrapsRow, standIns := [], harness := (true, "86d9c80facae5a89cf6b380061ee14a07def5061efa99c5b47937130154e2efe"), looks := false }, kinds := [], alts := [], laidByText := true, laidKinds := [.data, .data, .data, .data, .data], laidTests := true, laidLooks := .later }
def ShowWrapsCardSaid : Prop := Claim7.holds Tryz.pinned (.plain (OpenSpec.ofChange showWrapsSpec)) showWrapsCard

/-- THE TIED CARD OF 'weftwaylaw04.ShowSides'. -/
def showSidesCard : Claim7 := { stood := { row := showSidesRow, standIns := [], harness := (true, "86d9c80facae5a89cf6b380061ee14a07def5061efa99c5b47937130154e2efe"), looks := false }, kinds := [], alts := [], laidByText := true, laidKinds := [.data, .data, .data, .data, .data], laidTests := true, laidLooks := .later }
def ShowSidesCardSaid : Prop := Claim7.holds Tryz.pinned (.plain (OpenSpec.ofChange showSidesSpec)) showSidesCard

/-- THE SECOND FORM's CARD OF 'weftwaylaw04.ShowProgram'. -/
def showProgramUptoCard : Claim7 := { stood := { row := showProgramUptoRow, standIns := [], harness := (true, "86d9c80facae5a89cf6b380061ee14a07def5061efa99c5b47937130154e2efe"), looks := false }, kinds := [], alts := [], laidByText := true, laidKinds := [.data, .data, .data, .data, .data], laidTests := true, laidLooks := .later }
def ShowProgramUptoCardSaid : Prop := Claim7.holds Tryz.pinned (.plain (OpenSpec.upto showProgramSpec)) showProgramUptoCard

/-- THE SECOND FORM's CARD OF 'weftwaylaw04.ShowParts'. -/
def showPartsUptoCard : Claim7 := { stood := { row := showPartsUptoRow, standIns := [], harness := (true, "86d9c80facae5a89cf6b380061ee14a07def5061efa99c5b47937130154e2efe"), looks := false }, kinds := [], alts := [], laidByText := true, laidKinds := [.data, .data, .data, .data, .data], laidTests := true, laidLooks := .later }
def ShowPartsUptoCardSaid : Prop := Claim7.holds Tryz.pinned (.plain (OpenSpec.upto showPartsSpec)) showPartsUptoCard

/-- THE SECOND FORM's CARD OF 'weftwaylaw04.ShowOne'. -/
def showOneUptoCard : Claim7 := { stood := { row := showOneUptoRow, standIns := [], harness := (true, "86d9c80facae5a89cf6b380061ee14a07def5061efa99c5b47937130154e2efe"), looks := false }, kinds := [], alts := [], laidByText := true, laidKinds := [.data, .data, .data, .data, .data], laidTests := true, laidLooks := .later }
def ShowOneUptoCardSaid : Prop := Claim7.holds Tryz.pinned (.plain (OpenSpec.upto showOneSpec)) showOneUptoCard

/-- THE SECOND FORM's CARD OF 'weftwaylaw04.ShowItems'. -/
def showItemsUptoCard : Claim7 := { stood := { row := showItemsUptoRow, standIns := [], harness := (true, "86d9c80facae5a89cf6b380061ee14a07def5061efa99c5b47937130154e2efe"), looks := false }, kinds := [], alts := [], laidByText := true, laidKinds := [.data, .data, .data, .data, .data], laidTests := true, laidLooks := .later }
def ShowItemsUptoCardSaid : Prop := Claim7.holds Tryz.pinned (.plain (OpenSpec.upto showItemsSpec)) showItemsUptoCard

/-- THE SECOND FORM's CARD OF 'weftwaylaw04.ShowTokens'. -/
def showTokensUptoCard : Claim7 := { stood := { row := showTokensUptoRow, standIns := [], harness := (true, "86d9c80facae5a89cf6b380061ee14a07def5061efa99c5b47937130154e2efe"), looks := false }, kinds := [], alts := [], laidByText := true, laidKinds := [.data, .data, .data, .listed, .data, .data, .data], laidTests := true, laidLooks := .later }
def ShowTokensUptoCardSaid : Prop := Claim7.holds Tryz.pinned (.plain (OpenSpec.upto showTokensSpec)) showTokensUptoCard

/-- THE SECOND FORM's CARD OF 'weftwaylaw04.ShowWraps'. -/
def showWrapsUptoCard : Claim7 := { stood := { row := showWrapsUptoRow, standIns := [], harness := (true, "86d9c80facae5a89cf6b380061ee14a07def5061efa99c5b47937130154e2efe"), looks := false }, kinds := [], alts := [], laidByText := true, laidKinds := [.data, .data, .data, .data, .data], laidTests := true, laidLooks := .later }
def ShowWrapsUptoCardSaid : Prop := Claim7.holds Tryz.pinned (.plain (OpenSpec.upto showWrapsSpec)) showWrapsUptoCard

/-- THE SECOND FORM's CARD OF 'weftwaylaw04.ShowSides'. -/
def showSidesUptoCard : Claim7 := { stood := { row := showSidesUptoRow, standIns := [], harness := (true, "86d9c80facae5a89cf6b380061ee14a07def5061efa99c5b47937130154e2efe"), looks := false }, kinds := [], alts := [], laidByText := true, laidKinds := [.data, .data, .data, .data, .data], laidTests := true, laidLooks := .later }
def ShowSidesUptoCardSaid : Prop := Claim7.holds Tryz.pinned (.plain (OpenSpec.upto showSidesSpec)) showSidesUptoCard
end Rows
end Go.Proofs.YthilicmhdkmipaaGreatDoor
