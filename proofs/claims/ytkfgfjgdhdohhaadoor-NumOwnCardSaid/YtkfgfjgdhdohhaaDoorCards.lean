/-
  DERIVED. GIVEN WITH THE SEED: THE CARDS: each row of YtkfgfjgdhdohhaaDoorRows.lean that lists a variable, with what it lists TIED to the program's text (the seventh form; the later family's looks); each row that meets fmt, with fmt's text TOLD by the authors' own Lean function (tested against real Go, not proved from fmt's source: count such statements apart). THE CARD IS WHAT COUNTS. Prove the row's statement (the work); the ties are given (YtkfgfjgdhdohhaaDoorTie.lean); close each card by the builder's one call (the guide's Derived/Test/ToyasCard.lean, 'card_holds'). Laid BY PROGRAM, IN A SANDBOX (cutbox-door.mjs). By AI agents, Wed Nov 11 2026. No macro, syntax, notation, axiom, sorry.
-/
import Derived.Test.YtkfgfjgdhdohhaaDoorRows
import GoSem.ClaimSeven
namespace Go.Proofs.YtkfgfjgdhdohhaaDoor
namespace Rows

/-- THE TIED CARD OF 'weftwaylaw01.NumNumerals'. -/
def numNumeralsCard : Claim7 := { stood := { row := numNumeralsRow, standIns := [], harness := (true, "405e7904c70a710b87d61ab0137e31df0be919e8f7a6b161de0d9ec8eb46d800"), looks := false }, kinds := [], alts := [], laidByText := true, laidKinds := [.data, .data, .data], laidTests := true, laidLooks := .later }
def NumNumeralsCardSaid : Prop := Claim7.holds Tryd.pinned (.plain (OpenSpec.ofChange numNumeralsSpec)) numNumeralsCard

/-- THE TIED CARD OF 'weftwaylaw01.NumOwn'. -/
def numOwnCard : Claim7 := { stood := { row := numOwnRow, standIns := [], harness := (true, "405e7904c70a710b87d61ab0137e31df0be919e8f7a6b161de0d9ec8eb46d800"), looks := false }, kinds := [], alts := [], laidByText := true, laidKinds := [.data, .data, .data], laidTests := true, laidLooks := .later }
def NumOwnCardSaid : Prop := Claim7.holds Tryd.pinned (.plain (OpenSpec.ofChange numOwnSpec)) numOwnCard

/-- THE SECOND FORM's CARD OF 'weftwaylaw01.NumNumerals'. -/
def numNumeralsUptoCard : Claim7 := { stood := { row := numNumeralsUptoRow, standIns := [], harness := (true, "405e7904c70a710b87d61ab0137e31df0be919e8f7a6b161de0d9ec8eb46d800"), looks := false }, kinds := [], alts := [], laidByText := true, laidKinds := [.data, .data, .data], laidTests := true, laidLooks := .later }
def NumNumeralsUptoCardSaid : Prop := Claim7.holds Tryd.pinned (.plain (OpenSpec.upto numNumeralsSpec)) numNumeralsUptoCard

/-- THE SECOND FORM's CARD OF 'weftwaylaw01.NumOwn'. -/
def numOwnUptoCard : Claim7 := { stood := { row := numOwnUptoRow, standIns := [], harness := (true, "405e7904c70a710b87d61ab0137e31df0be919e8f7a6b161de0d9ec8eb46d800"), looks := false }, kinds := [], alts := [], laidByText := true, laidKinds := [.data, .data, .data], laidTests := true, laidLooks := .later }
def NumOwnUptoCardSaid : Prop := Claim7.holds Tryd.pinned (.plain (OpenSpec.upto numOwnSpec)) numOwnUptoCard
end Rows
end Go.Proofs.YtkfgfjgdhdohhaaDoor
