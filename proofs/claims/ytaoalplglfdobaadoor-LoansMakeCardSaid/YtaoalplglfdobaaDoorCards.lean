/-
  DERIVED. GIVEN WITH THE SEED: THE CARDS: each row of YtaoalplglfdobaaDoorRows.lean that lists a variable, with what it lists TIED to the program's text (the seventh form; the later family's looks); each row that meets fmt, with fmt's text TOLD by the authors' own Lean function (tested against real Go, not proved from fmt's source: count such statements apart). THE CARD IS WHAT COUNTS. Prove the row's statement (the work); the ties are given (YtaoalplglfdobaaDoorTie.lean); close each card by the builder's one call (the guide's Derived/Test/ToyasCard.lean, 'card_holds'). Laid BY PROGRAM, IN A SANDBOX (cutbox-door.mjs). By AI agents, Wed Nov 11 2026. No macro, syntax, notation, axiom, sorry.
-/
import Derived.Test.YtaoalplglfdobaaDoorRows
import GoSem.ClaimSeven
namespace Go.Proofs.YtaoalplglfdobaaDoor
namespace Rows

/-- THE TIED CARD OF 'weftwaylaw13.LoansMay'. -/
def loansMayCard : Claim7 := { stood := { row := loansMayRow, standIns := [], harness := (true, "cdce27708fb74b3394842e24992562415fd5d73ca1c771cecd91ecfb0baa8078"), looks := false }, kinds := [], alts := [], laidByText := true, laidKinds := [.data, .data, .data], laidTests := true, laidLooks := .later }
def LoansMayCardSaid : Prop := Claim7.holds Tryd.pinned (.plain (OpenSpec.ofChange loansMaySpec)) loansMayCard

/-- THE TIED CARD OF 'weftwaylaw13.LoansMake'. -/
def loansMakeCard : Claim7 := { stood := { row := loansMakeRow, standIns := [], harness := (true, "cdce27708fb74b3394842e24992562415fd5d73ca1c771cecd91ecfb0baa8078"), looks := false }, kinds := [], alts := [], laidByText := true, laidKinds := [.data, .data, .data], laidTests := true, laidLooks := .later }
def LoansMakeCardSaid : Prop := Claim7.holds Tryd.pinned (.plain (OpenSpec.ofChange loansMakeSpec)) loansMakeCard

/-- THE TIED CARD OF 'weftwaylaw13.LoansSame'. -/
def loansSameCard : Claim7 := { stood := { row := loansSameRow, standIns := [], harness := (true, "cdce27708fb74b3394842e24992562415fd5d73ca1c771cecd91ecfb0baa8078"), looks := false }, kinds := [], alts := [], laidByText := true, laidKinds := [.data, .data, .data], laidTests := true, laidLooks := .later }
def LoansSameCardSaid : Prop := Claim7.holds Tryd.pinned (.plain (OpenSpec.ofChange loansSameSpec)) loansSameCard

/-- THE TIED CARD OF 'weftwaylaw13.LoansOne'. -/
def loansOneCard : Claim7 := { stood := { row := loansOneRow, standIns := [], harness := (true, "cdce27708fb74b3394842e24992562415fd5d73ca1c771cecd91ecfb0baa8078"), looks := false }, kinds := [], alts := [], laidByText := true, laidKinds := [.data, .data, .data], laidTests := true, laidLooks := .later }
def LoansOneCardSaid : Prop := Claim7.holds Tryd.pinned (.plain (OpenSpec.ofChange loansOneSpec)) loansOneCard

/-- THE TIED CARD OF 'weftwaylaw13.LoansAlone'. -/
def loansAloneCard : Claim7 := { stood := { row := loansAloneRow, standIns := [], harness := (true, "cdce27708fb74b3394842e24992562415fd5d73ca1c771cecd91ecfb0baa8078"), looks := false }, kinds := [], alts := [], laidByText := true, laidKinds := [.data, .data, .data], laidTests := true, laidLooks := .later }
def LoansAloneCardSaid : Prop := Claim7.holds Tryd.pinned (.plain (OpenSpec.ofChange loansAloneSpec)) loansAloneCard

/-- THE TIED CARD OF 'weftwaylaw13.LoansKept'. -/
def loansKeptCard : Claim7 := { stood := { row := loansKeptRow, standIns := [], harness := (true, "cdce27708fb74b3394842e24992562415fd5d73ca1c771cecd91ecfb0baa8078"), looks := false }, kinds := [], alts := [], laidByText := true, laidKinds := [.data, .data, .data], laidTests := true, laidLooks := .later }
def LoansKeptCardSaid : Prop := Claim7.holds Tryd.pinned (.plain (OpenSpec.ofChange loansKeptSpec)) loansKeptCard

/-- THE TIED CARD OF 'weftwaylaw13.LoansEnd'. -/
def loansEndCard : Claim7 := { stood := { row := loansEndRow, standIns := [], harness := (true, "cdce27708fb74b3394842e24992562415fd5d73ca1c771cecd91ecfb0baa8078"), looks := false }, kinds := [], alts := [], laidByText := true, laidKinds := [.data, .data, .data], laidTests := true, laidLooks := .later }
def LoansEndCardSaid : Prop := Claim7.holds Tryd.pinned (.plain (OpenSpec.ofChange loansEndSpec)) loansEndCard

/-- THE SECOND FORM's CARD OF 'weftwaylaw13.LoansMay'. -/
def loansMayUptoCard : Claim7 := { stood := { row := loansMayUptoRow, standIns := [], harness := (true, "cdce27708fb74b3394842e24992562415fd5d73ca1c771cecd91ecfb0baa8078"), looks := false }, kinds := [], alts := [], laidByText := true, laidKinds := [.data, .data, .data], laidTests := true, laidLooks := .later }
def LoansMayUptoCardSaid : Prop := Claim7.holds Tryd.pinned (.plain (OpenSpec.upto loansMaySpec)) loansMayUptoCard

/-- THE SECOND FORM's CARD OF 'weftwaylaw13.LoansMake'. -/
def loansMakeUptoCard : Claim7 := { stood := { row := loansMakeUptoRow, standIns := [], harness := (true, "cdce27708fb74b3394842e24992562415fd5d73ca1c771cecd91ecfb0baa8078"), looks := false }, kinds := [], alts := [], laidByText := true, laidKinds := [.data, .data, .data], laidTests := true, laidLooks := .later }
def LoansMakeUptoCardSaid : Prop := Claim7.holds Tryd.pinned (.plain (OpenSpec.upto loansMakeSpec)) loansMakeUptoCard

/-- THE SECOND FORM's CARD OF 'weftwaylaw13.LoansSame'. -/
def loansSameUptoCard : Claim7 := { stood := { row := loansSameUptoRow, standIns := [], harness := (true, "cdce27708fb74b3394842e24992562415fd5d73ca1c771cecd91ecfb0baa8078"), looks := false }, kinds := [], alts := [], laidByText := true, laidKinds := [.data, .data, .data], laidTests := true, laidLooks := .later }
def LoansSameUptoCardSaid : Prop := Claim7.holds Tryd.pinned (.plain (OpenSpec.upto loansSameSpec)) loansSameUptoCard

/-- THE SECOND FORM's CARD OF 'weftwaylaw13.LoansOne'. -/
def loansOneUptoCard : Claim7 := { stood := { row := loansOneUptoRow, standIns := [], harness := (true, "cdce27708fb74b3394842e24992562415fd5d73ca1c771cecd91ecfb0baa8078"), looks := false }, kinds := [], alts := [], laidByText := true, laidKinds := [.data, .data, .data], laidTests := true, laidLooks := .later }
def LoansOneUptoCardSaid : Prop := Claim7.holds Tryd.pinned (.plain (OpenSpec.upto loansOneSpec)) loansOneUptoCard

/-- THE SECOND FORM's CARD OF 'weftwaylaw13.LoansAlone'. -/
def loansAloneUptoCard : Claim7 := { stood := { row := loansAloneUptoRow, standIns := [], harness := (true, "cdce27708fb74b3394842e24992562415fd5d73ca1c771cecd91ecfb0baa8078"), looks := false }, kinds := [], alts := [], laidByText := true, laidKinds := [.data, .data, .data], laidTests := true, laidLooks := .later }
def LoansAloneUptoCardSaid : Prop := Claim7.holds Tryd.pinned (.plain (OpenSpec.upto loansAloneSpec)) loansAloneUptoCard

/-- THE SECOND FORM's CARD OF 'weftwaylaw13.LoansKept'. -/
def loansKeptUptoCard : Claim7 := { stood := { row := loansKeptUptoRow, standIns := [], harness := (true, "cdce27708fb74b3394842e24992562415fd5d73ca1c771cecd91ecfb0baa8078"), looks := false }, kinds := [], alts := [], laidByText := true, laidKinds := [.data, .data, .data], laidTests := true, laidLooks := .later }
def LoansKeptUptoCardSaid : Prop := Claim7.holds Tryd.pinned (.plain (OpenSpec.upto loansKeptSpec)) loansKeptUptoCard

/-- THE SECOND FORM's CARD OF 'weftwaylaw13.LoansEnd'. -/
def loansEndUptoCard : Claim7 := { stood := { row := loansEndUptoRow, standIns := [], harness := (true, "cdce27708fb74b3394842e24992562415fd5d73ca1c771cecd91ecfb0baa8078"), looks := false }, kinds := [], alts := [], laidByText := true, laidKinds := [.data, .data, .data], laidTests := true, laidLooks := .later }
def LoansEndUptoCardSaid : Prop := Claim7.holds Tryd.pinned (.plain (OpenSpec.upto loansEndSpec)) loansEndUptoCard
end Rows
end Go.Proofs.YtaoalplglfdobaaDoor
