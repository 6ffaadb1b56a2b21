/-
  DERIVED. GIVEN WITH THE SEED: THE CARDS: each row of YtlbdoomknjiilaaDoorRows.lean that lists a variable, with what it lists TIED to the program's text (the seventh form; the later family's looks); each row that meets fmt, with fmt's text TOLD by the authors' own Lean function (tested against real Go, not proved from fmt's source: count such statements apart). THE CARD IS WHAT COUNTS. Prove the row's statement (the work); the ties are given (YtlbdoomknjiilaaDoorTie.lean); close each card by the builder's one call (the guide's Derived/Test/ToyasCard.lean, 'card_holds'). Laid BY PROGRAM, IN A SANDBOX (cutbox-door.mjs). By AI agents, Wed Nov 11 2026. No macro, syntax, notation, axiom, sorry.
-/
import Derived.Test.YtlbdoomknjiilaaDoorRows
import GoSem.ClaimSeven
namespace Go.Proofs.YtlbdoomknjiilaaDoor
namespace Rows

/-- THE TIED CARD OF 'weftwaylaw17.CodeMay'. -/
def codeMayCard : Claim7 := { stood := { row := codeMayRow, standIns := [], harness := (true, "b7926dc75b5bb2c46468fecf4c940c556a17f6fa219acd337d4a61c4b54b77d9"), looks := false }, kinds := [], alts := [], laidByText := true, laidKinds := [.data, .data, .data, .data], laidTests := true, laidLooks := .later }
def CodeMayCardSaid : Prop := Claim7.holds Tryd.pinned (.plain (OpenSpec.ofChange codeMaySpec)) codeMayCard

/-- THE TIED CARD OF 'weftwaylaw17.CodeInstr'. -/
def codeInstrCard : Claim7 := { stood := { row := codeInstrRow, standIns := [], harness := (true, "b7926dc75b5bb2c46468fecf4c940c556a17f6fa219acd337d4a61c4b54b77d9"), looks := false }, kinds := [], alts := [], laidByText := true, laidKinds := [.data, .data, .data, .data], laidTests := true, laidLooks := .later }
def CodeInstrCardSaid : Prop := Claim7.holds Tryd.pinned (.plain (OpenSpec.ofChange codeInstrSpec)) codeInstrCard

/-- THE TIED CARD OF 'weftwaylaw17.CodeFields'. -/
def codeFieldsCard : Claim7 := { stood := { row := codeFieldsRow, standIns := [], harness := (true, "b7926dc75b5bb2c46468fecf4c940c556a17f6fa219acd337d4a61c4b54b77d9"), looks := false }, kinds := [], alts := [], laidByText := true, laidKinds := [.data, .data, .data, .data], laidTests := true, laidLooks := .later }
def CodeFieldsCardSaid : Prop := Claim7.holds Tryd.pinned (.plain (OpenSpec.ofChange codeFieldsSpec)) codeFieldsCard

/-- THE TIED CARD OF 'weftwaylaw17.CodeOne'. -/
def codeOneCard : Claim7 := { stood := { row := codeOneRow, standIns := [], harness := (true, "b7926dc75b5bb2c46468fecf4c940c556a17f6fa219acd337d4a61c4b54b77d9"), looks := false }, kinds := [], alts := [], laidByText := true, laidKinds := [.data, .data, .data, .data], laidTests := true, laidLooks := .later }
def CodeOneCardSaid : Prop := Claim7.holds Tryd.pinned (.plain (OpenSpec.ofChange codeOneSpec)) codeOneCard

/-- THE TIED CARD OF 'weftwaylaw17.CodeShorter'. -/
def codeShorterCard : Claim7 := { stood := { row := codeShorterRow, standIns := [], harness := (true, "b7926dc75b5bb2c46468fecf4c940c556a17f6fa219acd337d4a61c4b54b77d9"), looks := false }, kinds := [], alts := [], laidByText := true, laidKinds := [.data, .data, .data, .data], laidTests := true, laidLooks := .later }
def CodeShorterCardSaid : Prop := Claim7.holds Tryd.pinned (.plain (OpenSpec.ofChange codeShorterSpec)) codeShorterCard

/-- THE TIED CARD OF 'weftwaylaw17.CodeSlots'. -/
def codeSlotsCard : Claim7 := { stood := { row := codeSlotsRow, standIns := [], harness := (true, "b7926dc75b5bb2c46468fecf4c940c556a17f6fa219acd337d4a61c4b54b77d9"), looks := false }, kinds := [], alts := [], laidByText := true, laidKinds := [.data, .data, .data, .data], laidTests := true, laidLooks := .later }
def CodeSlotsCardSaid : Prop := Claim7.holds Tryd.pinned (.plain (OpenSpec.ofChange codeSlotsSpec)) codeSlotsCard

/-- THE TIED CARD OF 'weftwaylaw17.CodeOthers'. -/
def codeOthersCard : Claim7 := { stood := { row := codeOthersRow, standIns := [], harness := (true, "b7926dc75b5bb2c46468fecf4c940c556a17f6fa219acd337d4a61c4b54b77d9"), looks := false }, kinds := [], alts := [], laidByText := true, laidKinds := [.data, .data, .data, .data], laidTests := true, laidLooks := .later }
def CodeOthersCardSaid : Prop := Claim7.holds Tryd.pinned (.plain (OpenSpec.ofChange codeOthersSpec)) codeOthersCard

/-- THE SECOND FORM's CARD OF 'weftwaylaw17.CodeMay'. -/
def codeMayUptoCard : Claim7 := { stood := { row := codeMayUptoRow, standIns := [], harness := (true, "b7926dc75b5bb2c46468fecf4c940c556a17f6fa219acd337d4a61c4b54b77d9"), looks := false }, kinds := [], alts := [], laidByText := true, laidKinds := [.data, .data, .data, .data], laidTests := true, laidLooks := .later }
def CodeMayUptoCardSaid : Prop := Claim7.holds Tryd.pinned (.plain (OpenSpec.upto codeMaySpec)) codeMayUptoCard

/-- THE SECOND FORM's CARD OF 'weftwaylaw17.CodeInstr'. -/
def codeInstrUptoCard : Claim7 := { stood := { row := codeInstrUptoRow, standIns := [], harness := (true, "b7926dc75b5bb2c46468fecf4c940c556a17f6fa219acd337d4a61c4b54b77d9"), looks := false }, kinds := [], alts := [], laidByText := true, laidKinds := [.data, .data, .data, .data], laidTests := true, laidLooks := .later }
def CodeInstrUptoCardSaid : Prop := Claim7.holds Tryd.pinned (.plain (OpenSpec.upto codeInstrSpec)) codeInstrUptoCard

/-- THE SECOND FORM's CARD OF 'weftwaylaw17.CodeFields'. -/
def codeFieldsUptoCard : Claim7 := { stood := { row := codeFieldsUptoRow, standIns := [], harness := (true, "b7926dc75b5bb2c46468fecf4c940c556a17f6fa219acd337d4a61c4b54b77d9"), looks := false }, kinds := [], alts := [], laidByText := true, laidKinds := [.data, .data, .data, .data], laidTests := true, laidLooks := .later }
def CodeFieldsUptoCardSaid : Prop := Claim7.holds Tryd.pinned (.plain (OpenSpec.upto codeFieldsSpec)) codeFieldsUptoCard

/-- THE SECOND FORM's CARD OF 'weftwaylaw17.CodeOne'. -/
def codeOneUptoCard : Claim7 := { stood := { row := codeOneUptoRow, standIns := [], harness := (true, "b7926dc75b5bb2c46468fecf4c940c556a17f6fa219acd337d4a61c4b54b77d9"), looks := false }, kinds := [], alts := [], laidByText := true, laidKinds := [.data, .data, .data, .data], laidTests := true, laidLooks := .later }
def CodeOneUptoCardSaid : Prop := Claim7.holds Tryd.pinned (.plain (OpenSpec.upto codeOneSpec)) codeOneUptoCard

/-- THE SECOND FORM's CARD OF 'weftwaylaw17.CodeShorter'. -/
def codeShorterUptoCard : Claim7 := { stood := { row := codeShorterUptoRow, standIns := [], harness := (true, "b7926dc75b5bb2c46468fecf4c940c556a17f6fa219acd337d4a61c4b54b77d9"), looks := false }, kinds := [], alts := [], laidByText := true, laidKinds := [.data, .data, .data, .data], laidTests := true, laidLooks := .later }
def CodeShorterUptoCardSaid : Prop := Claim7.holds Tryd.pinned (.plain (OpenSpec.upto codeShorterSpec)) codeShorterUptoCard

/-- THE SECOND FORM's CARD OF 'weftwaylaw17.CodeSlots'. -/
def codeSlotsUptoCard : Claim7 := { stood := { row := codeSlotsUptoRow, standIns := [], harness := (true, "b7926dc75b5bb2c46468fecf4c940c556a17f6fa219acd337d4a61c4b54b77d9"), looks := false }, kinds := [], alts := [], laidByText := true, laidKinds := [.data, .data, .data, .data], laidTests := true, laidLooks := .later }
def CodeSlotsUptoCardSaid : Prop := Claim7.holds Tryd.pinned (.plain (OpenSpec.upto codeSlotsSpec)) codeSlotsUptoCard

/-- THE SECOND FORM's CARD OF 'weftwaylaw17.CodeOthers'. -/
def codeOthersUptoCard : Claim7 := { stood := { row := codeOthersUptoRow, standIns := [], harness := (true, "b7926dc75b5bb2c46468fecf4c940c556a17f6fa219acd337d4a61c4b54b77d9"), looks := false }, kinds := [], alts := [], laidByText := true, laidKinds := [.data, .data, .data, .data], laidTests := true, laidLooks := .later }
def CodeOthersUptoCardSaid : Prop := Claim7.holds Tryd.pinned (.plain (OpenSpec.upto codeOthersSpec)) codeOthersUptoCard
end Rows
end Go.Proofs.YtlbdoomknjiilaaDoor
