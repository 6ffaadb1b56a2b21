/-
  NARROWER THAN 'FOR EVERY INPUT', by the rows' own cells (each row's printed sentence says how): LoansMay: laid · LoansMake: laid · LoansSame: laid · LoansOne: laid · LoansAlone: laid · LoansKept: laid · LoansEnd: laid.
  DERIVED. THE GIVEN ROWS OF THIS SEAT. 7 by the template 'for every input the law returns true; each argument reads behind the call as it read before'; 0 by the template 'total and deterministic' (their statements: YtaoalplglfdobaaDoorTotals.lean).
  GIVEN WITH THE SEED: the statements are not yours to turn. If you find one false, say at which input.
  Laid BY PROGRAM, IN A SANDBOX (cutbox-rows.mjs): the forced cells as the released guide's own fill.sh prints them over the translation b3168a47e4060f68… (all of the seat's roots in one cut). By AI agents, Wed Nov 11 2026. No macro, syntax, notation, axiom, sorry.
-/
import Derived.Test.YtaoalplglfdobaaDoorChecked
import GoSem.Claim
import GoSem.ClaimJoined
import GoSem.ClaimMapViews
import Derived.JoinedTies
import Derived.KernelRfl
namespace Go.Proofs.YtaoalplglfdobaaDoor
/- THE CELL 'sum', in the pinned program and in every row, IS THE sha256 OF THE DUMP (.gsa) THAT YtaoalplglfdobaaDoorProg.lean LOADS. Nothing in Lean hashes anything: it is a label: what it is worth is what the hold of that sum in a sandbox is worth. -/
noncomputable def Tryd.pinned : Pinned := { name := "ytaoalplglfdobaadoor", sum := "b3168a47e4060f68e9bada2eb10ed3543107b815610477e1fbcc2fcc45a3cf5b", checked := Tryd.checked }
namespace Rows
def none {H : Type} : Left H := { results := [], args := [] }

/- WHAT THE LISTED PACKAGE-LEVEL VARIABLES READ AS WHEN THE CALL BEGINS. Each datum BY PROGRAM (the guide's laid-datum.mjs) off the statement by which the dump's own 'gosem.cut.vars' lays the variable. In a bare row this is a premise. The card (YtaoalplglfdobaaDoorCards.lean) ties it to the program's text. -/
def laid_math_bits_deBruijn32tab {H : Type} : DataW H := .agg [.lit (.int .u8 0), .lit (.int .u8 1), .lit (.int .u8 28), .lit (.int .u8 2), .lit (.int .u8 29), .lit (.int .u8 14), .lit (.int .u8 24), .lit (.int .u8 3), .lit (.int .u8 30), .lit (.int .u8 22), .lit (.int .u8 20), .lit (.int .u8 15), .lit (.int .u8 25), .lit (.int .u8 17), .lit (.int .u8 4), .lit (.int .u8 8), .lit (.int .u8 31), .lit (.int .u8 27), .lit (.int .u8 13), .lit (.int .u8 23), .lit (.int .u8 21), .lit (.int .u8 19), .lit (.int .u8 16), .lit (.int .u8 7), .lit (.int .u8 26), .lit (.int .u8 12), .lit (.int .u8 18), .lit (.int .u8 6), .lit (.int .u8 11), .lit (.int .u8 5), .lit (.int .u8 10), .lit (.int .u8 9)]
def laid_math_bits_deBruijn64tab {H : Type} : DataW H := .agg [.lit (.int .u8 0), .lit (.int .u8 1), .lit (.int .u8 56), .lit (.int .u8 2), .lit (.int .u8 57), .lit (.int .u8 49), .lit (.int .u8 28), .lit (.int .u8 3), .lit (.int .u8 61), .lit (.int .u8 58), .lit (.int .u8 42), .lit (.int .u8 50), .lit (.int .u8 38), .lit (.int .u8 29), .lit (.int .u8 17), .lit (.int .u8 4), .lit (.int .u8 62), .lit (.int .u8 47), .lit (.int .u8 59), .lit (.int .u8 36), .lit (.int .u8 45), .lit (.int .u8 43), .lit (.int .u8 51), .lit (.int .u8 22), .lit (.int .u8 53), .lit (.int .u8 39), .lit (.int .u8 33), .lit (.int .u8 30), .lit (.int .u8 24), .lit (.int .u8 18), .lit (.int .u8 12), .lit (.int .u8 5), .lit (.int .u8 63), .lit (.int .u8 55), .lit (.int .u8 48), .lit (.int .u8 27), .lit (.int .u8 60), .lit (.int .u8 41), .lit (.int .u8 37), .lit (.int .u8 16), .lit (.int .u8 46), .lit (.int .u8 35), .lit (.int .u8 44), .lit (.int .u8 21), .lit (.int .u8 52), .lit (.int .u8 32), .lit (.int .u8 23), .lit (.int .u8 11), .lit (.int .u8 54), .lit (.int .u8 26), .lit (.int .u8 40), .lit (.int .u8 15), .lit (.int .u8 34), .lit (.int .u8 20), .lit (.int .u8 31), .lit (.int .u8 10), .lit (.int .u8 25), .lit (.int .u8 14), .lit (.int .u8 19), .lit (.int .u8 9), .lit (.int .u8 13), .lit (.int .u8 8), .lit (.int .u8 7), .lit (.int .u8 6)]
def laid_internal_strconv_uint64pow10 {H : Type} : DataW H := .agg [.lit (.int .u64 1), .lit (.int .u64 10), .lit (.int .u64 100), .lit (.int .u64 1000), .lit (.int .u64 10000), .lit (.int .u64 100000), .lit (.int .u64 1000000), .lit (.int .u64 10000000), .lit (.int .u64 100000000), .lit (.int .u64 1000000000), .lit (.int .u64 10000000000), .lit (.int .u64 100000000000), .lit (.int .u64 1000000000000), .lit (.int .u64 10000000000000), .lit (.int .u64 100000000000000), .lit (.int .u64 1000000000000000), .lit (.int .u64 10000000000000000), .lit (.int .u64 100000000000000000), .lit (.int .u64 1000000000000000000), .lit (.int .u64 10000000000000000000)]

/-- 'weftwaylaw13.LoansMay': WHATEVER THE INPUT: true; the input reads as it did. -/
def loansMaySpec : ChangeSpec := { name := "loansMay", fn := fun _ => fun
  | [d1, d2, d3] => { results := [.lit (.bool true)], args := [d1, d2, d3] }
  | _ => none }
def loansMayRow : OpenClaim := { program := "ytaoalplglfdobaadoor", sum := "b3168a47e4060f68e9bada2eb10ed3543107b815610477e1fbcc2fcc45a3cf5b", func := "weftway/weftwaylaw13.LoansMay", spec := "loansMay", inPlace := ["internal/abi.NoEscape"], unfollowed := true, recurses := true, named := ["internal/strconv.uint64pow10", "math/bits.deBruijn32tab", "math/bits.deBruijn64tab"], plainKeys := false, apart := false, laid := [("math/bits.deBruijn32tab", laid_math_bits_deBruijn32tab), ("math/bits.deBruijn64tab", laid_math_bits_deBruijn64tab), ("internal/strconv.uint64pow10", laid_internal_strconv_uint64pow10)] }
def LoansMaySaid : Prop := loansMayRow.holds Tryd.pinned (OpenSpec.ofChange loansMaySpec)

/-- ITS FALSE NEIGHBOUR: 'it returns false'. Refute it at one input. -/
def loansMayWrong : ChangeSpec := { name := "loansMay", fn := fun _ => fun
  | [d1, d2, d3] => { results := [.lit (.bool false)], args := [d1, d2, d3] }
  | _ => none }
def LoansMayWrongFalsely : Prop := loansMayRow.holds Tryd.pinned (OpenSpec.ofChange loansMayWrong)

/-- 'weftwaylaw13.LoansMake': WHATEVER THE INPUT: true; the input reads as it did. -/
def loansMakeSpec : ChangeSpec := { name := "loansMake", fn := fun _ => fun
  | [d1, d2, d3, d4, d5] => { results := [.lit (.bool true)], args := [d1, d2, d3, d4, d5] }
  | _ => none }
def loansMakeRow : OpenClaim := { program := "ytaoalplglfdobaadoor", sum := "b3168a47e4060f68e9bada2eb10ed3543107b815610477e1fbcc2fcc45a3cf5b", func := "weftway/weftwaylaw13.LoansMake", spec := "loansMake", inPlace := ["internal/abi.NoEscape"], unfollowed := true, recurses := true, named := ["internal/strconv.uint64pow10", "math/bits.deBruijn32tab", "math/bits.deBruijn64tab"], plainKeys := false, apart := false, laid := [("math/bits.deBruijn32tab", laid_math_bits_deBruijn32tab), ("math/bits.deBruijn64tab", laid_math_bits_deBruijn64tab), ("internal/strconv.uint64pow10", laid_internal_strconv_uint64pow10)] }
def LoansMakeSaid : Prop := loansMakeRow.holds Tryd.pinned (OpenSpec.ofChange loansMakeSpec)

/-- ITS FALSE NEIGHBOUR: 'it returns false'. Refute it at one input. -/
def loansMakeWrong : ChangeSpec := { name := "loansMake", fn := fun _ => fun
  | [d1, d2, d3, d4, d5] => { results := [.lit (.bool false)], args := [d1, d2, d3, d4, d5] }
  | _ => none }
def LoansMakeWrongFalsely : Prop := loansMakeRow.holds Tryd.pinned (OpenSpec.ofChange loansMakeWrong)

/-- 'weftwaylaw13.LoansSame': WHATEVER THE INPUT: true; the input reads as it did. -/
def loansSameSpec : ChangeSpec := { name := "loansSame", fn := fun _ => fun
  | [d1, d2] => { results := [.lit (.bool true)], args := [d1, d2] }
  | _ => none }
def loansSameRow : OpenClaim := { program := "ytaoalplglfdobaadoor", sum := "b3168a47e4060f68e9bada2eb10ed3543107b815610477e1fbcc2fcc45a3cf5b", func := "weftway/weftwaylaw13.LoansSame", spec := "loansSame", inPlace := ["internal/abi.NoEscape"], unfollowed := true, recurses := true, named := ["internal/strconv.uint64pow10", "math/bits.deBruijn32tab", "math/bits.deBruijn64tab"], plainKeys := false, apart := false, laid := [("math/bits.deBruijn32tab", laid_math_bits_deBruijn32tab), ("math/bits.deBruijn64tab", laid_math_bits_deBruijn64tab), ("internal/strconv.uint64pow10", laid_internal_strconv_uint64pow10)] }
def LoansSameSaid : Prop := loansSameRow.holds Tryd.pinned (OpenSpec.ofChange loansSameSpec)

/-- ITS FALSE NEIGHBOUR: 'it returns false'. Refute it at one input. -/
def loansSameWrong : ChangeSpec := { name := "loansSame", fn := fun _ => fun
  | [d1, d2] => { results := [.lit (.bool false)], args := [d1, d2] }
  | _ => none }
def LoansSameWrongFalsely : Prop := loansSameRow.holds Tryd.pinned (OpenSpec.ofChange loansSameWrong)

/-- 'weftwaylaw13.LoansOne': WHATEVER THE INPUT: true; the input reads as it did. -/
def loansOneSpec : ChangeSpec := { name := "loansOne", fn := fun _ => fun
  | [d1, d2, d3, d4] => { results := [.lit (.bool true)], args := [d1, d2, d3, d4] }
  | _ => none }
def loansOneRow : OpenClaim := { program := "ytaoalplglfdobaadoor", sum := "b3168a47e4060f68e9bada2eb10ed3543107b815610477e1fbcc2fcc45a3cf5b", func := "weftway/weftwaylaw13.LoansOne", spec := "loansOne", inPlace := ["internal/abi.NoEscape"], unfollowed := true, recurses := true, named := ["internal/strconv.uint64pow10", "math/bits.deBruijn32tab", "math/bits.deBruijn64tab"], plainKeys := false, apart := false, laid := [("math/bits.deBruijn32tab", laid_math_bits_deBruijn32tab), ("math/bits.deBruijn64tab", laid_math_bits_deBruijn64tab), ("internal/strconv.uint64pow10", laid_internal_strconv_uint64pow10)] }
def LoansOneSaid : Prop := loansOneRow.holds Tryd.pinned (OpenSpec.ofChange loansOneSpec)

/-- ITS FALSE NEIGHBOUR: 'it returns false'. Refute it at one input. -/
def loansOneWrong : ChangeSpec := { name := "loansOne", fn := fun _ => fun
  | [d1, d2, d3, d4] => { results := [.lit (.bool false)], args := [d1, d2, d3, d4] }
  | _ => none }
def LoansOneWrongFalsely : Prop := loansOneRow.holds Tryd.pinned (OpenSpec.ofChange loansOneWrong)

/-- 'weftwaylaw13.LoansAlone': WHATEVER THE INPUT: true; the input reads as it did. -/
def loansAloneSpec : ChangeSpec := { name := "loansAlone", fn := fun _ => fun
  | [d1, d2, d3, d4] => { results := [.lit (.bool true)], args := [d1, d2, d3, d4] }
  | _ => none }
def loansAloneRow : OpenClaim := { program := "ytaoalplglfdobaadoor", sum := "b3168a47e4060f68e9bada2eb10ed3543107b815610477e1fbcc2fcc45a3cf5b", func := "weftway/weftwaylaw13.LoansAlone", spec := "loansAlone", inPlace := ["internal/abi.NoEscape"], unfollowed := true, recurses := true, named := ["internal/strconv.uint64pow10", "math/bits.deBruijn32tab", "math/bits.deBruijn64tab"], plainKeys := false, apart := false, laid := [("math/bits.deBruijn32tab", laid_math_bits_deBruijn32tab), ("math/bits.deBruijn64tab", laid_math_bits_deBruijn64tab), ("internal/strconv.uint64pow10", laid_internal_strconv_uint64pow10)] }
def LoansAloneSaid : Prop := loansAloneRow.holds Tryd.pinned (OpenSpec.ofChange loansAloneSpec)

/-- ITS FALSE NEIGHBOUR: 'it returns false'. Refute it at one input. -/
def loansAloneWrong : ChangeSpec := { name := "loansAlone", fn := fun _ => fun
  | [d1, d2, d3, d4] => { results := [.lit (.bool false)], args := [d1, d2, d3, d4] }
  | _ => none }
def LoansAloneWrongFalsely : Prop := loansAloneRow.holds Tryd.pinned (OpenSpec.ofChange loansAloneWrong)

/-- 'weftwaylaw13.LoansKept': WHATEVER THE INPUT: true; the input reads as it did. -/
def loansKeptSpec : ChangeSpec := { name := "loansKept", fn := fun _ => fun
  | [d] => { results := [.lit (.bool true)], args := [d] }
  | _ => none }
def loansKeptRow : OpenClaim := { program := "ytaoalplglfdobaadoor", sum := "b3168a47e4060f68e9bada2eb10ed3543107b815610477e1fbcc2fcc45a3cf5b", func := "weftway/weftwaylaw13.LoansKept", spec := "loansKept", inPlace := ["internal/abi.NoEscape"], unfollowed := true, recurses := true, named := ["internal/strconv.uint64pow10", "math/bits.deBruijn32tab", "math/bits.deBruijn64tab"], plainKeys := false, apart := false, laid := [("math/bits.deBruijn32tab", laid_math_bits_deBruijn32tab), ("math/bits.deBruijn64tab", laid_math_bits_deBruijn64tab), ("internal/strconv.uint64pow10", laid_internal_strconv_uint64pow10)] }
def LoansKeptSaid : Prop := loansKeptRow.holds Tryd.pinned (OpenSpec.ofChange loansKeptSpec)

/-- ITS FALSE NEIGHBOUR: 'it returns false'. Refute it at one input. -/
def loansKeptWrong : ChangeSpec := { name := "loansKept", fn := fun _ => fun
  | [d] => { results := [.lit (.bool false)], args := [d] }
  | _ => none }
def LoansKeptWrongFalsely : Prop := loansKeptRow.holds Tryd.pinned (OpenSpec.ofChange loansKeptWrong)

/-- 'weftwaylaw13.LoansEnd': WHATEVER THE INPUT: true; the input reads as it did. -/
def loansEndSpec : ChangeSpec := { name := "loansEnd", fn := fun _ => fun
  | [d1, d2, d3] => { results := [.lit (.bool true)], args := [d1, d2, d3] }
  | _ => none }
def loansEndRow : OpenClaim := { program := "ytaoalplglfdobaadoor", sum := "b3168a47e4060f68e9bada2eb10ed3543107b815610477e1fbcc2fcc45a3cf5b", func := "weftway/weftwaylaw13.LoansEnd", spec := "loansEnd", inPlace := ["internal/abi.NoEscape"], unfollowed := true, recurses := true, named := ["internal/strconv.uint64pow10", "math/bits.deBruijn32tab", "math/bits.deBruijn64tab"], plainKeys := false, apart := false, laid := [("math/bits.deBruijn32tab", laid_math_bits_deBruijn32tab), ("math/bits.deBruijn64tab", laid_math_bits_deBruijn64tab), ("internal/strconv.uint64pow10", laid_internal_strconv_uint64pow10)] }
def LoansEndSaid : Prop := loansEndRow.holds Tryd.pinned (OpenSpec.ofChange loansEndSpec)

/-- ITS FALSE NEIGHBOUR: 'it returns false'. Refute it at one input. -/
def loansEndWrong : ChangeSpec := { name := "loansEnd", fn := fun _ => fun
  | [d1, d2, d3] => { results := [.lit (.bool false)], args := [d1, d2, d3] }
  | _ => none }
def LoansEndWrongFalsely : Prop := loansEndRow.holds Tryd.pinned (OpenSpec.ofChange loansEndWrong)

/- THE SECOND FORM. 'bulk': how many values and letters a reading holds, each counted each time it is reached (what is shared counts as often as it is met; a slice's spare places count too). A statement '..UptoSaid' is the law's where the arguments, and the package variables that the reading takes, are together of bulk at most 1048576: NARROWER than '..Said'. Prove '..Said' where nothing that the law and all that it calls make is longer than what came in: it says more and counts as full. Else prove '..UptoSaid'. A law counts once. -/
mutual
def uptoBulk {H : Type} : DataW H → Nat
  | .lit (.string bytes) => bytes.length + 1
  | .lit _ => 1
  | .nil => 1
  | .ptr d => uptoBulk d + 1
  | .slice elems spare => uptoBulkAll elems + uptoBulkAll spare + 1
  | .agg parts => uptoBulkAll parts + 1
  | .iface _ d => uptoBulk d + 1
  | .map entries => uptoBulkEntries entries + 1
  | .held _ => 1
def uptoBulkAll {H : Type} : List (DataW H) → Nat
  | [] => 0
  | d :: r => uptoBulk d + uptoBulkAll r
def uptoBulkEntries {H : Type} : List (Lit × DataW H) → Nat
  | [] => 0
  | x :: r => uptoBulkEntry x + uptoBulkEntries r
def uptoBulkEntry {H : Type} : Lit × DataW H → Nat
  | (.string bytes, d) => bytes.length + uptoBulk d + 1
  | (_, d) => uptoBulk d + 1
 end
def uptoSmall : (H : Type) → List (DataW H) → Bool := fun _ ds => decide (uptoBulkAll ds ≤ 1048576)
def OpenSpec.upto (s : _root_.Go.ChangeSpec) : _root_.Go.OpenSpec := { _root_.Go.OpenSpec.ofChange s with cond := some uptoSmall }

/-- 'weftwaylaw13.LoansMay', WHERE WHAT IT READS IS OF BULK AT MOST 1048576: true; the input reads as it did. -/
def loansMayUptoRow : OpenClaim := { program := "ytaoalplglfdobaadoor", sum := "b3168a47e4060f68e9bada2eb10ed3543107b815610477e1fbcc2fcc45a3cf5b", func := "weftway/weftwaylaw13.LoansMay", spec := "loansMay", inPlace := ["internal/abi.NoEscape"], unfollowed := true, recurses := true, named := ["internal/strconv.uint64pow10", "math/bits.deBruijn32tab", "math/bits.deBruijn64tab"], plainKeys := false, apart := false, laid := [("math/bits.deBruijn32tab", laid_math_bits_deBruijn32tab), ("math/bits.deBruijn64tab", laid_math_bits_deBruijn64tab), ("internal/strconv.uint64pow10", laid_internal_strconv_uint64pow10)], narrowed := true }
def LoansMayUptoSaid : Prop := loansMayUptoRow.holds Tryd.pinned (OpenSpec.upto loansMaySpec)

/-- 'weftwaylaw13.LoansMake', WHERE WHAT IT READS IS OF BULK AT MOST 1048576: true; the input reads as it did. -/
def loansMakeUptoRow : OpenClaim := { program := "ytaoalplglfdobaadoor", sum := "b3168a47e4060f68e9bada2eb10ed3543107b815610477e1fbcc2fcc45a3cf5b", func := "weftway/weftwaylaw13.LoansMake", spec := "loansMake", inPlace := ["internal/abi.NoEscape"], unfollowed := true, recurses := true, named := ["internal/strconv.uint64pow10", "math/bits.deBruijn32tab", "math/bits.deBruijn64tab"], plainKeys := false, apart := false, laid := [("math/bits.deBruijn32tab", laid_math_bits_deBruijn32tab), ("math/bits.deBruijn64tab", laid_math_bits_deBruijn64tab), ("internal/strconv.uint64pow10", laid_internal_strconv_uint64pow10)], narrowed := true }
def LoansMakeUptoSaid : Prop := loansMakeUptoRow.holds Tryd.pinned (OpenSpec.upto loansMakeSpec)

/-- 'weftwaylaw13.LoansSame', WHERE WHAT IT READS IS OF BULK AT MOST 1048576: true; the input reads as it did. -/
def loansSameUptoRow : OpenClaim := { program := "ytaoalplglfdobaadoor", sum := "b3168a47e4060f68e9bada2eb10ed3543107b815610477e1fbcc2fcc45a3cf5b", func := "weftway/weftwaylaw13.LoansSame", spec := "loansSame", inPlace := ["internal/abi.NoEscape"], unfollowed := true, recurses := true, named := ["internal/strconv.uint64pow10", "math/bits.deBruijn32tab", "math/bits.deBruijn64tab"], plainKeys := false, apart := false, laid := [("math/bits.deBruijn32tab", laid_math_bits_deBruijn32tab), ("math/bits.deBruijn64tab", laid_math_bits_deBruijn64tab), ("internal/strconv.uint64pow10", laid_internal_strconv_uint64pow10)], narrowed := true }
def LoansSameUptoSaid : Prop := loansSameUptoRow.holds Tryd.pinned (OpenSpec.upto loansSameSpec)

/-- 'weftwaylaw13.LoansOne', WHERE WHAT IT READS IS OF BULK AT MOST 1048576: true; the input reads as it did. -/
def loansOneUptoRow : OpenClaim := { program := "ytaoalplglfdobaadoor", sum := "b3168a47e4060f68e9bada2eb10ed3543107b815610477e1fbcc2fcc45a3cf5b", func := "weftway/weftwaylaw13.LoansOne", spec := "loansOne", inPlace := ["internal/abi.NoEscape"], unfollowed := true, recurses := true, named := ["internal/strconv.uint64pow10", "math/bits.deBruijn32tab", "math/bits.deBruijn64tab"], plainKeys := false, apart := false, laid := [("math/bits.deBruijn32tab", laid_math_bits_deBruijn32tab), ("math/bits.deBruijn64tab", laid_math_bits_deBruijn64tab), ("internal/strconv.uint64pow10", laid_internal_strconv_uint64pow10)], narrowed := true }
def LoansOneUptoSaid : Prop := loansOneUptoRow.holds Tryd.pinned (OpenSpec.upto loansOneSpec)

/-- 'weftwaylaw13.LoansAlone', WHERE WHAT IT READS IS OF BULK AT MOST 1048576: true; the input reads as it did. -/
def loansAloneUptoRow : OpenClaim := { program := "ytaoalplglfdobaadoor", sum := "b3168a47e4060f68e9bada2eb10ed3543107b815610477e1fbcc2fcc45a3cf5b", func := "weftway/weftwaylaw13.LoansAlone", spec := "loansAlone", inPlace := ["internal/abi.NoEscape"], unfollowed := true, recurses := true, named := ["internal/strconv.uint64pow10", "math/bits.deBruijn32tab", "math/bits.deBruijn64tab"], plainKeys := false, apart := false, laid := [("math/bits.deBruijn32tab", laid_math_bits_deBruijn32tab), ("math/bits.deBruijn64tab", laid_math_bits_deBruijn64tab), ("internal/strconv.uint64pow10", laid_internal_strconv_uint64pow10)], narrowed := true }
def LoansAloneUptoSaid : Prop := loansAloneUptoRow.holds Tryd.pinned (OpenSpec.upto loansAloneSpec)

/-- 'weftwaylaw13.LoansKept', WHERE WHAT IT READS IS OF BULK AT MOST 1048576: true; the input reads as it did. -/
def loansKeptUptoRow : OpenClaim := { program := "ytaoalplglfdobaadoor", sum := "b3168a47e4060f68e9bada2eb10ed3543107b815610477e1fbcc2fcc45a3cf5b", func := "weftway/weftwaylaw13.LoansKept", spec := "loansKept", inPlace := ["internal/abi.NoEscape"], unfollowed := true, recurses := true, named := ["internal/strconv.uint64pow10", "math/bits.deBruijn32tab", "math/bits.deBruijn64tab"], plainKeys := false, apart := false, laid := [("math/bits.deBruijn32tab", laid_math_bits_deBruijn32tab), ("math/bits.deBruijn64tab", laid_math_bits_deBruijn64tab), ("internal/strconv.uint64pow10", laid_internal_strconv_uint64pow10)], narrowed := true }
def LoansKeptUptoSaid : Prop := loansKeptUptoRow.holds Tryd.pinned (OpenSpec.upto loansKeptSpec)

/-- 'weftwaylaw13.LoansEnd', WHERE WHAT IT READS IS OF BULK AT MOST 1048576: true; the input reads as it did. -/
def loansEndUptoRow : OpenClaim := { program := "ytaoalplglfdobaadoor", sum := "b3168a47e4060f68e9bada2eb10ed3543107b815610477e1fbcc2fcc45a3cf5b", func := "weftway/weftwaylaw13.LoansEnd", spec := "loansEnd", inPlace := ["internal/abi.NoEscape"], unfollowed := true, recurses := true, named := ["internal/strconv.uint64pow10", "math/bits.deBruijn32tab", "math/bits.deBruijn64tab"], plainKeys := false, apart := false, laid := [("math/bits.deBruijn32tab", laid_math_bits_deBruijn32tab), ("math/bits.deBruijn64tab", laid_math_bits_deBruijn64tab), ("internal/strconv.uint64pow10", laid_internal_strconv_uint64pow10)], narrowed := true }
def LoansEndUptoSaid : Prop := loansEndUptoRow.holds Tryd.pinned (OpenSpec.upto loansEndSpec)

end Rows
end Go.Proofs.YtaoalplglfdobaaDoor
