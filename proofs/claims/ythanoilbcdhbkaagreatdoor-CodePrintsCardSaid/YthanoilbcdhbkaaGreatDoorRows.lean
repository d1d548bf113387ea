/-
  NARROWER THAN 'FOR EVERY INPUT', by the rows' own cells (each row's printed sentence says how): CodeCompiles: loops, laid · CodeValidates: laid · CodePrints: laid · CodeEquals: laid · CodeBalanced: loops, laid · CodeDiffers: loops, laid · CodeStops: laid.
  DERIVED. THE GIVEN ROWS OF THIS SEAT. 7 by the template 'for every input the law returns true; each argument reads behind the call as it read before'; 0 by the template 'total and deterministic' (their statements: YthanoilbcdhbkaaGreatDoorTotals.lean).
  GIVEN WITH THE SEED: the statements are not yours to turn. If you find one false, say at which input.
  Laid BY PROGRAM, IN A SANDBOX (cutbox-rows.mjs): the forced cells as the released guide's own fill.sh prints them over the translation bf612ca310123c2a… (all of the seat's roots in one cut). By AI agents, Wed Nov 11 2026. No macro, syntax, notation, axiom, sorry.
-/
import Derived.Test.YthanoilbcdhbkaaGreatDoorChecked
import GoSem.Claim
import GoSem.ClaimJoined
import GoSem.ClaimMapViews
import Derived.JoinedTies
import Derived.KernelRfl
namespace Go.Proofs.YthanoilbcdhbkaaGreatDoor
/- THE CELL 'sum', in the pinned program and in every row, IS THE sha256 OF THE DUMP (.gsa) THAT YthanoilbcdhbkaaGreatDoorProg.lean LOADS. Nothing in Lean hashes anything: it is a label: what it is worth is what the hold of that sum in a sandbox is worth. -/
noncomputable def Tryz.pinned : Pinned := { name := "ythanoilbcdhbkaagreatdoor", sum := "bf612ca310123c2af2fceb72900431f95e15b924fc365c0e2fe27006a1a4d2f6", checked := Tryz.checked }
namespace Rows
def none {H : Type} : Left H := { results := [], args := [] }

/- WHAT THE LISTED PACKAGE-LEVEL VARIABLES READ AS WHEN THE CALL BEGINS. Each datum BY PROGRAM (the guide's laid-datum.mjs) off the statement by which the dump's own 'gosem.cut.vars' lays the variable. In a bare row this is a premise. The card (YthanoilbcdhbkaaGreatDoorCards.lean) ties it to the program's text. -/
def laid_math_bits_deBruijn32tab {H : Type} : DataW H := .agg [.lit (.int .u8 0), .lit (.int .u8 1), .lit (.int .u8 28), .lit (.int .u8 2), .lit (.int .u8 29), .lit (.int .u8 14), .lit (.int .u8 24), .lit (.int .u8 3), .lit (.int .u8 30), .lit (.int .u8 22), .lit (.int .u8 20), .lit (.int .u8 15), .lit (.int .u8 25), .lit (.int .u8 17), .lit (.int .u8 4), .lit (.int .u8 8), .lit (.int .u8 31), .lit (.int .u8 27), .lit (.int .u8 13), .lit (.int .u8 23), .lit (.int .u8 21), .lit (.int .u8 19), .lit (.int .u8 16), .lit (.int .u8 7), .lit (.int .u8 26), .lit (.int .u8 12), .lit (.int .u8 18), .lit (.int .u8 6), .lit (.int .u8 11), .lit (.int .u8 5), .lit (.int .u8 10), .lit (.int .u8 9)]
def laid_math_bits_deBruijn64tab {H : Type} : DataW H := .agg [.lit (.int .u8 0), .lit (.int .u8 1), .lit (.int .u8 56), .lit (.int .u8 2), .lit (.int .u8 57), .lit (.int .u8 49), .lit (.int .u8 28), .lit (.int .u8 3), .lit (.int .u8 61), .lit (.int .u8 58), .lit (.int .u8 42), .lit (.int .u8 50), .lit (.int .u8 38), .lit (.int .u8 29), .lit (.int .u8 17), .lit (.int .u8 4), .lit (.int .u8 62), .lit (.int .u8 47), .lit (.int .u8 59), .lit (.int .u8 36), .lit (.int .u8 45), .lit (.int .u8 43), .lit (.int .u8 51), .lit (.int .u8 22), .lit (.int .u8 53), .lit (.int .u8 39), .lit (.int .u8 33), .lit (.int .u8 30), .lit (.int .u8 24), .lit (.int .u8 18), .lit (.int .u8 12), .lit (.int .u8 5), .lit (.int .u8 63), .lit (.int .u8 55), .lit (.int .u8 48), .lit (.int .u8 27), .lit (.int .u8 60), .lit (.int .u8 41), .lit (.int .u8 37), .lit (.int .u8 16), .lit (.int .u8 46), .lit (.int .u8 35), .lit (.int .u8 44), .lit (.int .u8 21), .lit (.int .u8 52), .lit (.int .u8 32), .lit (.int .u8 23), .lit (.int .u8 11), .lit (.int .u8 54), .lit (.int .u8 26), .lit (.int .u8 40), .lit (.int .u8 15), .lit (.int .u8 34), .lit (.int .u8 20), .lit (.int .u8 31), .lit (.int .u8 10), .lit (.int .u8 25), .lit (.int .u8 14), .lit (.int .u8 19), .lit (.int .u8 9), .lit (.int .u8 13), .lit (.int .u8 8), .lit (.int .u8 7), .lit (.int .u8 6)]
def laid_internal_strconv_uint64pow10 {H : Type} : DataW H := .agg [.lit (.int .u64 1), .lit (.int .u64 10), .lit (.int .u64 100), .lit (.int .u64 1000), .lit (.int .u64 10000), .lit (.int .u64 100000), .lit (.int .u64 1000000), .lit (.int .u64 10000000), .lit (.int .u64 100000000), .lit (.int .u64 1000000000), .lit (.int .u64 10000000000), .lit (.int .u64 100000000000), .lit (.int .u64 1000000000000), .lit (.int .u64 10000000000000), .lit (.int .u64 100000000000000), .lit (.int .u64 1000000000000000), .lit (.int .u64 10000000000000000), .lit (.int .u64 100000000000000000), .lit (.int .u64 1000000000000000000), .lit (.int .u64 10000000000000000000)]
def laid_strconv_ErrRange {H : Type} : DataW H := .iface "*errors.errorString" (.ptr (.agg [.lit (.string [118, 97, 108, 117, 101, 32, 111, 117, 116, 32, 111, 102, 32, 114, 97, 110, 103, 101])]))
def laid_strconv_ErrSyntax {H : Type} : DataW H := .iface "*errors.errorString" (.ptr (.agg [.lit (.string [105, 110, 118, 97, 108, 105, 100, 32, 115, 121, 110, 116, 97, 120])]))
def laid_corebank_token_marks {H : Type} : DataW H := .agg [.lit (.string [123]), .lit (.string [125]), .lit (.string [40]), .lit (.string [41]), .lit (.string [44]), .lit (.string [59]), .lit (.string [58]), .lit (.string [36]), .lit (.string [43]), .lit (.string [45]), .lit (.string [42]), .lit (.string [47]), .lit (.string [61, 61]), .lit (.string [33, 61]), .lit (.string [60, 61]), .lit (.string [60])]
def laid_corebank_expr_operators {H : Type} : DataW H := .agg [.agg [.lit (.int .i64 0), .lit (.int .i64 0), .lit (.int .i64 0), .lit (.string [])], .agg [.lit (.int .i64 0), .lit (.int .i64 9), .lit (.int .i64 0), .lit (.string [])], .agg [.lit (.int .i64 0), .lit (.int .i64 9), .lit (.int .i64 0), .lit (.string [])], .agg [.lit (.int .i64 0), .lit (.int .i64 9), .lit (.int .i64 0), .lit (.string [])], .agg [.lit (.int .i64 0), .lit (.int .i64 9), .lit (.int .i64 0), .lit (.string [])], .agg [.lit (.int .i64 2), .lit (.int .i64 6), .lit (.int .i64 4), .lit (.string [43])], .agg [.lit (.int .i64 2), .lit (.int .i64 6), .lit (.int .i64 4), .lit (.string [45])], .agg [.lit (.int .i64 2), .lit (.int .i64 7), .lit (.int .i64 4), .lit (.string [42])], .agg [.lit (.int .i64 2), .lit (.int .i64 7), .lit (.int .i64 4), .lit (.string [47])], .agg [.lit (.int .i64 1), .lit (.int .i64 8), .lit (.int .i64 4), .lit (.string [45])], .agg [.lit (.int .i64 2), .lit (.int .i64 5), .lit (.int .i64 4), .lit (.string [61, 61])], .agg [.lit (.int .i64 2), .lit (.int .i64 5), .lit (.int .i64 4), .lit (.string [33, 61])], .agg [.lit (.int .i64 2), .lit (.int .i64 5), .lit (.int .i64 4), .lit (.string [60])], .agg [.lit (.int .i64 2), .lit (.int .i64 5), .lit (.int .i64 4), .lit (.string [60, 61])], .agg [.lit (.int .i64 2), .lit (.int .i64 3), .lit (.int .i64 5), .lit (.string [97, 110, 100])], .agg [.lit (.int .i64 2), .lit (.int .i64 2), .lit (.int .i64 5), .lit (.string [111, 114])], .agg [.lit (.int .i64 1), .lit (.int .i64 4), .lit (.int .i64 5), .lit (.string [110, 111, 116])], .agg [.lit (.int .i64 2), .lit (.int .i64 9), .lit (.int .i64 5), .lit (.string [109, 105, 110])], .agg [.lit (.int .i64 2), .lit (.int .i64 9), .lit (.int .i64 5), .lit (.string [109, 97, 120])], .agg [.lit (.int .i64 3), .lit (.int .i64 1), .lit (.int .i64 5), .lit (.string [105, 102])]]
def laid_corebank_code_kindNames {H : Type} : DataW H := .agg [.lit (.string []), .lit (.string [110, 117, 109, 98, 101, 114]), .lit (.string [97, 109, 111, 117, 110, 116]), .lit (.string [114, 97, 116, 101])]
def laid_corebank_code_operatorNames {H : Type} : DataW H := .agg [.lit (.string []), .lit (.string []), .lit (.string []), .lit (.string []), .lit (.string []), .lit (.string [97, 100, 100]), .lit (.string [115, 117, 98]), .lit (.string [109, 117, 108]), .lit (.string [100, 105, 118]), .lit (.string [110, 101, 103]), .lit (.string [101, 113]), .lit (.string [110, 101]), .lit (.string [108, 116]), .lit (.string [108, 101]), .lit (.string [97, 110, 100]), .lit (.string [111, 114]), .lit (.string [110, 111, 116]), .lit (.string [109, 105, 110]), .lit (.string [109, 97, 120])]

/-- 'corebanklaw12.CodeCompiles': WHATEVER THE INPUT: true; the input reads as it did. -/
def codeCompilesSpec : ChangeSpec := { name := "codeCompiles", fn := fun _ => fun
  | [d1, d2] => { results := [.lit (.bool true)], args := [d1, d2] }
  | _ => none }
def codeCompilesRow : OpenClaim := { program := "ythanoilbcdhbkaagreatdoor", sum := "bf612ca310123c2af2fceb72900431f95e15b924fc365c0e2fe27006a1a4d2f6", func := "corebank/corebanklaw12.CodeCompiles", spec := "codeCompiles", inPlace := ["internal/bytealg.IndexByteString", "internal/bytealg.IndexString", "internal/abi.NoEscape", "internal/bytealg.MakeNoZero"], unfollowed := true, recurses := true, named := ["corebank/expr.operators", "internal/bytealg.MaxLen", "strconv.ErrSyntax", "strconv.ErrRange", "internal/strconv.uint64pow10", "math/bits.deBruijn32tab", "math/bits.deBruijn64tab", "corebank/token.marks", "corebank/code.kindNames", "corebank/code.operatorNames"], loops := true, plainKeys := false, apart := false, laid := [("math/bits.deBruijn32tab", laid_math_bits_deBruijn32tab), ("math/bits.deBruijn64tab", laid_math_bits_deBruijn64tab), ("internal/strconv.uint64pow10", laid_internal_strconv_uint64pow10), ("strconv.ErrRange", laid_strconv_ErrRange), ("strconv.ErrSyntax", laid_strconv_ErrSyntax), ("corebank/token.marks", laid_corebank_token_marks), ("corebank/expr.operators", laid_corebank_expr_operators), ("corebank/code.kindNames", laid_corebank_code_kindNames), ("corebank/code.operatorNames", laid_corebank_code_operatorNames)] }
def CodeCompilesSaid : Prop := codeCompilesRow.holds Tryz.pinned (OpenSpec.ofChange codeCompilesSpec)

/-- ITS FALSE NEIGHBOUR: 'it returns false'. Refute it at one input. -/
def codeCompilesWrong : ChangeSpec := { name := "codeCompiles", fn := fun _ => fun
  | [d1, d2] => { results := [.lit (.bool false)], args := [d1, d2] }
  | _ => none }
def CodeCompilesWrongFalsely : Prop := codeCompilesRow.holds Tryz.pinned (OpenSpec.ofChange codeCompilesWrong)

/-- 'corebanklaw12.CodeValidates': WHATEVER THE INPUT: true; the input reads as it did. -/
def codeValidatesSpec : ChangeSpec := { name := "codeValidates", fn := fun _ => fun
  | [d] => { results := [.lit (.bool true)], args := [d] }
  | _ => none }
def codeValidatesRow : OpenClaim := { program := "ythanoilbcdhbkaagreatdoor", sum := "bf612ca310123c2af2fceb72900431f95e15b924fc365c0e2fe27006a1a4d2f6", func := "corebank/corebanklaw12.CodeValidates", spec := "codeValidates", inPlace := ["internal/bytealg.IndexByteString", "internal/bytealg.IndexString", "internal/abi.NoEscape", "internal/bytealg.MakeNoZero"], unfollowed := true, recurses := true, named := ["corebank/expr.operators", "internal/bytealg.MaxLen", "strconv.ErrSyntax", "strconv.ErrRange", "internal/strconv.uint64pow10", "math/bits.deBruijn32tab", "math/bits.deBruijn64tab", "corebank/token.marks", "corebank/code.kindNames", "corebank/code.operatorNames"], plainKeys := false, apart := false, laid := [("math/bits.deBruijn32tab", laid_math_bits_deBruijn32tab), ("math/bits.deBruijn64tab", laid_math_bits_deBruijn64tab), ("internal/strconv.uint64pow10", laid_internal_strconv_uint64pow10), ("strconv.ErrRange", laid_strconv_ErrRange), ("strconv.ErrSyntax", laid_strconv_ErrSyntax), ("corebank/token.marks", laid_corebank_token_marks), ("corebank/expr.operators", laid_corebank_expr_operators), ("corebank/code.kindNames", laid_corebank_code_kindNames), ("corebank/code.operatorNames", laid_corebank_code_operatorNames)] }
def CodeValidatesSaid : Prop := codeValidatesRow.holds Tryz.pinned (OpenSpec.ofChange codeValidatesSpec)

/-- ITS FALSE NEIGHBOUR: 'it returns false'. Refute it at one input. -/
def codeValidatesWrong : ChangeSpec := { name := "codeValidates", fn := fun _ => fun
  | [d] => { results := [.lit (.bool false)], args := [d] }
  | _ => none }
def CodeValidatesWrongFalsely : Prop := codeValidatesRow.holds Tryz.pinned (OpenSpec.ofChange codeValidatesWrong)

/-- 'corebanklaw12.CodePrints': WHATEVER THE INPUT: true; the input reads as it did. -/
def codePrintsSpec : ChangeSpec := { name := "codePrints", fn := fun _ => fun
  | [d] => { results := [.lit (.bool true)], args := [d] }
  | _ => none }
def codePrintsRow : OpenClaim := { program := "ythanoilbcdhbkaagreatdoor", sum := "bf612ca310123c2af2fceb72900431f95e15b924fc365c0e2fe27006a1a4d2f6", func := "corebank/corebanklaw12.CodePrints", spec := "codePrints", inPlace := ["internal/bytealg.IndexByteString", "internal/bytealg.IndexString", "internal/abi.NoEscape", "internal/bytealg.MakeNoZero"], unfollowed := true, recurses := true, named := ["corebank/expr.operators", "internal/bytealg.MaxLen", "strconv.ErrSyntax", "strconv.ErrRange", "internal/strconv.uint64pow10", "math/bits.deBruijn32tab", "math/bits.deBruijn64tab", "corebank/token.marks", "corebank/code.kindNames", "corebank/code.operatorNames"], plainKeys := false, apart := false, laid := [("math/bits.deBruijn32tab", laid_math_bits_deBruijn32tab), ("math/bits.deBruijn64tab", laid_math_bits_deBruijn64tab), ("internal/strconv.uint64pow10", laid_internal_strconv_uint64pow10), ("strconv.ErrRange", laid_strconv_ErrRange), ("strconv.ErrSyntax", laid_strconv_ErrSyntax), ("corebank/token.marks", laid_corebank_token_marks), ("corebank/expr.operators", laid_corebank_expr_operators), ("corebank/code.kindNames", laid_corebank_code_kindNames), ("corebank/code.operatorNames", laid_corebank_code_operatorNames)] }
def CodePrintsSaid : Prop := codePrintsRow.holds Tryz.pinned (OpenSpec.ofChange codePrintsSpec)

/-- ITS FALSE NEIGHBOUR: 'it returns false'. Refute it at one input. -/
def codePrintsWrong : ChangeSpec := { name := "codePrints", fn := fun _ => fun
  | [d] => { results := [.lit (.bool false)], args := [d] }
  | _ => none }
def CodePrintsWrongFalsely : Prop := codePrintsRow.holds Tryz.pinned (OpenSpec.ofChange codePrintsWrong)

/-- 'corebanklaw12.CodeEquals': WHATEVER THE INPUT: true; the input reads as it did. -/
def codeEqualsSpec : ChangeSpec := { name := "codeEquals", fn := fun _ => fun
  | [d1, d2] => { results := [.lit (.bool true)], args := [d1, d2] }
  | _ => none }
def codeEqualsRow : OpenClaim := { program := "ythanoilbcdhbkaagreatdoor", sum := "bf612ca310123c2af2fceb72900431f95e15b924fc365c0e2fe27006a1a4d2f6", func := "corebank/corebanklaw12.CodeEquals", spec := "codeEquals", inPlace := ["internal/bytealg.IndexByteString", "internal/bytealg.IndexString", "internal/abi.NoEscape", "internal/bytealg.MakeNoZero"], unfollowed := true, recurses := true, named := ["corebank/expr.operators", "internal/bytealg.MaxLen", "strconv.ErrSyntax", "strconv.ErrRange", "internal/strconv.uint64pow10", "math/bits.deBruijn32tab", "math/bits.deBruijn64tab", "corebank/token.marks", "corebank/code.kindNames", "corebank/code.operatorNames"], plainKeys := false, apart := false, laid := [("math/bits.deBruijn32tab", laid_math_bits_deBruijn32tab), ("math/bits.deBruijn64tab", laid_math_bits_deBruijn64tab), ("internal/strconv.uint64pow10", laid_internal_strconv_uint64pow10), ("strconv.ErrRange", laid_strconv_ErrRange), ("strconv.ErrSyntax", laid_strconv_ErrSyntax), ("corebank/token.marks", laid_corebank_token_marks), ("corebank/expr.operators", laid_corebank_expr_operators), ("corebank/code.kindNames", laid_corebank_code_kindNames), ("corebank/code.operatorNames", laid_corebank_code_operatorNames)] }
def CodeEqualsSaid : Prop := codeEqualsRow.holds Tryz.pinned (OpenSpec.ofChange codeEqualsSpec)

/-- ITS FALSE NEIGHBOUR: 'it returns false'. Refute it at one input. -/
def codeEqualsWrong : ChangeSpec := { name := "codeEquals", fn := fun _ => fun
  | [d1, d2] => { results := [.lit (.bool false)], args := [d1, d2] }
  | _ => none }
def CodeEqualsWrongFalsely : Prop := codeEqualsRow.holds Tryz.pinned (OpenSpec.ofChange codeEqualsWrong)

/-- 'corebanklaw12.CodeBalanced': WHATEVER THE INPUT: true; the input reads as it did. -/
def codeBalancedSpec : ChangeSpec := { name := "codeBalanced", fn := fun _ => fun
  | [d1, d2] => { results := [.lit (.bool true)], args := [d1, d2] }
  | _ => none }
def codeBalancedRow : OpenClaim := { program := "ythanoilbcdhbkaagreatdoor", sum := "bf612ca310123c2af2fceb72900431f95e15b924fc365c0e2fe27006a1a4d2f6", func := "corebank/corebanklaw12.CodeBalanced", spec := "codeBalanced", inPlace := ["internal/bytealg.IndexByteString", "internal/bytealg.IndexString", "internal/abi.NoEscape", "internal/bytealg.MakeNoZero"], unfollowed := true, recurses := true, named := ["corebank/expr.operators", "internal/bytealg.MaxLen", "strconv.ErrSyntax", "strconv.ErrRange", "internal/strconv.uint64pow10", "math/bits.deBruijn32tab", "math/bits.deBruijn64tab", "corebank/token.marks", "corebank/code.kindNames", "corebank/code.operatorNames"], loops := true, plainKeys := false, apart := false, laid := [("math/bits.deBruijn32tab", laid_math_bits_deBruijn32tab), ("math/bits.deBruijn64tab", laid_math_bits_deBruijn64tab), ("internal/strconv.uint64pow10", laid_internal_strconv_uint64pow10), ("strconv.ErrRange", laid_strconv_ErrRange), ("strconv.ErrSyntax", laid_strconv_ErrSyntax), ("corebank/token.marks", laid_corebank_token_marks), ("corebank/expr.operators", laid_corebank_expr_operators), ("corebank/code.kindNames", laid_corebank_code_kindNames), ("corebank/code.operatorNames", laid_corebank_code_operatorNames)] }
def CodeBalancedSaid : Prop := codeBalancedRow.holds Tryz.pinned (OpenSpec.ofChange codeBalancedSpec)

/-- ITS FALSE NEIGHBOUR: 'it returns false'. Refute it at one input. -/
def codeBalancedWrong : ChangeSpec := { name := "codeBalanced", fn := fun _ => fun
  | [d1, d2] => { results := [.lit (.bool false)], args := [d1, d2] }
  | _ => none }
def CodeBalancedWrongFalsely : Prop := codeBalancedRow.holds Tryz.pinned (OpenSpec.ofChange codeBalancedWrong)

/-- 'corebanklaw12.CodeDiffers': WHATEVER THE INPUT: true; the input reads as it did. -/
def codeDiffersSpec : ChangeSpec := { name := "codeDiffers", fn := fun _ => fun
  | [d1, d2, d3] => { results := [.lit (.bool true)], args := [d1, d2, d3] }
  | _ => none }
def codeDiffersRow : OpenClaim := { program := "ythanoilbcdhbkaagreatdoor", sum := "bf612ca310123c2af2fceb72900431f95e15b924fc365c0e2fe27006a1a4d2f6", func := "corebank/corebanklaw12.CodeDiffers", spec := "codeDiffers", inPlace := ["internal/bytealg.IndexByteString", "internal/bytealg.IndexString", "internal/abi.NoEscape", "internal/bytealg.MakeNoZero"], unfollowed := true, recurses := true, named := ["corebank/expr.operators", "internal/bytealg.MaxLen", "strconv.ErrSyntax", "strconv.ErrRange", "internal/strconv.uint64pow10", "math/bits.deBruijn32tab", "math/bits.deBruijn64tab", "corebank/token.marks", "corebank/code.kindNames", "corebank/code.operatorNames"], loops := true, plainKeys := false, apart := false, laid := [("math/bits.deBruijn32tab", laid_math_bits_deBruijn32tab), ("math/bits.deBruijn64tab", laid_math_bits_deBruijn64tab), ("internal/strconv.uint64pow10", laid_internal_strconv_uint64pow10), ("strconv.ErrRange", laid_strconv_ErrRange), ("strconv.ErrSyntax", laid_strconv_ErrSyntax), ("corebank/token.marks", laid_corebank_token_marks), ("corebank/expr.operators", laid_corebank_expr_operators), ("corebank/code.kindNames", laid_corebank_code_kindNames), ("corebank/code.operatorNames", laid_corebank_code_operatorNames)] }
def CodeDiffersSaid : Prop := codeDiffersRow.holds Tryz.pinned (OpenSpec.ofChange codeDiffersSpec)

/-- ITS FALSE NEIGHBOUR: 'it returns false'. Refute it at one input. -/
def codeDiffersWrong : ChangeSpec := { name := "codeDiffers", fn := fun _ => fun
  | [d1, d2, d3] => { results := [.lit (.bool false)], args := [d1, d2, d3] }
  | _ => none }
def CodeDiffersWrongFalsely : Prop := codeDiffersRow.holds Tryz.pinned (OpenSpec.ofChange codeDiffersWrong)

/-- 'corebanklaw12.CodeStops': WHATEVER THE INPUT: true; the input reads as it did. -/
def codeStopsSpec : ChangeSpec := { name := "codeStops", fn := fun _ => fun
  | [d1, d2, d3] => { results := [.lit (.bool true)], args := [d1, d2, d3] }
  | _ => none }
def codeStopsRow : OpenClaim := { program := "ythanoilbcdhbkaagreatdoor", sum := "bf612ca310123c2af2fceb72900431f95e15b924fc365c0e2fe27006a1a4d2f6", func := "corebank/corebanklaw12.CodeStops", spec := "codeStops", inPlace := ["internal/bytealg.IndexByteString", "internal/bytealg.IndexString", "internal/abi.NoEscape", "internal/bytealg.MakeNoZero"], unfollowed := true, recurses := true, named := ["corebank/expr.operators", "internal/bytealg.MaxLen", "strconv.ErrSyntax", "strconv.ErrRange", "internal/strconv.uint64pow10", "math/bits.deBruijn32tab", "math/bits.deBruijn64tab", "corebank/token.marks", "corebank/code.kindNames", "corebank/code.operatorNames"], plainKeys := false, apart := false, laid := [("math/bits.deBruijn32tab", laid_math_bits_deBruijn32tab), ("math/bits.deBruijn64tab", laid_math_bits_deBruijn64tab), ("internal/strconv.uint64pow10", laid_internal_strconv_uint64pow10), ("strconv.ErrRange", laid_strconv_ErrRange), ("strconv.ErrSyntax", laid_strconv_ErrSyntax), ("corebank/token.marks", laid_corebank_token_marks), ("corebank/expr.operators", laid_corebank_expr_operators), ("corebank/code.kindNames", laid_corebank_code_kindNames), ("corebank/code.operatorNames", laid_corebank_code_operatorNames)] }
def CodeStopsSaid : Prop := codeStopsRow.holds Tryz.pinned (OpenSpec.ofChange codeStopsSpec)

/-- ITS FALSE NEIGHBOUR: 'it returns false'. Refute it at one input. -/
def codeStopsWrong : ChangeSpec := { name := "codeStops", fn := fun _ => fun
  | [d1, d2, d3] => { results := [.lit (.bool false)], args := [d1, d2, d3] }
  | _ => none }
def CodeStopsWrongFalsely : Prop := codeStopsRow.holds Tryz.pinned (OpenSpec.ofChange codeStopsWrong)

/- THE SECOND FORM. 'bulk': how many values and letters a reading holds, each counted each time it is reached (what is shared counts as often as it is met; a slice's spare places count too). A statement '..UptoSaid' is the law's where the arguments, and the package variables that the reading takes, are together of bulk at most 1048576: NARROWER than '..Said'. Prove '..Said' where nothing that the law and all that it calls make is longer than what came in: it says more and counts as full. Else prove '..UptoSaid'. A law counts once. -/
mutual
def uptoBulk {H : Type} : DataW H → Nat
  | .lit (.string bytes) => bytes.length + 1
  | .lit _ => 1
  | .nil => 1
  | .ptr d => uptoBulk d + 1
  | .slice elems spare => uptoBulkAll elems + uptoBulkAll spare + 1
  | .agg parts => uptoBulkAll parts + 1
  | .iface _ d => uptoBulk d + 1
  | .map entries => uptoBulkEntries entries + 1
  | .held _ => 1
def uptoBulkAll {H : Type} : List (DataW H) → Nat
  | [] => 0
  | d :: r => uptoBulk d + uptoBulkAll r
def uptoBulkEntries {H : Type} : List (Lit × DataW H) → Nat
  | [] => 0
  | x :: r => uptoBulkEntry x + uptoBulkEntries r
def uptoBulkEntry {H : Type} : Lit × DataW H → Nat
  | (.string bytes, d) => bytes.length + uptoBulk d + 1
  | (_, d) => uptoBulk d + 1
 end
def uptoSmall : (H : Type) → List (DataW H) → Bool := fun _ ds => decide (uptoBulkAll ds ≤ 1048576)
def OpenSpec.upto (s : _root_.Go.ChangeSpec) : _root_.Go.OpenSpec := { _root_.Go.OpenSpec.ofChange s with cond := some uptoSmall }

/-- 'corebanklaw12.CodeCompiles', WHERE WHAT IT READS IS OF BULK AT MOST 1048576: true; the input reads as it did. -/
def codeCompilesUptoRow : OpenClaim := { program := "ythanoilbcdhbkaagreatdoor", sum := "bf612ca310123c2af2fceb72900431f95e15b924fc365c0e2fe27006a1a4d2f6", func := "corebank/corebanklaw12.CodeCompiles", spec := "codeCompiles", inPlace := ["internal/bytealg.IndexByteString", "internal/bytealg.IndexString", "internal/abi.NoEscape", "internal/bytealg.MakeNoZero"], unfollowed := true, recurses := true, named := ["corebank/expr.operators", "internal/bytealg.MaxLen", "strconv.ErrSyntax", "strconv.ErrRange", "internal/strconv.uint64pow10", "math/bits.deBruijn32tab", "math/bits.deBruijn64tab", "corebank/token.marks", "corebank/code.kindNames", "corebank/code.operatorNames"], loops := true, plainKeys := false, apart := false, laid := [("math/bits.deBruijn32tab", laid_math_bits_deBruijn32tab), ("math/bits.deBruijn64tab", laid_math_bits_deBruijn64tab), ("internal/strconv.uint64pow10", laid_internal_strconv_uint64pow10), ("strconv.ErrRange", laid_strconv_ErrRange), ("strconv.ErrSyntax", laid_strconv_ErrSyntax), ("corebank/token.marks", laid_corebank_token_marks), ("corebank/expr.operators", laid_corebank_expr_operators), ("corebank/code.kindNames", laid_corebank_code_kindNames), ("corebank/code.operatorNames", laid_corebank_code_operatorNames)], narrowed := true }
def CodeCompilesUptoSaid : Prop := codeCompilesUptoRow.holds Tryz.pinned (OpenSpec.upto codeCompilesSpec)

/-- 'corebanklaw12.CodeValidates', WHERE WHAT IT READS IS OF BULK AT MOST 1048576: true; the input reads as it did. -/
def codeValidatesUptoRow : OpenClaim := { program := "ythanoilbcdhbkaagreatdoor", sum := "bf612ca310123c2af2fceb72900431f95e15b924fc365c0e2fe27006a1a4d2f6", func := "corebank/corebanklaw12.CodeValidates", spec := "codeValidates", inPlace := ["internal/bytealg.IndexByteString", "internal/bytealg.IndexString", "internal/abi.NoEscape", "internal/bytealg.MakeNoZero"], unfollowed := true, recurses := true, named := ["corebank/expr.operators", "internal/bytealg.MaxLen", "strconv.ErrSyntax", "strconv.ErrRange", "internal/strconv.uint64pow10", "math/bits.deBruijn32tab", "math/bits.deBruijn64tab", "corebank/token.marks", "corebank/code.kindNames", "corebank/code.operatorNames"], plainKeys := false, apart := false, laid := [("math/bits.deBruijn32tab", laid_math_bits_deBruijn32tab), ("math/bits.deBruijn64tab", laid_math_bits_deBruijn64tab), ("internal/strconv.uint64pow10", laid_internal_strconv_uint64pow10), ("strconv.ErrRange", laid_strconv_ErrRange), ("strconv.ErrSyntax", laid_strconv_ErrSyntax), ("corebank/token.marks", laid_corebank_token_marks), ("corebank/expr.operators", laid_corebank_expr_operators), ("corebank/code.kindNames", laid_corebank_code_kindNames), ("corebank/code.operatorNames", laid_corebank_code_operatorNames)], narrowed := true }
def CodeValidatesUptoSaid : Prop := codeValidatesUptoRow.holds Tryz.pinned (OpenSpec.upto codeValidatesSpec)

/-- 'corebanklaw12.CodePrints', WHERE WHAT IT READS IS OF BULK AT MOST 1048576: true; the input reads as it did. -/
def codePrintsUptoRow : OpenClaim := { program := "ythanoilbcdhbkaagreatdoor", sum := "bf612ca310123c2af2fceb72900431f95e15b924fc365c0e2fe27006a1a4d2f6", func := "corebank/corebanklaw12.CodePrints", spec := "codePrints", inPlace := ["internal/bytealg.IndexByteString", "internal/bytealg.IndexString", "internal/abi.NoEscape", "internal/bytealg.MakeNoZero"], unfollowed := true, recurses := true, named := ["corebank/expr.operators", "internal/bytealg.MaxLen", "strconv.ErrSyntax", "strconv.ErrRange", "internal/strconv.uint64pow10", "math/bits.deBruijn32tab", "math/bits.deBruijn64tab", "corebank/token.marks", "corebank/code.kindNames", "corebank/code.operatorNames"], plainKeys := false, apart := false, laid := [("math/bits.deBruijn32tab", laid_math_bits_deBruijn32tab), ("math/bits.deBruijn64tab", laid_math_bits_deBruijn64tab), ("internal/strconv.uint64pow10", laid_internal_strconv_uint64pow10), ("strconv.ErrRange", laid_strconv_ErrRange), ("strconv.ErrSyntax", laid_strconv_ErrSyntax), ("corebank/token.marks", laid_corebank_token_marks), ("corebank/expr.operators", laid_corebank_expr_operators), ("corebank/code.kindNames", laid_corebank_code_kindNames), ("corebank/code.operatorNames", laid_corebank_code_operatorNames)], narrowed := true }
def CodePrintsUptoSaid : Prop := codePrintsUptoRow.holds Tryz.pinned (OpenSpec.upto codePrintsSpec)

/-- 'corebanklaw12.CodeEquals', WHERE WHAT IT READS IS OF BULK AT MOST 1048576: true; the input reads as it did. -/
def codeEqualsUptoRow : OpenClaim := { program := "ythanoilbcdhbkaagreatdoor", sum := "bf612ca310123c2af2fceb72900431f95e15b924fc365c0e2fe27006a1a4d2f6", func := "corebank/corebanklaw12.CodeEquals", spec := "codeEquals", inPlace := ["internal/bytealg.IndexByteString", "internal/bytealg.IndexString", "internal/abi.NoEscape", "internal/bytealg.MakeNoZero"], unfollowed := true, recurses := true, named := ["corebank/expr.operators", "internal/bytealg.MaxLen", "strconv.ErrSyntax", "strconv.ErrRange", "internal/strconv.uint64pow10", "math/bits.deBruijn32tab", "math/bits.deBruijn64tab", "corebank/token.marks", "corebank/code.kindNames", "corebank/code.operatorNames"], plainKeys := false, apart := false, laid := [("math/bits.deBruijn32tab", laid_math_bits_deBruijn32tab), ("math/bits.deBruijn64tab", laid_math_bits_deBruijn64tab), ("internal/strconv.uint64pow10", laid_internal_strconv_uint64pow10), ("strconv.ErrRange", laid_strconv_ErrRange), ("strconv.ErrSyntax", laid_strconv_ErrSyntax), ("corebank/token.marks", laid_corebank_token_marks), ("corebank/expr.operators", laid_corebank_expr_operators), ("corebank/code.kindNames", laid_corebank_code_kindNames), ("corebank/code.operatorNames", laid_corebank_code_operatorNames)], narrowed := true }
def CodeEqualsUptoSaid : Prop := codeEqualsUptoRow.holds Tryz.pinned (OpenSpec.upto codeEqualsSpec)

/-- 'corebanklaw12.CodeBalanced', WHERE WHAT IT READS IS OF BULK AT MOST 1048576: true; the input reads as it did. -/
def codeBalancedUptoRow : OpenClaim := { program := "ythanoilbcdhbkaagreatdoor", sum := "bf612ca310123c2af2fceb72900431f95e15b924fc365c0e2fe27006a1a4d2f6", func := "corebank/corebanklaw12.CodeBalanced", spec := "codeBalanced", inPlace := ["internal/bytealg.IndexByteString", "internal/bytealg.IndexString", "internal/abi.NoEscape", "internal/bytealg.MakeNoZero"], unfollowed := true, recurses := true, named := ["corebank/expr.operators", "internal/bytealg.MaxLen", "strconv.ErrSyntax", "strconv.ErrRange", "internal/strconv.uint64pow10", "math/bits.deBruijn32tab", "math/bits.deBruijn64tab", "corebank/token.marks", "corebank/code.kindNames", "corebank/code.operatorNames"], loops := true, plainKeys := false, apart := false, laid := [("math/bits.deBruijn32tab", laid_math_bits_deBruijn32tab), ("math/bits.deBruijn64tab", laid_math_bits_deBruijn64tab), ("internal/strconv.uint64pow10", laid_internal_strconv_uint64pow10), ("strconv.ErrRange", laid_strconv_ErrRange), ("strconv.ErrSyntax", laid_strconv_ErrSyntax), ("corebank/token.marks", laid_corebank_token_marks), ("corebank/expr.operators", laid_corebank_expr_operators), ("corebank/code.kindNames", laid_corebank_code_kindNames), ("corebank/code.operatorNames", laid_corebank_code_operatorNames)], narrowed := true }
def CodeBalancedUptoSaid : Prop := codeBalancedUptoRow.holds Tryz.pinned (OpenSpec.upto codeBalancedSpec)

/-- 'corebanklaw12.CodeDiffers', WHERE WHAT IT READS IS OF BULK AT MOST 1048576: true; the input reads as it did. -/
def codeDiffersUptoRow : OpenClaim := { program := "ythanoilbcdhbkaagreatdoor", sum := "bf612ca310123c2af2fceb72900431f95e15b924fc365c0e2fe27006a1a4d2f6", func := "corebank/corebanklaw12.CodeDiffers", spec := "codeDiffers", inPlace := ["internal/bytealg.IndexByteString", "internal/bytealg.IndexString", "internal/abi.NoEscape", "internal/bytealg.MakeNoZero"], unfollowed := true, recurses := true, named := ["corebank/expr.operators", "internal/bytealg.MaxLen", "strconv.ErrSyntax", "strconv.ErrRange", "internal/strconv.uint64pow10", "math/bits.deBruijn32tab", "math/bits.deBruijn64tab", "corebank/token.marks", "corebank/code.kindNames", "corebank/code.operatorNames"], loops := true, plainKeys := false, apart := false, laid := [("math/bits.deBruijn32tab", laid_math_bits_deBruijn32tab), ("math/bits.deBruijn64tab", laid_math_bits_deBruijn64tab), ("internal/strconv.uint64pow10", laid_internal_strconv_uint64pow10), ("strconv.ErrRange", laid_strconv_ErrRange), ("strconv.ErrSyntax", laid_strconv_ErrSyntax), ("corebank/token.marks", laid_corebank_token_marks), ("corebank/expr.operators", laid_corebank_expr_operators), ("corebank/code.kindNames", laid_corebank_code_kindNames), ("corebank/code.operatorNames", laid_corebank_code_operatorNames)], narrowed := true }
def CodeDiffersUptoSaid : Prop := codeDiffersUptoRow.holds Tryz.pinned (OpenSpec.upto codeDiffersSpec)

/-- 'corebanklaw12.CodeStops', WHERE WHAT IT READS IS OF BULK AT MOST 1048576: true; the input reads as it did. -/
def codeStopsUptoRow : OpenClaim := { program := "ythanoilbcdhbkaagreatdoor", sum := "bf612ca310123c2af2fceb72900431f95e15b924fc365c0e2fe27006a1a4d2f6", func := "corebank/corebanklaw12.CodeStops", spec := "codeStops", inPlace := ["internal/bytealg.IndexByteString", "internal/bytealg.IndexString", "internal/abi.NoEscape", "internal/bytealg.MakeNoZero"], unfollowed := true, recurses := true, named := ["corebank/expr.operators", "internal/bytealg.MaxLen", "strconv.ErrSyntax", "strconv.ErrRange", "internal/strconv.uint64pow10", "math/bits.deBruijn32tab", "math/bits.deBruijn64tab", "corebank/token.marks", "corebank/code.kindNames", "corebank/code.operatorNames"], plainKeys := false, apart := false, laid := [("math/bits.deBruijn32tab", laid_math_bits_deBruijn32tab), ("math/bits.deBruijn64tab", laid_math_bits_deBruijn64tab), ("internal/strconv.uint64pow10", laid_internal_strconv_uint64pow10), ("strconv.ErrRange", laid_strconv_ErrRange), ("strconv.ErrSyntax", laid_strconv_ErrSyntax), ("corebank/token.marks", laid_corebank_token_marks), ("corebank/expr.operators", laid_corebank_expr_operators), ("corebank/code.kindNames", laid_corebank_code_kindNames), ("corebank/code.operatorNames", laid_corebank_code_operatorNames)], narrowed := true }
def CodeStopsUptoSaid : Prop := codeStopsUptoRow.holds Tryz.pinned (OpenSpec.upto codeStopsSpec)

end Rows
end Go.Proofs.YthanoilbcdhbkaaGreatDoor
