/-
  NARROWER THAN 'FOR EVERY INPUT', by the rows' own cells (each row's printed sentence says how): SemverParses: laid · SemverBack: laid · SemverCompares: laid · SemverOrder: laid · SemverBumps: laid · SemverTexts: laid · SemverPres: laid · SemverNumbers: laid · RangesParses: laid · RangesHas: laid · RangesPlain: laid · RangesAnd: laid · RangesCaret: laid · RangesParts: laid · RangesLists: laid · RangesTilde: laid.
  DERIVED. THE GIVEN ROWS OF THIS SEAT. 16 by the template 'for every input the law returns true; each argument reads behind the call as it read before'; 0 by the template 'total and deterministic' (their statements: YtbmhjmdbolnbaaaDoorTotals.lean).
  GIVEN WITH THE SEED: the statements are not yours to turn. If you find one false, say at which input.
  Laid BY PROGRAM, IN A SANDBOX (cutbox-rows.mjs): the forced cells as the released guide's own fill.sh prints them over the translation 25f13d5b398f2ff3… (all of the seat's roots in one cut). By AI agents, Wed Nov 11 2026. No macro, syntax, notation, axiom, sorry.
-/
import Derived.Test.YtbmhjmdbolnbaaaDoorChecked
import GoSem.PinnedTables
import GoSem.Claim
import GoSem.ClaimJoined
import GoSem.ClaimMapViews
import Derived.JoinedTies
import Derived.KernelRfl
namespace Go.Proofs.YtbmhjmdbolnbaaaDoor
/- THE CELL 'sum', in the pinned program and in every row, IS THE sha256 OF THE DUMP (.gsa) THAT YtbmhjmdbolnbaaaDoorProg.lean LOADS. Nothing in Lean hashes anything: it is a label: what it is worth is what the hold of that sum in a sandbox is worth. -/
noncomputable def Tryd.pinned : Pinned := { name := "ytbmhjmdbolnbaaadoor", sum := "25f13d5b398f2ff3b345f08bfee6de46e87f1f744e943a0fe7f837c7d439891d", checked := Tryd.checked }
namespace Rows
def none {H : Type} : Left H := { results := [], args := [] }

/- WHAT THE LISTED PACKAGE-LEVEL VARIABLES READ AS WHEN THE CALL BEGINS. Each datum BY PROGRAM (the guide's laid-datum.mjs) off the statement by which the dump's own 'gosem.cut.vars' lays the variable. In a bare row this is a premise. The card (YtbmhjmdbolnbaaaDoorCards.lean) ties it to the program's text. -/
def laid_math_bits_deBruijn32tab {H : Type} : DataW H := .agg [.lit (.int .u8 0), .lit (.int .u8 1), .lit (.int .u8 28), .lit (.int .u8 2), .lit (.int .u8 29), .lit (.int .u8 14), .lit (.int .u8 24), .lit (.int .u8 3), .lit (.int .u8 30), .lit (.int .u8 22), .lit (.int .u8 20), .lit (.int .u8 15), .lit (.int .u8 25), .lit (.int .u8 17), .lit (.int .u8 4), .lit (.int .u8 8), .lit (.int .u8 31), .lit (.int .u8 27), .lit (.int .u8 13), .lit (.int .u8 23), .lit (.int .u8 21), .lit (.int .u8 19), .lit (.int .u8 16), .lit (.int .u8 7), .lit (.int .u8 26), .lit (.int .u8 12), .lit (.int .u8 18), .lit (.int .u8 6), .lit (.int .u8 11), .lit (.int .u8 5), .lit (.int .u8 10), .lit (.int .u8 9)]
def laid_math_bits_deBruijn64tab {H : Type} : DataW H := .agg [.lit (.int .u8 0), .lit (.int .u8 1), .lit (.int .u8 56), .lit (.int .u8 2), .lit (.int .u8 57), .lit (.int .u8 49), .lit (.int .u8 28), .lit (.int .u8 3), .lit (.int .u8 61), .lit (.int .u8 58), .lit (.int .u8 42), .lit (.int .u8 50), .lit (.int .u8 38), .lit (.int .u8 29), .lit (.int .u8 17), .lit (.int .u8 4), .lit (.int .u8 62), .lit (.int .u8 47), .lit (.int .u8 59), .lit (.int .u8 36), .lit (.int .u8 45), .lit (.int .u8 43), .lit (.int .u8 51), .lit (.int .u8 22), .lit (.int .u8 53), .lit (.int .u8 39), .lit (.int .u8 33), .lit (.int .u8 30), .lit (.int .u8 24), .lit (.int .u8 18), .lit (.int .u8 12), .lit (.int .u8 5), .lit (.int .u8 63), .lit (.int .u8 55), .lit (.int .u8 48), .lit (.int .u8 27), .lit (.int .u8 60), .lit (.int .u8 41), .lit (.int .u8 37), .lit (.int .u8 16), .lit (.int .u8 46), .lit (.int .u8 35), .lit (.int .u8 44), .lit (.int .u8 21), .lit (.int .u8 52), .lit (.int .u8 32), .lit (.int .u8 23), .lit (.int .u8 11), .lit (.int .u8 54), .lit (.int .u8 26), .lit (.int .u8 40), .lit (.int .u8 15), .lit (.int .u8 34), .lit (.int .u8 20), .lit (.int .u8 31), .lit (.int .u8 10), .lit (.int .u8 25), .lit (.int .u8 14), .lit (.int .u8 19), .lit (.int .u8 9), .lit (.int .u8 13), .lit (.int .u8 8), .lit (.int .u8 7), .lit (.int .u8 6)]
def laid_internal_strconv_uint64pow10 {H : Type} : DataW H := .agg [.lit (.int .u64 1), .lit (.int .u64 10), .lit (.int .u64 100), .lit (.int .u64 1000), .lit (.int .u64 10000), .lit (.int .u64 100000), .lit (.int .u64 1000000), .lit (.int .u64 10000000), .lit (.int .u64 100000000), .lit (.int .u64 1000000000), .lit (.int .u64 10000000000), .lit (.int .u64 100000000000), .lit (.int .u64 1000000000000), .lit (.int .u64 10000000000000), .lit (.int .u64 100000000000000), .lit (.int .u64 1000000000000000), .lit (.int .u64 10000000000000000), .lit (.int .u64 100000000000000000), .lit (.int .u64 1000000000000000000), .lit (.int .u64 10000000000000000000)]
def laid_strconv_ErrRange {H : Type} : DataW H := .iface "*errors.errorString" (.ptr (.agg [.lit (.string [118, 97, 108, 117, 101, 32, 111, 117, 116, 32, 111, 102, 32, 114, 97, 110, 103, 101])]))
def laid_strconv_ErrSyntax {H : Type} : DataW H := .iface "*errors.errorString" (.ptr (.agg [.lit (.string [105, 110, 118, 97, 108, 105, 100, 32, 115, 121, 110, 116, 97, 120])]))
def laid_unicode_utf8_acceptRanges {H : Type} : DataW H := .agg [.agg [.lit (.int .u8 128), .lit (.int .u8 191)], .agg [.lit (.int .u8 160), .lit (.int .u8 191)], .agg [.lit (.int .u8 128), .lit (.int .u8 159)], .agg [.lit (.int .u8 144), .lit (.int .u8 191)], .agg [.lit (.int .u8 128), .lit (.int .u8 143)], .agg [.lit (.int .u8 0), .lit (.int .u8 0)], .agg [.lit (.int .u8 0), .lit (.int .u8 0)], .agg [.lit (.int .u8 0), .lit (.int .u8 0)], .agg [.lit (.int .u8 0), .lit (.int .u8 0)], .agg [.lit (.int .u8 0), .lit (.int .u8 0)], .agg [.lit (.int .u8 0), .lit (.int .u8 0)], .agg [.lit (.int .u8 0), .lit (.int .u8 0)], .agg [.lit (.int .u8 0), .lit (.int .u8 0)], .agg [.lit (.int .u8 0), .lit (.int .u8 0)], .agg [.lit (.int .u8 0), .lit (.int .u8 0)], .agg [.lit (.int .u8 0), .lit (.int .u8 0)]]
def laid_slipway_ranges_signs {H : Type} : DataW H := .agg [.lit (.string [42]), .lit (.string [61]), .lit (.string [60]), .lit (.string [60, 61]), .lit (.string [62]), .lit (.string [62, 61]), .lit (.string [94]), .lit (.string [126])]
/-- One of Go's own tables, pinned by name: the form's constant. -/
def laid_unicode_utf8_first : DataW Unit := Go.Pinned.utf8First

/-- 'slipwaylaw01.SemverParses': WHATEVER THE INPUT: true; the input reads as it did. -/
def semverParsesSpec : ChangeSpec := { name := "semverParses", fn := fun _ => fun
  | [d] => { results := [.lit (.bool true)], args := [d] }
  | _ => none }
def semverParsesRow : OpenClaim := { program := "ytbmhjmdbolnbaaadoor", sum := "25f13d5b398f2ff3b345f08bfee6de46e87f1f744e943a0fe7f837c7d439891d", func := "slipway/slipwaylaw01.SemverParses", spec := "semverParses", inPlace := ["internal/bytealg.IndexByteString", "internal/bytealg.IndexString", "internal/bytealg.abigen_runtime_cmpstring"], unfollowed := true, recurses := true, named := ["internal/bytealg.MaxLen", "strconv.ErrSyntax", "strconv.ErrRange", "internal/strconv.uint64pow10", "math/bits.deBruijn32tab", "math/bits.deBruijn64tab"], apart := false, laid := [("math/bits.deBruijn32tab", laid_math_bits_deBruijn32tab), ("math/bits.deBruijn64tab", laid_math_bits_deBruijn64tab), ("internal/strconv.uint64pow10", laid_internal_strconv_uint64pow10), ("strconv.ErrRange", laid_strconv_ErrRange), ("strconv.ErrSyntax", laid_strconv_ErrSyntax)] }
def SemverParsesSaid : Prop := semverParsesRow.holds Tryd.pinned (OpenSpec.ofChange semverParsesSpec)

/-- ITS FALSE NEIGHBOUR: 'it returns false'. Refute it at one input. -/
def semverParsesWrong : ChangeSpec := { name := "semverParses", fn := fun _ => fun
  | [d] => { results := [.lit (.bool false)], args := [d] }
  | _ => none }
def SemverParsesWrongFalsely : Prop := semverParsesRow.holds Tryd.pinned (OpenSpec.ofChange semverParsesWrong)

/-- 'slipwaylaw01.SemverBack': WHATEVER THE INPUT: true; the input reads as it did. -/
def semverBackSpec : ChangeSpec := { name := "semverBack", fn := fun _ => fun
  | [d] => { results := [.lit (.bool true)], args := [d] }
  | _ => none }
def semverBackRow : OpenClaim := { program := "ytbmhjmdbolnbaaadoor", sum := "25f13d5b398f2ff3b345f08bfee6de46e87f1f744e943a0fe7f837c7d439891d", func := "slipway/slipwaylaw01.SemverBack", spec := "semverBack", inPlace := ["internal/bytealg.IndexByteString", "internal/bytealg.IndexString", "internal/bytealg.abigen_runtime_cmpstring"], unfollowed := true, recurses := true, named := ["internal/bytealg.MaxLen", "strconv.ErrSyntax", "strconv.ErrRange", "internal/strconv.uint64pow10", "math/bits.deBruijn32tab", "math/bits.deBruijn64tab"], apart := false, laid := [("math/bits.deBruijn32tab", laid_math_bits_deBruijn32tab), ("math/bits.deBruijn64tab", laid_math_bits_deBruijn64tab), ("internal/strconv.uint64pow10", laid_internal_strconv_uint64pow10), ("strconv.ErrRange", laid_strconv_ErrRange), ("strconv.ErrSyntax", laid_strconv_ErrSyntax)] }
def SemverBackSaid : Prop := semverBackRow.holds Tryd.pinned (OpenSpec.ofChange semverBackSpec)

/-- ITS FALSE NEIGHBOUR: 'it returns false'. Refute it at one input. -/
def semverBackWrong : ChangeSpec := { name := "semverBack", fn := fun _ => fun
  | [d] => { results := [.lit (.bool false)], args := [d] }
  | _ => none }
def SemverBackWrongFalsely : Prop := semverBackRow.holds Tryd.pinned (OpenSpec.ofChange semverBackWrong)

/-- 'slipwaylaw01.SemverCompares': WHATEVER THE INPUT: true; the input reads as it did. -/
def semverComparesSpec : ChangeSpec := { name := "semverCompares", fn := fun _ => fun
  | [d1, d2] => { results := [.lit (.bool true)], args := [d1, d2] }
  | _ => none }
def semverComparesRow : OpenClaim := { program := "ytbmhjmdbolnbaaadoor", sum := "25f13d5b398f2ff3b345f08bfee6de46e87f1f744e943a0fe7f837c7d439891d", func := "slipway/slipwaylaw01.SemverCompares", spec := "semverCompares", inPlace := ["internal/bytealg.IndexByteString", "internal/bytealg.IndexString", "internal/bytealg.abigen_runtime_cmpstring"], unfollowed := true, recurses := true, named := ["internal/bytealg.MaxLen", "strconv.ErrSyntax", "strconv.ErrRange", "internal/strconv.uint64pow10", "math/bits.deBruijn32tab", "math/bits.deBruijn64tab"], apart := false, laid := [("math/bits.deBruijn32tab", laid_math_bits_deBruijn32tab), ("math/bits.deBruijn64tab", laid_math_bits_deBruijn64tab), ("internal/strconv.uint64pow10", laid_internal_strconv_uint64pow10), ("strconv.ErrRange", laid_strconv_ErrRange), ("strconv.ErrSyntax", laid_strconv_ErrSyntax)] }
def SemverComparesSaid : Prop := semverComparesRow.holds Tryd.pinned (OpenSpec.ofChange semverComparesSpec)

/-- ITS FALSE NEIGHBOUR: 'it returns false'. Refute it at one input. -/
def semverComparesWrong : ChangeSpec := { name := "semverCompares", fn := fun _ => fun
  | [d1, d2] => { results := [.lit (.bool false)], args := [d1, d2] }
  | _ => none }
def SemverComparesWrongFalsely : Prop := semverComparesRow.holds Tryd.pinned (OpenSpec.ofChange semverComparesWrong)

/-- 'slipwaylaw01.SemverOrder': WHATEVER THE INPUT: true; the input reads as it did. -/
def semverOrderSpec : ChangeSpec := { name := "semverOrder", fn := fun _ => fun
  | [d1, d2, d3] => { results := [.lit (.bool true)], args := [d1, d2, d3] }
  | _ => none }
def semverOrderRow : OpenClaim := { program := "ytbmhjmdbolnbaaadoor", sum := "25f13d5b398f2ff3b345f08bfee6de46e87f1f744e943a0fe7f837c7d439891d", func := "slipway/slipwaylaw01.SemverOrder", spec := "semverOrder", inPlace := ["internal/bytealg.IndexByteString", "internal/bytealg.IndexString", "internal/bytealg.abigen_runtime_cmpstring"], unfollowed := true, recurses := true, named := ["internal/bytealg.MaxLen", "strconv.ErrSyntax", "strconv.ErrRange", "internal/strconv.uint64pow10", "math/bits.deBruijn32tab", "math/bits.deBruijn64tab"], apart := false, laid := [("math/bits.deBruijn32tab", laid_math_bits_deBruijn32tab), ("math/bits.deBruijn64tab", laid_math_bits_deBruijn64tab), ("internal/strconv.uint64pow10", laid_internal_strconv_uint64pow10), ("strconv.ErrRange", laid_strconv_ErrRange), ("strconv.ErrSyntax", laid_strconv_ErrSyntax)] }
def SemverOrderSaid : Prop := semverOrderRow.holds Tryd.pinned (OpenSpec.ofChange semverOrderSpec)

/-- ITS FALSE NEIGHBOUR: 'it returns false'. Refute it at one input. -/
def semverOrderWrong : ChangeSpec := { name := "semverOrder", fn := fun _ => fun
  | [d1, d2, d3] => { results := [.lit (.bool false)], args := [d1, d2, d3] }
  | _ => none }
def SemverOrderWrongFalsely : Prop := semverOrderRow.holds Tryd.pinned (OpenSpec.ofChange semverOrderWrong)

/-- 'slipwaylaw01.SemverBumps': WHATEVER THE INPUT: true; the input reads as it did. -/
def semverBumpsSpec : ChangeSpec := { name := "semverBumps", fn := fun _ => fun
  | [d1, d2] => { results := [.lit (.bool true)], args := [d1, d2] }
  | _ => none }
def semverBumpsRow : OpenClaim := { program := "ytbmhjmdbolnbaaadoor", sum := "25f13d5b398f2ff3b345f08bfee6de46e87f1f744e943a0fe7f837c7d439891d", func := "slipway/slipwaylaw01.SemverBumps", spec := "semverBumps", inPlace := ["internal/bytealg.IndexByteString", "internal/bytealg.IndexString", "internal/bytealg.abigen_runtime_cmpstring"], unfollowed := true, recurses := true, named := ["internal/bytealg.MaxLen", "strconv.ErrSyntax", "strconv.ErrRange", "internal/strconv.uint64pow10", "math/bits.deBruijn32tab", "math/bits.deBruijn64tab"], apart := false, laid := [("math/bits.deBruijn32tab", laid_math_bits_deBruijn32tab), ("math/bits.deBruijn64tab", laid_math_bits_deBruijn64tab), ("internal/strconv.uint64pow10", laid_internal_strconv_uint64pow10), ("strconv.ErrRange", laid_strconv_ErrRange), ("strconv.ErrSyntax", laid_strconv_ErrSyntax)] }
def SemverBumpsSaid : Prop := semverBumpsRow.holds Tryd.pinned (OpenSpec.ofChange semverBumpsSpec)

/-- ITS FALSE NEIGHBOUR: 'it returns false'. Refute it at one input. -/
def semverBumpsWrong : ChangeSpec := { name := "semverBumps", fn := fun _ => fun
  | [d1, d2] => { results := [.lit (.bool false)], args := [d1, d2] }
  | _ => none }
def SemverBumpsWrongFalsely : Prop := semverBumpsRow.holds Tryd.pinned (OpenSpec.ofChange semverBumpsWrong)

/-- 'slipwaylaw01.SemverTexts': WHATEVER THE INPUT: true; the input reads as it did. -/
def semverTextsSpec : ChangeSpec := { name := "semverTexts", fn := fun _ => fun
  | [d1, d2] => { results := [.lit (.bool true)], args := [d1, d2] }
  | _ => none }
def semverTextsRow : OpenClaim := { program := "ytbmhjmdbolnbaaadoor", sum := "25f13d5b398f2ff3b345f08bfee6de46e87f1f744e943a0fe7f837c7d439891d", func := "slipway/slipwaylaw01.SemverTexts", spec := "semverTexts", inPlace := ["internal/bytealg.IndexByteString", "internal/bytealg.IndexString", "internal/bytealg.abigen_runtime_cmpstring"], unfollowed := true, recurses := true, named := ["internal/bytealg.MaxLen", "strconv.ErrSyntax", "strconv.ErrRange", "internal/strconv.uint64pow10", "math/bits.deBruijn32tab", "math/bits.deBruijn64tab"], apart := false, laid := [("math/bits.deBruijn32tab", laid_math_bits_deBruijn32tab), ("math/bits.deBruijn64tab", laid_math_bits_deBruijn64tab), ("internal/strconv.uint64pow10", laid_internal_strconv_uint64pow10), ("strconv.ErrRange", laid_strconv_ErrRange), ("strconv.ErrSyntax", laid_strconv_ErrSyntax)] }
def SemverTextsSaid : Prop := semverTextsRow.holds Tryd.pinned (OpenSpec.ofChange semverTextsSpec)

/-- ITS FALSE NEIGHBOUR: 'it returns false'. Refute it at one input. -/
def semverTextsWrong : ChangeSpec := { name := "semverTexts", fn := fun _ => fun
  | [d1, d2] => { results := [.lit (.bool false)], args := [d1, d2] }
  | _ => none }
def SemverTextsWrongFalsely : Prop := semverTextsRow.holds Tryd.pinned (OpenSpec.ofChange semverTextsWrong)

/-- 'slipwaylaw01.SemverPres': WHATEVER THE INPUT: true; the input reads as it did. -/
def semverPresSpec : ChangeSpec := { name := "semverPres", fn := fun _ => fun
  | [d1, d2, d3] => { results := [.lit (.bool true)], args := [d1, d2, d3] }
  | _ => none }
def semverPresRow : OpenClaim := { program := "ytbmhjmdbolnbaaadoor", sum := "25f13d5b398f2ff3b345f08bfee6de46e87f1f744e943a0fe7f837c7d439891d", func := "slipway/slipwaylaw01.SemverPres", spec := "semverPres", inPlace := ["internal/bytealg.IndexByteString", "internal/bytealg.IndexString", "internal/bytealg.abigen_runtime_cmpstring"], unfollowed := true, recurses := true, named := ["internal/bytealg.MaxLen", "strconv.ErrSyntax", "strconv.ErrRange", "internal/strconv.uint64pow10", "math/bits.deBruijn32tab", "math/bits.deBruijn64tab"], apart := false, laid := [("math/bits.deBruijn32tab", laid_math_bits_deBruijn32tab), ("math/bits.deBruijn64tab", laid_math_bits_deBruijn64tab), ("internal/strconv.uint64pow10", laid_internal_strconv_uint64pow10), ("strconv.ErrRange", laid_strconv_ErrRange), ("strconv.ErrSyntax", laid_strconv_ErrSyntax)] }
def SemverPresSaid : Prop := semverPresRow.holds Tryd.pinned (OpenSpec.ofChange semverPresSpec)

/-- ITS FALSE NEIGHBOUR: 'it returns false'. Refute it at one input. -/
def semverPresWrong : ChangeSpec := { name := "semverPres", fn := fun _ => fun
  | [d1, d2, d3] => { results := [.lit (.bool false)], args := [d1, d2, d3] }
  | _ => none }
def SemverPresWrongFalsely : Prop := semverPresRow.holds Tryd.pinned (OpenSpec.ofChange semverPresWrong)

/-- 'slipwaylaw01.SemverNumbers': WHATEVER THE INPUT: true; the input reads as it did. -/
def semverNumbersSpec : ChangeSpec := { name := "semverNumbers", fn := fun _ => fun
  | [d1, d2, d3, d4] => { results := [.lit (.bool true)], args := [d1, d2, d3, d4] }
  | _ => none }
def semverNumbersRow : OpenClaim := { program := "ytbmhjmdbolnbaaadoor", sum := "25f13d5b398f2ff3b345f08bfee6de46e87f1f744e943a0fe7f837c7d439891d", func := "slipway/slipwaylaw01.SemverNumbers", spec := "semverNumbers", inPlace := ["internal/bytealg.IndexByteString", "internal/bytealg.IndexString", "internal/bytealg.abigen_runtime_cmpstring"], unfollowed := true, recurses := true, named := ["internal/bytealg.MaxLen", "strconv.ErrSyntax", "strconv.ErrRange", "internal/strconv.uint64pow10", "math/bits.deBruijn32tab", "math/bits.deBruijn64tab"], apart := false, laid := [("math/bits.deBruijn32tab", laid_math_bits_deBruijn32tab), ("math/bits.deBruijn64tab", laid_math_bits_deBruijn64tab), ("internal/strconv.uint64pow10", laid_internal_strconv_uint64pow10), ("strconv.ErrRange", laid_strconv_ErrRange), ("strconv.ErrSyntax", laid_strconv_ErrSyntax)] }
def SemverNumbersSaid : Prop := semverNumbersRow.holds Tryd.pinned (OpenSpec.ofChange semverNumbersSpec)

/-- ITS FALSE NEIGHBOUR: 'it returns false'. Refute it at one input. -/
def semverNumbersWrong : ChangeSpec := { name := "semverNumbers", fn := fun _ => fun
  | [d1, d2, d3, d4] => { results := [.lit (.bool false)], args := [d1, d2, d3, d4] }
  | _ => none }
def SemverNumbersWrongFalsely : Prop := semverNumbersRow.holds Tryd.pinned (OpenSpec.ofChange semverNumbersWrong)

/-- 'slipwaylaw02.RangesParses': WHATEVER THE INPUT: true; the input reads as it did. -/
def rangesParsesSpec : ChangeSpec := { name := "rangesParses", fn := fun _ => fun
  | [d] => { results := [.lit (.bool true)], args := [d] }
  | _ => none }
def rangesParsesRow : OpenClaim := { program := "ytbmhjmdbolnbaaadoor", sum := "25f13d5b398f2ff3b345f08bfee6de46e87f1f744e943a0fe7f837c7d439891d", func := "slipway/slipwaylaw02.RangesParses", spec := "rangesParses", inPlace := ["internal/bytealg.CountString", "internal/bytealg.IndexByteString", "internal/bytealg.IndexString", "internal/bytealg.abigen_runtime_cmpstring"], unfollowed := true, recurses := true, named := ["unicode/utf8.first", "unicode/utf8.acceptRanges", "internal/bytealg.MaxLen", "slipway/ranges.signs", "strconv.ErrSyntax", "strconv.ErrRange", "internal/strconv.uint64pow10", "math/bits.deBruijn32tab", "math/bits.deBruijn64tab"], apart := false, laid := [("math/bits.deBruijn32tab", laid_math_bits_deBruijn32tab), ("math/bits.deBruijn64tab", laid_math_bits_deBruijn64tab), ("internal/strconv.uint64pow10", laid_internal_strconv_uint64pow10), ("unicode/utf8.acceptRanges", laid_unicode_utf8_acceptRanges), ("strconv.ErrRange", laid_strconv_ErrRange), ("strconv.ErrSyntax", laid_strconv_ErrSyntax), ("slipway/ranges.signs", laid_slipway_ranges_signs), ("unicode/utf8.first", laid_unicode_utf8_first)] }
def RangesParsesSaid : Prop := rangesParsesRow.holds Tryd.pinned (OpenSpec.ofChange rangesParsesSpec)

/-- ITS FALSE NEIGHBOUR: 'it returns false'. Refute it at one input. -/
def rangesParsesWrong : ChangeSpec := { name := "rangesParses", fn := fun _ => fun
  | [d] => { results := [.lit (.bool false)], args := [d] }
  | _ => none }
def RangesParsesWrongFalsely : Prop := rangesParsesRow.holds Tryd.pinned (OpenSpec.ofChange rangesParsesWrong)

/-- 'slipwaylaw02.RangesHas': WHATEVER THE INPUT: true; the input reads as it did. -/
def rangesHasSpec : ChangeSpec := { name := "rangesHas", fn := fun _ => fun
  | [d1, d2] => { results := [.lit (.bool true)], args := [d1, d2] }
  | _ => none }
def rangesHasRow : OpenClaim := { program := "ytbmhjmdbolnbaaadoor", sum := "25f13d5b398f2ff3b345f08bfee6de46e87f1f744e943a0fe7f837c7d439891d", func := "slipway/slipwaylaw02.RangesHas", spec := "rangesHas", inPlace := ["internal/bytealg.CountString", "internal/bytealg.IndexByteString", "internal/bytealg.IndexString", "internal/bytealg.abigen_runtime_cmpstring"], unfollowed := true, recurses := true, named := ["unicode/utf8.first", "unicode/utf8.acceptRanges", "internal/bytealg.MaxLen", "slipway/ranges.signs", "strconv.ErrSyntax", "strconv.ErrRange", "internal/strconv.uint64pow10", "math/bits.deBruijn32tab", "math/bits.deBruijn64tab"], apart := false, laid := [("math/bits.deBruijn32tab", laid_math_bits_deBruijn32tab), ("math/bits.deBruijn64tab", laid_math_bits_deBruijn64tab), ("internal/strconv.uint64pow10", laid_internal_strconv_uint64pow10), ("unicode/utf8.acceptRanges", laid_unicode_utf8_acceptRanges), ("strconv.ErrRange", laid_strconv_ErrRange), ("strconv.ErrSyntax", laid_strconv_ErrSyntax), ("slipway/ranges.signs", laid_slipway_ranges_signs), ("unicode/utf8.first", laid_unicode_utf8_first)] }
def RangesHasSaid : Prop := rangesHasRow.holds Tryd.pinned (OpenSpec.ofChange rangesHasSpec)

/-- ITS FALSE NEIGHBOUR: 'it returns false'. Refute it at one input. -/
def rangesHasWrong : ChangeSpec := { name := "rangesHas", fn := fun _ => fun
  | [d1, d2] => { results := [.lit (.bool false)], args := [d1, d2] }
  | _ => none }
def RangesHasWrongFalsely : Prop := rangesHasRow.holds Tryd.pinned (OpenSpec.ofChange rangesHasWrong)

/-- 'slipwaylaw02.RangesPlain': WHATEVER THE INPUT: true; the input reads as it did. -/
def rangesPlainSpec : ChangeSpec := { name := "rangesPlain", fn := fun _ => fun
  | [d1, d2] => { results := [.lit (.bool true)], args := [d1, d2] }
  | _ => none }
def rangesPlainRow : OpenClaim := { program := "ytbmhjmdbolnbaaadoor", sum := "25f13d5b398f2ff3b345f08bfee6de46e87f1f744e943a0fe7f837c7d439891d", func := "slipway/slipwaylaw02.RangesPlain", spec := "rangesPlain", inPlace := ["internal/bytealg.CountString", "internal/bytealg.IndexByteString", "internal/bytealg.IndexString", "internal/bytealg.abigen_runtime_cmpstring"], unfollowed := true, recurses := true, named := ["unicode/utf8.first", "unicode/utf8.acceptRanges", "internal/bytealg.MaxLen", "slipway/ranges.signs", "strconv.ErrSyntax", "strconv.ErrRange", "internal/strconv.uint64pow10", "math/bits.deBruijn32tab", "math/bits.deBruijn64tab"], apart := false, laid := [("math/bits.deBruijn32tab", laid_math_bits_deBruijn32tab), ("math/bits.deBruijn64tab", laid_math_bits_deBruijn64tab), ("internal/strconv.uint64pow10", laid_internal_strconv_uint64pow10), ("unicode/utf8.acceptRanges", laid_unicode_utf8_acceptRanges), ("strconv.ErrRange", laid_strconv_ErrRange), ("strconv.ErrSyntax", laid_strconv_ErrSyntax), ("slipway/ranges.signs", laid_slipway_ranges_signs), ("unicode/utf8.first", laid_unicode_utf8_first)] }
def RangesPlainSaid : Prop := rangesPlainRow.holds Tryd.pinned (OpenSpec.ofChange rangesPlainSpec)

/-- ITS FALSE NEIGHBOUR: 'it returns false'. Refute it at one input. -/
def rangesPlainWrong : ChangeSpec := { name := "rangesPlain", fn := fun _ => fun
  | [d1, d2] => { results := [.lit (.bool false)], args := [d1, d2] }
  | _ => none }
def RangesPlainWrongFalsely : Prop := rangesPlainRow.holds Tryd.pinned (OpenSpec.ofChange rangesPlainWrong)

/-- 'slipwaylaw02.RangesAnd': WHATEVER THE INPUT: true; the input reads as it did. -/
def rangesAndSpec : ChangeSpec := { name := "rangesAnd", fn := fun _ => fun
  | [d1, d2, d3] => { results := [.lit (.bool true)], args := [d1, d2, d3] }
  | _ => none }
def rangesAndRow : OpenClaim := { program := "ytbmhjmdbolnbaaadoor", sum := "25f13d5b398f2ff3b345f08bfee6de46e87f1f744e943a0fe7f837c7d439891d", func := "slipway/slipwaylaw02.RangesAnd", spec := "rangesAnd", inPlace := ["internal/bytealg.CountString", "internal/bytealg.IndexByteString", "internal/bytealg.IndexString", "internal/bytealg.abigen_runtime_cmpstring"], unfollowed := true, recurses := true, named := ["unicode/utf8.first", "unicode/utf8.acceptRanges", "internal/bytealg.MaxLen", "slipway/ranges.signs", "strconv.ErrSyntax", "strconv.ErrRange", "internal/strconv.uint64pow10", "math/bits.deBruijn32tab", "math/bits.deBruijn64tab"], apart := false, laid := [("math/bits.deBruijn32tab", laid_math_bits_deBruijn32tab), ("math/bits.deBruijn64tab", laid_math_bits_deBruijn64tab), ("internal/strconv.uint64pow10", laid_internal_strconv_uint64pow10), ("unicode/utf8.acceptRanges", laid_unicode_utf8_acceptRanges), ("strconv.ErrRange", laid_strconv_ErrRange), ("strconv.ErrSyntax", laid_strconv_ErrSyntax), ("slipway/ranges.signs", laid_slipway_ranges_signs), ("unicode/utf8.first", laid_unicode_utf8_first)] }
def RangesAndSaid : Prop := rangesAndRow.holds Tryd.pinned (OpenSpec.ofChange rangesAndSpec)

/-- ITS FALSE NEIGHBOUR: 'it returns false'. Refute it at one input. -/
def rangesAndWrong : ChangeSpec := { name := "rangesAnd", fn := fun _ => fun
  | [d1, d2, d3] => { results := [.lit (.bool false)], args := [d1, d2, d3] }
  | _ => none }
def RangesAndWrongFalsely : Prop := rangesAndRow.holds Tryd.pinned (OpenSpec.ofChange rangesAndWrong)

/-- 'slipwaylaw02.RangesCaret': WHATEVER THE INPUT: true; the input reads as it did. -/
def rangesCaretSpec : ChangeSpec := { name := "rangesCaret", fn := fun _ => fun
  | [d] => { results := [.lit (.bool true)], args := [d] }
  | _ => none }
def rangesCaretRow : OpenClaim := { program := "ytbmhjmdbolnbaaadoor", sum := "25f13d5b398f2ff3b345f08bfee6de46e87f1f744e943a0fe7f837c7d439891d", func := "slipway/slipwaylaw02.RangesCaret", spec := "rangesCaret", inPlace := ["internal/bytealg.CountString", "internal/bytealg.IndexByteString", "internal/bytealg.IndexString", "internal/bytealg.abigen_runtime_cmpstring"], unfollowed := true, recurses := true, named := ["unicode/utf8.first", "unicode/utf8.acceptRanges", "internal/bytealg.MaxLen", "slipway/ranges.signs", "strconv.ErrSyntax", "strconv.ErrRange", "internal/strconv.uint64pow10", "math/bits.deBruijn32tab", "math/bits.deBruijn64tab"], apart := false, laid := [("math/bits.deBruijn32tab", laid_math_bits_deBruijn32tab), ("math/bits.deBruijn64tab", laid_math_bits_deBruijn64tab), ("internal/strconv.uint64pow10", laid_internal_strconv_uint64pow10), ("unicode/utf8.acceptRanges", laid_unicode_utf8_acceptRanges), ("strconv.ErrRange", laid_strconv_ErrRange), ("strconv.ErrSyntax", laid_strconv_ErrSyntax), ("slipway/ranges.signs", laid_slipway_ranges_signs), ("unicode/utf8.first", laid_unicode_utf8_first)] }
def RangesCaretSaid : Prop := rangesCaretRow.holds Tryd.pinned (OpenSpec.ofChange rangesCaretSpec)

/-- ITS FALSE NEIGHBOUR: 'it returns false'. Refute it at one input. -/
def rangesCaretWrong : ChangeSpec := { name := "rangesCaret", fn := fun _ => fun
  | [d] => { results := [.lit (.bool false)], args := [d] }
  | _ => none }
def RangesCaretWrongFalsely : Prop := rangesCaretRow.holds Tryd.pinned (OpenSpec.ofChange rangesCaretWrong)

/-- 'slipwaylaw02.RangesParts': WHATEVER THE INPUT: true; the input reads as it did. -/
def rangesPartsSpec : ChangeSpec := { name := "rangesParts", fn := fun _ => fun
  | [d1, d2] => { results := [.lit (.bool true)], args := [d1, d2] }
  | _ => none }
def rangesPartsRow : OpenClaim := { program := "ytbmhjmdbolnbaaadoor", sum := "25f13d5b398f2ff3b345f08bfee6de46e87f1f744e943a0fe7f837c7d439891d", func := "slipway/slipwaylaw02.RangesParts", spec := "rangesParts", inPlace := ["internal/bytealg.CountString", "internal/bytealg.IndexByteString", "internal/bytealg.IndexString", "internal/bytealg.abigen_runtime_cmpstring"], unfollowed := true, recurses := true, named := ["unicode/utf8.first", "unicode/utf8.acceptRanges", "internal/bytealg.MaxLen", "slipway/ranges.signs", "strconv.ErrSyntax", "strconv.ErrRange", "internal/strconv.uint64pow10", "math/bits.deBruijn32tab", "math/bits.deBruijn64tab"], apart := false, laid := [("math/bits.deBruijn32tab", laid_math_bits_deBruijn32tab), ("math/bits.deBruijn64tab", laid_math_bits_deBruijn64tab), ("internal/strconv.uint64pow10", laid_internal_strconv_uint64pow10), ("unicode/utf8.acceptRanges", laid_unicode_utf8_acceptRanges), ("strconv.ErrRange", laid_strconv_ErrRange), ("strconv.ErrSyntax", laid_strconv_ErrSyntax), ("slipway/ranges.signs", laid_slipway_ranges_signs), ("unicode/utf8.first", laid_unicode_utf8_first)] }
def RangesPartsSaid : Prop := rangesPartsRow.holds Tryd.pinned (OpenSpec.ofChange rangesPartsSpec)

/-- ITS FALSE NEIGHBOUR: 'it returns false'. Refute it at one input. -/
def rangesPartsWrong : ChangeSpec := { name := "rangesParts", fn := fun _ => fun
  | [d1, d2] => { results := [.lit (.bool false)], args := [d1, d2] }
  | _ => none }
def RangesPartsWrongFalsely : Prop := rangesPartsRow.holds Tryd.pinned (OpenSpec.ofChange rangesPartsWrong)

/-- 'slipwaylaw02.RangesLists': WHATEVER THE INPUT: true; the input reads as it did. -/
def rangesListsSpec : ChangeSpec := { name := "rangesLists", fn := fun _ => fun
  | [d1, d2, d3] => { results := [.lit (.bool true)], args := [d1, d2, d3] }
  | _ => none }
def rangesListsRow : OpenClaim := { program := "ytbmhjmdbolnbaaadoor", sum := "25f13d5b398f2ff3b345f08bfee6de46e87f1f744e943a0fe7f837c7d439891d", func := "slipway/slipwaylaw02.RangesLists", spec := "rangesLists", inPlace := ["internal/bytealg.CountString", "internal/bytealg.IndexByteString", "internal/bytealg.IndexString", "internal/bytealg.abigen_runtime_cmpstring"], unfollowed := true, recurses := true, named := ["unicode/utf8.first", "unicode/utf8.acceptRanges", "internal/bytealg.MaxLen", "slipway/ranges.signs", "strconv.ErrSyntax", "strconv.ErrRange", "internal/strconv.uint64pow10", "math/bits.deBruijn32tab", "math/bits.deBruijn64tab"], apart := false, laid := [("math/bits.deBruijn32tab", laid_math_bits_deBruijn32tab), ("math/bits.deBruijn64tab", laid_math_bits_deBruijn64tab), ("internal/strconv.uint64pow10", laid_internal_strconv_uint64pow10), ("unicode/utf8.acceptRanges", laid_unicode_utf8_acceptRanges), ("strconv.ErrRange", laid_strconv_ErrRange), ("strconv.ErrSyntax", laid_strconv_ErrSyntax), ("slipway/ranges.signs", laid_slipway_ranges_signs), ("unicode/utf8.first", laid_unicode_utf8_first)] }
def RangesListsSaid : Prop := rangesListsRow.holds Tryd.pinned (OpenSpec.ofChange rangesListsSpec)

/-- ITS FALSE NEIGHBOUR: 'it returns false'. Refute it at one input. -/
def rangesListsWrong : ChangeSpec := { name := "rangesLists", fn := fun _ => fun
  | [d1, d2, d3] => { results := [.lit (.bool false)], args := [d1, d2, d3] }
  | _ => none }
def RangesListsWrongFalsely : Prop := rangesListsRow.holds Tryd.pinned (OpenSpec.ofChange rangesListsWrong)

/-- 'slipwaylaw02.RangesTilde': WHATEVER THE INPUT: true; the input reads as it did. -/
def rangesTildeSpec : ChangeSpec := { name := "rangesTilde", fn := fun _ => fun
  | [d1, d2] => { results := [.lit (.bool true)], args := [d1, d2] }
  | _ => none }
def rangesTildeRow : OpenClaim := { program := "ytbmhjmdbolnbaaadoor", sum := "25f13d5b398f2ff3b345f08bfee6de46e87f1f744e943a0fe7f837c7d439891d", func := "slipway/slipwaylaw02.RangesTilde", spec := "rangesTilde", inPlace := ["internal/bytealg.CountString", "internal/bytealg.IndexByteString", "internal/bytealg.IndexString", "internal/bytealg.abigen_runtime_cmpstring"], unfollowed := true, recurses := true, named := ["unicode/utf8.first", "unicode/utf8.acceptRanges", "internal/bytealg.MaxLen", "slipway/ranges.signs", "strconv.ErrSyntax", "strconv.ErrRange", "internal/strconv.uint64pow10", "math/bits.deBruijn32tab", "math/bits.deBruijn64tab"], apart := false, laid := [("math/bits.deBruijn32tab", laid_math_bits_deBruijn32tab), ("math/bits.deBruijn64tab", laid_math_bits_deBruijn64tab), ("internal/strconv.uint64pow10", laid_internal_strconv_uint64pow10), ("unicode/utf8.acceptRanges", laid_unicode_utf8_acceptRanges), ("strconv.ErrRange", laid_strconv_ErrRange), ("strconv.ErrSyntax", laid_strconv_ErrSyntax), ("slipway/ranges.signs", laid_slipway_ranges_signs), ("unicode/utf8.first", laid_unicode_utf8_first)] }
def RangesTildeSaid : Prop := rangesTildeRow.holds Tryd.pinned (OpenSpec.ofChange rangesTildeSpec)

/-- ITS FALSE NEIGHBOUR: 'it returns false'. Refute it at one input. -/
def rangesTildeWrong : ChangeSpec := { name := "rangesTilde", fn := fun _ => fun
  | [d1, d2] => { results := [.lit (.bool false)], args := [d1, d2] }
  | _ => none }
def RangesTildeWrongFalsely : Prop := rangesTildeRow.holds Tryd.pinned (OpenSpec.ofChange rangesTildeWrong)

/- THE SECOND FORM. 'bulk': how many values and letters a reading holds, each counted each time it is reached (what is shared counts as often as it is met; a slice's spare places count too). A statement '..UptoSaid' is the law's where the arguments, and the package variables that the reading takes, are together of bulk at most 1048576: NARROWER than '..Said'. Prove '..Said' where nothing that the law and all that it calls make is longer than what came in: it says more and counts as full. Else prove '..UptoSaid'. A law counts once. -/
mutual
def uptoBulk {H : Type} : DataW H → Nat
  | .lit (.string bytes) => bytes.length + 1
  | .lit _ => 1
  | .nil => 1
  | .ptr d => uptoBulk d + 1
  | .slice elems spare => uptoBulkAll elems + uptoBulkAll spare + 1
  | .agg parts => uptoBulkAll parts + 1
  | .iface _ d => uptoBulk d + 1
  | .map entries => uptoBulkEntries entries + 1
  | .held _ => 1
def uptoBulkAll {H : Type} : List (DataW H) → Nat
  | [] => 0
  | d :: r => uptoBulk d + uptoBulkAll r
def uptoBulkEntries {H : Type} : List (Lit × DataW H) → Nat
  | [] => 0
  | x :: r => uptoBulkEntry x + uptoBulkEntries r
def uptoBulkEntry {H : Type} : Lit × DataW H → Nat
  | (.string bytes, d) => bytes.length + uptoBulk d + 1
  | (_, d) => uptoBulk d + 1
 end
def uptoSmall : (H : Type) → List (DataW H) → Bool := fun _ ds => decide (uptoBulkAll ds ≤ 1048576)
def OpenSpec.upto (s : _root_.Go.ChangeSpec) : _root_.Go.OpenSpec := { _root_.Go.OpenSpec.ofChange s with cond := some uptoSmall }

/-- 'slipwaylaw01.SemverParses', WHERE WHAT IT READS IS OF BULK AT MOST 1048576: true; the input reads as it did. -/
def semverParsesUptoRow : OpenClaim := { program := "ytbmhjmdbolnbaaadoor", sum := "25f13d5b398f2ff3b345f08bfee6de46e87f1f744e943a0fe7f837c7d439891d", func := "slipway/slipwaylaw01.SemverParses", spec := "semverParses", inPlace := ["internal/bytealg.IndexByteString", "internal/bytealg.IndexString", "internal/bytealg.abigen_runtime_cmpstring"], unfollowed := true, recurses := true, named := ["internal/bytealg.MaxLen", "strconv.ErrSyntax", "strconv.ErrRange", "internal/strconv.uint64pow10", "math/bits.deBruijn32tab", "math/bits.deBruijn64tab"], apart := false, laid := [("math/bits.deBruijn32tab", laid_math_bits_deBruijn32tab), ("math/bits.deBruijn64tab", laid_math_bits_deBruijn64tab), ("internal/strconv.uint64pow10", laid_internal_strconv_uint64pow10), ("strconv.ErrRange", laid_strconv_ErrRange), ("strconv.ErrSyntax", laid_strconv_ErrSyntax)], narrowed := true }
def SemverParsesUptoSaid : Prop := semverParsesUptoRow.holds Tryd.pinned (OpenSpec.upto semverParsesSpec)

/-- 'slipwaylaw01.SemverBack', WHERE WHAT IT READS IS OF BULK AT MOST 1048576: true; the input reads as it did. -/
def semverBackUptoRow : OpenClaim := { program := "ytbmhjmdbolnbaaadoor", sum := "25f13d5b398f2ff3b345f08bfee6de46e87f1f744e943a0fe7f837c7d439891d", func := "slipway/slipwaylaw01.SemverBack", spec := "semverBack", inPlace := ["internal/bytealg.IndexByteString", "internal/bytealg.IndexString", "internal/bytealg.abigen_runtime_cmpstring"], unfollowed := true, recurses := true, named := ["internal/bytealg.MaxLen", "strconv.ErrSyntax", "strconv.ErrRange", "internal/strconv.uint64pow10", "math/bits.deBruijn32tab", "math/bits.deBruijn64tab"], apart := false, laid := [("math/bits.deBruijn32tab", laid_math_bits_deBruijn32tab), ("math/bits.deBruijn64tab", laid_math_bits_deBruijn64tab), ("internal/strconv.uint64pow10", laid_internal_strconv_uint64pow10), ("strconv.ErrRange", laid_strconv_ErrRange), ("strconv.ErrSyntax", laid_strconv_ErrSyntax)], narrowed := true }
def SemverBackUptoSaid : Prop := semverBackUptoRow.holds Tryd.pinned (OpenSpec.upto semverBackSpec)

/-- 'slipwaylaw01.SemverCompares', WHERE WHAT IT READS IS OF BULK AT MOST 1048576: true; the input reads as it did. -/
def semverComparesUptoRow : OpenClaim := { program := "ytbmhjmdbolnbaaadoor", sum := "25f13d5b398f2ff3b345f08bfee6de46e87f1f744e943a0fe7f837c7d439891d", func := "slipway/slipwaylaw01.SemverCompares", spec := "semverCompares", inPlace := ["internal/bytealg.IndexByteString", "internal/bytealg.IndexString", "internal/bytealg.abigen_runtime_cmpstring"], unfollowed := true, recurses := true, named := ["internal/bytealg.MaxLen", "strconv.ErrSyntax", "strconv.ErrRange", "internal/strconv.uint64pow10", "math/bits.deBruijn32tab", "math/bits.deBruijn64tab"], apart := false, laid := [("math/bits.deBruijn32tab", laid_math_bits_deBruijn32tab), ("math/bits.deBruijn64tab", laid_math_bits_deBruijn64tab), ("internal/strconv.uint64pow10", laid_internal_strconv_uint64pow10), ("strconv.ErrRange", laid_strconv_ErrRange), ("strconv.ErrSyntax", laid_strconv_ErrSyntax)], narrowed := true }
def SemverComparesUptoSaid : Prop := semverComparesUptoRow.holds Tryd.pinned (OpenSpec.upto semverComparesSpec)

/-- 'slipwaylaw01.SemverOrder', WHERE WHAT IT READS IS OF BULK AT MOST 1048576: true; the input reads as it did. -/
def semverOrderUptoRow : OpenClaim := { program := "ytbmhjmdbolnbaaadoor", sum := "25f13d5b398f2ff3b345f08bfee6de46e87f1f744e943a0fe7f837c7d439891d", func := "slipway/slipwaylaw01.SemverOrder", spec := "semverOrder", inPlace := ["internal/bytealg.IndexByteString", "internal/bytealg.IndexString", "internal/bytealg.abigen_runtime_cmpstring"], unfollowed := true, recurses := true, named := ["internal/bytealg.MaxLen", "strconv.ErrSyntax", "strconv.ErrRange", "internal/strconv.uint64pow10", "math/bits.deBruijn32tab", "math/bits.deBruijn64tab"], apart := false, laid := [("math/bits.deBruijn32tab", laid_math_bits_deBruijn32tab), ("math/bits.deBruijn64tab", laid_math_bits_deBruijn64tab), ("internal/strconv.uint64pow10", laid_internal_strconv_uint64pow10), ("strconv.ErrRange", laid_strconv_ErrRange), ("strconv.ErrSyntax", laid_strconv_ErrSyntax)], narrowed := true }
def SemverOrderUptoSaid : Prop := semverOrderUptoRow.holds Tryd.pinned (OpenSpec.upto semverOrderSpec)

/-- 'slipwaylaw01.SemverBumps', WHERE WHAT IT READS IS OF BULK AT MOST 1048576: true; the input reads as it did. -/
def semverBumpsUptoRow : OpenClaim := { program := "ytbmhjmdbolnbaaadoor", sum := "25f13d5b398f2ff3b345f08bfee6de46e87f1f744e943a0fe7f837c7d439891d", func := "slipway/slipwaylaw01.SemverBumps", spec := "semverBumps", inPlace := ["internal/bytealg.IndexByteString", "internal/bytealg.IndexString", "internal/bytealg.abigen_runtime_cmpstring"], unfollowed := true, recurses := true, named := ["internal/bytealg.MaxLen", "strconv.ErrSyntax", "strconv.ErrRange", "internal/strconv.uint64pow10", "math/bits.deBruijn32tab", "math/bits.deBruijn64tab"], apart := false, laid := [("math/bits.deBruijn32tab", laid_math_bits_deBruijn32tab), ("math/bits.deBruijn64tab", laid_math_bits_deBruijn64tab), ("internal/strconv.uint64pow10", laid_internal_strconv_uint64pow10), ("strconv.ErrRange", laid_strconv_ErrRange), ("strconv.ErrSyntax", laid_strconv_ErrSyntax)], narrowed := true }
def SemverBumpsUptoSaid : Prop := semverBumpsUptoRow.holds Tryd.pinned (OpenSpec.upto semverBumpsSpec)

/-- 'slipwaylaw01.SemverTexts', WHERE WHAT IT READS IS OF BULK AT MOST 1048576: true; the input reads as it did. -/
def semverTextsUptoRow : OpenClaim := { program := "ytbmhjmdbolnbaaadoor", sum := "25f13d5b398f2ff3b345f08bfee6de46e87f1f744e943a0fe7f837c7d439891d", func := "slipway/slipwaylaw01.SemverTexts", spec := "semverTexts", inPlace := ["internal/bytealg.IndexByteString", "internal/bytealg.IndexString", "internal/bytealg.abigen_runtime_cmpstring"], unfollowed := true, recurses := true, named := ["internal/bytealg.MaxLen", "strconv.ErrSyntax", "strconv.ErrRange", "internal/strconv.uint64pow10", "math/bits.deBruijn32tab", "math/bits.deBruijn64tab"], apart := false, laid := [("math/bits.deBruijn32tab", laid_math_bits_deBruijn32tab), ("math/bits.deBruijn64tab", laid_math_bits_deBruijn64tab), ("internal/strconv.uint64pow10", laid_internal_strconv_uint64pow10), ("strconv.ErrRange", laid_strconv_ErrRange), ("strconv.ErrSyntax", laid_strconv_ErrSyntax)], narrowed := true }
def SemverTextsUptoSaid : Prop := semverTextsUptoRow.holds Tryd.pinned (OpenSpec.upto semverTextsSpec)

/-- 'slipwaylaw01.SemverPres', WHERE WHAT IT READS IS OF BULK AT MOST 1048576: true; the input reads as it did. -/
def semverPresUptoRow : OpenClaim := { program := "ytbmhjmdbolnbaaadoor", sum := "25f13d5b398f2ff3b345f08bfee6de46e87f1f744e943a0fe7f837c7d439891d", func := "slipway/slipwaylaw01.SemverPres", spec := "semverPres", inPlace := ["internal/bytealg.IndexByteString", "internal/bytealg.IndexString", "internal/bytealg.abigen_runtime_cmpstring"], unfollowed := true, recurses := true, named := ["internal/bytealg.MaxLen", "strconv.ErrSyntax", "strconv.ErrRange", "internal/strconv.uint64pow10", "math/bits.deBruijn32tab", "math/bits.deBruijn64tab"], apart := false, laid := [("math/bits.deBruijn32tab", laid_math_bits_deBruijn32tab), ("math/bits.deBruijn64tab", laid_math_bits_deBruijn64tab), ("internal/strconv.uint64pow10", laid_internal_strconv_uint64pow10), ("strconv.ErrRange", laid_strconv_ErrRange), ("strconv.ErrSyntax", laid_strconv_ErrSyntax)], narrowed := true }
def SemverPresUptoSaid : Prop := semverPresUptoRow.holds Tryd.pinned (OpenSpec.upto semverPresSpec)

/-- 'slipwaylaw01.SemverNumbers', WHERE WHAT IT READS IS OF BULK AT MOST 1048576: true; the input reads as it did. -/
def semverNumbersUptoRow : OpenClaim := { program := "ytbmhjmdbolnbaaadoor", sum := "25f13d5b398f2ff3b345f08bfee6de46e87f1f744e943a0fe7f837c7d439891d", func := "slipway/slipwaylaw01.SemverNumbers", spec := "semverNumbers", inPlace := ["internal/bytealg.IndexByteString", "internal/bytealg.IndexString", "internal/bytealg.abigen_runtime_cmpstring"], unfollowed := true, recurses := true, named := ["internal/bytealg.MaxLen", "strconv.ErrSyntax", "strconv.ErrRange", "internal/strconv.uint64pow10", "math/bits.deBruijn32tab", "math/bits.deBruijn64tab"], apart := false, laid := [("math/bits.deBruijn32tab", laid_math_bits_deBruijn32tab), ("math/bits.deBruijn64tab", laid_math_bits_deBruijn64tab), ("internal/strconv.uint64pow10", laid_internal_strconv_uint64pow10), ("strconv.ErrRange", laid_strconv_ErrRange), ("strconv.ErrSyntax", laid_strconv_ErrSyntax)], narrowed := true }
def SemverNumbersUptoSaid : Prop := semverNumbersUptoRow.holds Tryd.pinned (OpenSpec.upto semverNumbersSpec)

/-- 'slipwaylaw02.RangesParses', WHERE WHAT IT READS IS OF BULK AT MOST 1048576: true; the input reads as it did. -/
def rangesParsesUptoRow : OpenClaim := { program := "ytbmhjmdbolnbaaadoor", sum := "25f13d5b398f2ff3b345f08bfee6de46e87f1f744e943a0fe7f837c7d439891d", func := "slipway/slipwaylaw02.RangesParses", spec := "rangesParses", inPlace := ["internal/bytealg.CountString", "internal/bytealg.IndexByteString", "internal/bytealg.IndexString", "internal/bytealg.abigen_runtime_cmpstring"], unfollowed := true, recurses := true, named := ["unicode/utf8.first", "unicode/utf8.acceptRanges", "internal/bytealg.MaxLen", "slipway/ranges.signs", "strconv.ErrSyntax", "strconv.ErrRange", "internal/strconv.uint64pow10", "math/bits.deBruijn32tab", "math/bits.deBruijn64tab"], apart := false, laid := [("math/bits.deBruijn32tab", laid_math_bits_deBruijn32tab), ("math/bits.deBruijn64tab", laid_math_bits_deBruijn64tab), ("internal/strconv.uint64pow10", laid_internal_strconv_uint64pow10), ("unicode/utf8.acceptRanges", laid_unicode_utf8_acceptRanges), ("strconv.ErrRange", laid_strconv_ErrRange), ("strconv.ErrSyntax", laid_strconv_ErrSyntax), ("slipway/ranges.signs", laid_slipway_ranges_signs), ("unicode/utf8.first", laid_unicode_utf8_first)], narrowed := true }
def RangesParsesUptoSaid : Prop := rangesParsesUptoRow.holds Tryd.pinned (OpenSpec.upto rangesParsesSpec)

/-- 'slipwaylaw02.RangesHas', WHERE WHAT IT READS IS OF BULK AT MOST 1048576: true; the input reads as it did. -/
def rangesHasUptoRow : OpenClaim := { program := "ytbmhjmdbolnbaaadoor", sum := "25f13d5b398f2ff3b345f08bfee6de46e87f1f744e943a0fe7f837c7d439891d", func := "slipway/slipwaylaw02.RangesHas", spec := "rangesHas", inPlace := ["internal/bytealg.CountString", "internal/bytealg.IndexByteString", "internal/bytealg.IndexString", "internal/bytealg.abigen_runtime_cmpstring"], unfollowed := true, recurses := true, named := ["unicode/utf8.first", "unicode/utf8.acceptRanges", "internal/bytealg.MaxLen", "slipway/ranges.signs", "strconv.ErrSyntax", "strconv.ErrRange", "internal/strconv.uint64pow10", "math/bits.deBruijn32tab", "math/bits.deBruijn64tab"], apart := false, laid := [("math/bits.deBruijn32tab", laid_math_bits_deBruijn32tab), ("math/bits.deBruijn64tab", laid_math_bits_deBruijn64tab), ("internal/strconv.uint64pow10", laid_internal_strconv_uint64pow10), ("unicode/utf8.acceptRanges", laid_unicode_utf8_acceptRanges), ("strconv.ErrRange", laid_strconv_ErrRange), ("strconv.ErrSyntax", laid_strconv_ErrSyntax), ("slipway/ranges.signs", laid_slipway_ranges_signs), ("unicode/utf8.first", laid_unicode_utf8_first)], narrowed := true }
def RangesHasUptoSaid : Prop := rangesHasUptoRow.holds Tryd.pinned (OpenSpec.upto rangesHasSpec)

/-- 'slipwaylaw02.RangesPlain', WHERE WHAT IT READS IS OF BULK AT MOST 1048576: true; the input reads as it did. -/
def rangesPlainUptoRow : OpenClaim := { program := "ytbmhjmdbolnbaaadoor", sum := "25f13d5b398f2ff3b345f08bfee6de46e87f1f744e943a0fe7f837c7d439891d", func := "slipway/slipwaylaw02.RangesPlain", spec := "rangesPlain", inPlace := ["internal/bytealg.CountString", "internal/bytealg.IndexByteString", "internal/bytealg.IndexString", "internal/bytealg.abigen_runtime_cmpstring"], unfollowed := true, recurses := true, named := ["unicode/utf8.first", "unicode/utf8.acceptRanges", "internal/bytealg.MaxLen", "slipway/ranges.signs", "strconv.ErrSyntax", "strconv.ErrRange", "internal/strconv.uint64pow10", "math/bits.deBruijn32tab", "math/bits.deBruijn64tab"], apart := false, laid := [("math/bits.deBruijn32tab", laid_math_bits_deBruijn32tab), ("math/bits.deBruijn64tab", laid_math_bits_deBruijn64tab), ("internal/strconv.uint64pow10", laid_internal_strconv_uint64pow10), ("unicode/utf8.acceptRanges", laid_unicode_utf8_acceptRanges), ("strconv.ErrRange", laid_strconv_ErrRange), ("strconv.ErrSyntax", laid_strconv_ErrSyntax), ("slipway/ranges.signs", laid_slipway_ranges_signs), ("unicode/utf8.first", laid_unicode_utf8_first)], narrowed := true }
def RangesPlainUptoSaid : Prop := rangesPlainUptoRow.holds Tryd.pinned (OpenSpec.upto rangesPlainSpec)

/-- 'slipwaylaw02.RangesAnd', WHERE WHAT IT READS IS OF BULK AT MOST 1048576: true; the input reads as it did. -/
def rangesAndUptoRow : OpenClaim := { program := "ytbmhjmdbolnbaaadoor", sum := "25f13d5b398f2ff3b345f08bfee6de46e87f1f744e943a0fe7f837c7d439891d", func := "slipway/slipwaylaw02.RangesAnd", spec := "rangesAnd", inPlace := ["internal/bytealg.CountString", "internal/bytealg.IndexByteString", "internal/bytealg.IndexString", "internal/bytealg.abigen_runtime_cmpstring"], unfollowed := true, recurses := true, named := ["unicode/utf8.first", "unicode/utf8.acceptRanges", "internal/bytealg.MaxLen", "slipway/ranges.signs", "strconv.ErrSyntax", "strconv.ErrRange", "internal/strconv.uint64pow10", "math/bits.deBruijn32tab", "math/bits.deBruijn64tab"], apart := false, laid := [("math/bits.deBruijn32tab", laid_math_bits_deBruijn32tab), ("math/bits.deBruijn64tab", laid_math_bits_deBruijn64tab), ("internal/strconv.uint64pow10", laid_internal_strconv_uint64pow10), ("unicode/utf8.acceptRanges", laid_unicode_utf8_acceptRanges), ("strconv.ErrRange", laid_strconv_ErrRange), ("strconv.ErrSyntax", laid_strconv_ErrSyntax), ("slipway/ranges.signs", laid_slipway_ranges_signs), ("unicode/utf8.first", laid_unicode_utf8_first)], narrowed := true }
def RangesAndUptoSaid : Prop := rangesAndUptoRow.holds Tryd.pinned (OpenSpec.upto rangesAndSpec)

/-- 'slipwaylaw02.RangesCaret', WHERE WHAT IT READS IS OF BULK AT MOST 1048576: true; the input reads as it did. -/
def rangesCaretUptoRow : OpenClaim := { program := "ytbmhjmdbolnbaaadoor", sum := "25f13d5b398f2ff3b345f08bfee6de46e87f1f744e943a0fe7f837c7d439891d", func := "slipway/slipwaylaw02.RangesCaret", spec := "rangesCaret", inPlace := ["internal/bytealg.CountString", "internal/bytealg.IndexByteString", "internal/bytealg.IndexString", "internal/bytealg.abigen_runtime_cmpstring"], unfollowed := true, recurses := true, named := ["unicode/utf8.first", "unicode/utf8.acceptRanges", "internal/bytealg.MaxLen", "slipway/ranges.signs", "strconv.ErrSyntax", "strconv.ErrRange", "internal/strconv.uint64pow10", "math/bits.deBruijn32tab", "math/bits.deBruijn64tab"], apart := false, laid := [("math/bits.deBruijn32tab", laid_math_bits_deBruijn32tab), ("math/bits.deBruijn64tab", laid_math_bits_deBruijn64tab), ("internal/strconv.uint64pow10", laid_internal_strconv_uint64pow10), ("unicode/utf8.acceptRanges", laid_unicode_utf8_acceptRanges), ("strconv.ErrRange", laid_strconv_ErrRange), ("strconv.ErrSyntax", laid_strconv_ErrSyntax), ("slipway/ranges.signs", laid_slipway_ranges_signs), ("unicode/utf8.first", laid_unicode_utf8_first)], narrowed := true }
def RangesCaretUptoSaid : Prop := rangesCaretUptoRow.holds Tryd.pinned (OpenSpec.upto rangesCaretSpec)

/-- 'slipwaylaw02.RangesParts', WHERE WHAT IT READS IS OF BULK AT MOST 1048576: true; the input reads as it did. -/
def rangesPartsUptoRow : OpenClaim := { program := "ytbmhjmdbolnbaaadoor", sum := "25f13d5b398f2ff3b345f08bfee6de46e87f1f744e943a0fe7f837c7d439891d", func := "slipway/slipwaylaw02.RangesParts", spec := "rangesParts", inPlace := ["internal/bytealg.CountString", "internal/bytealg.IndexByteString", "internal/bytealg.IndexString", "internal/bytealg.abigen_runtime_cmpstring"], unfollowed := true, recurses := true, named := ["unicode/utf8.first", "unicode/utf8.acceptRanges", "internal/bytealg.MaxLen", "slipway/ranges.signs", "strconv.ErrSyntax", "strconv.ErrRange", "internal/strconv.uint64pow10", "math/bits.deBruijn32tab", "math/bits.deBruijn64tab"], apart := false, laid := [("math/bits.deBruijn32tab", laid_math_bits_deBruijn32tab), ("math/bits.deBruijn64tab", laid_math_bits_deBruijn64tab), ("internal/strconv.uint64pow10", laid_internal_strconv_uint64pow10), ("unicode/utf8.acceptRanges", laid_unicode_utf8_acceptRanges), ("strconv.ErrRange", laid_strconv_ErrRange), ("strconv.ErrSyntax", laid_strconv_ErrSyntax), ("slipway/ranges.signs", laid_slipway_ranges_signs), ("unicode/utf8.first", laid_unicode_utf8_first)], narrowed := true }
def RangesPartsUptoSaid : Prop := rangesPartsUptoRow.holds Tryd.pinned (OpenSpec.upto rangesPartsSpec)

/-- 'slipwaylaw02.RangesLists', WHERE WHAT IT READS IS OF BULK AT MOST 1048576: true; the input reads as it did. -/
def rangesListsUptoRow : OpenClaim := { program := "ytbmhjmdbolnbaaadoor", sum := "25f13d5b398f2ff3b345f08bfee6de46e87f1f744e943a0fe7f837c7d439891d", func := "slipway/slipwaylaw02.RangesLists", spec := "rangesLists", inPlace := ["internal/bytealg.CountString", "internal/bytealg.IndexByteString", "internal/bytealg.IndexString", "internal/bytealg.abigen_runtime_cmpstring"], unfollowed := true, recurses := true, named := ["unicode/utf8.first", "unicode/utf8.acceptRanges", "internal/bytealg.MaxLen", "slipway/ranges.signs", "strconv.ErrSyntax", "strconv.ErrRange", "internal/strconv.uint64pow10", "math/bits.deBruijn32tab", "math/bits.deBruijn64tab"], apart := false, laid := [("math/bits.deBruijn32tab", laid_math_bits_deBruijn32tab), ("math/bits.deBruijn64tab", laid_math_bits_deBruijn64tab), ("internal/strconv.uint64pow10", laid_internal_strconv_uint64pow10), ("unicode/utf8.acceptRanges", laid_unicode_utf8_acceptRanges), ("strconv.ErrRange", laid_strconv_ErrRange), ("strconv.ErrSyntax", laid_strconv_ErrSyntax), ("slipway/ranges.signs", laid_slipway_ranges_signs), ("unicode/utf8.first", laid_unicode_utf8_first)], narrowed := true }
def RangesListsUptoSaid : Prop := rangesListsUptoRow.holds Tryd.pinned (OpenSpec.upto rangesListsSpec)

/-- 'slipwaylaw02.RangesTilde', WHERE WHAT IT READS IS OF BULK AT MOST 1048576: true; the input reads as it did. -/
def rangesTildeUptoRow : OpenClaim := { program := "ytbmhjmdbolnbaaadoor", sum := "25f13d5b398f2ff3b345f08bfee6de46e87f1f744e943a0fe7f837c7d439891d", func := "slipway/slipwaylaw02.RangesTilde", spec := "rangesTilde", inPlace := ["internal/bytealg.CountString", "internal/bytealg.IndexByteString", "internal/bytealg.IndexString", "internal/bytealg.abigen_runtime_cmpstring"], unfollowed := true, recurses := true, named := ["unicode/utf8.first", "unicode/utf8.acceptRanges", "internal/bytealg.MaxLen", "slipway/ranges.signs", "strconv.ErrSyntax", "strconv.ErrRange", "internal/strconv.uint64pow10", "math/bits.deBruijn32tab", "math/bits.deBruijn64tab"], apart := false, laid := [("math/bits.deBruijn32tab", laid_math_bits_deBruijn32tab), ("math/bits.deBruijn64tab", laid_math_bits_deBruijn64tab), ("internal/strconv.uint64pow10", laid_internal_strconv_uint64pow10), ("unicode/utf8.acceptRanges", laid_unicode_utf8_acceptRanges), ("strconv.ErrRange", laid_strconv_ErrRange), ("strconv.ErrSyntax", laid_strconv_ErrSyntax), ("slipway/ranges.signs", laid_slipway_ranges_signs), ("unicode/utf8.first", laid_unicode_utf8_first)], narrowed := true }
def RangesTildeUptoSaid : Prop := rangesTildeUptoRow.holds Tryd.pinned (OpenSpec.upto rangesTildeSpec)

end Rows
end Go.Proofs.YtbmhjmdbolnbaaaDoor
