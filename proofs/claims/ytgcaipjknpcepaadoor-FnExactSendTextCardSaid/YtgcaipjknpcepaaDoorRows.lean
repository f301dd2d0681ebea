/-
  NARROWER THAN 'FOR EVERY INPUT', by the rows' own cells (each row's printed sentence says how): FnExactMorseOf: laid · FnExactLetterOf: laid · FnExactMorseLength: laid · FnExactLettersLike: laid · FnExactSendText: laid · FnExactReadSignal: laid · FnExactSpellText: laid · FnMorse: laid · FnExactPhasesText: laid · FnExactReadPhases: laid.
  DERIVED. THE GIVEN ROWS OF THIS SEAT. 10 by the template 'for every input the law returns true; each argument reads behind the call as it read before'; 0 by the template 'total and deterministic' (their statements: YtgcaipjknpcepaaDoorTotals.lean).
  GIVEN WITH THE SEED: the statements are not yours to turn. If you find one false, say at which input.
  Laid BY PROGRAM, IN A SANDBOX (cutbox-rows.mjs): the forced cells as the released guide's own fill.sh prints them over the translation cfae40d4213bb622… (all of the seat's roots in one cut). By AI agents, Wed Nov 11 2026. No macro, syntax, notation, axiom, sorry.
-/
import Derived.Test.YtgcaipjknpcepaaDoorChecked
import GoSem.PinnedTables
import GoSem.Claim
import GoSem.ClaimJoined
import GoSem.ClaimMapViews
import Derived.JoinedTies
import Derived.KernelRfl
namespace Go.Proofs.YtgcaipjknpcepaaDoor
/- THE CELL 'sum', in the pinned program and in every row, IS THE sha256 OF THE DUMP (.gsa) THAT YtgcaipjknpcepaaDoorProg.lean LOADS. Nothing in Lean hashes anything: it is a label: what it is worth is what the hold of that sum in a sandbox is worth. -/
noncomputable def Tryd.pinned : Pinned := { name := "ytgcaipjknpcepaadoor", sum := "cfae40d4213bb622838e341baff39667a457822523882e553295e3dc6d54e651", checked := Tryd.checked }
namespace Rows
def none {H : Type} : Left H := { results := [], args := [] }

/- WHAT THE LISTED PACKAGE-LEVEL VARIABLES READ AS WHEN THE CALL BEGINS. Each datum BY PROGRAM (the guide's laid-datum.mjs) off the statement by which the dump's own 'gosem.cut.vars' lays the variable. In a bare row this is a premise. The card (YtgcaipjknpcepaaDoorCards.lean) ties it to the program's text. -/
def laid_loop_example_g00953_impl_morseSigns {H : Type} : DataW H := .agg [.lit (.string [46, 45]), .lit (.string [45, 46, 46, 46]), .lit (.string [45, 46, 45, 46]), .lit (.string [45, 46, 46]), .lit (.string [46]), .lit (.string [46, 46, 45, 46]), .lit (.string [45, 45, 46]), .lit (.string [46, 46, 46, 46]), .lit (.string [46, 46]), .lit (.string [46, 45, 45, 45]), .lit (.string [45, 46, 45]), .lit (.string [46, 45, 46, 46]), .lit (.string [45, 45]), .lit (.string [45, 46]), .lit (.string [45, 45, 45]), .lit (.string [46, 45, 45, 46]), .lit (.string [45, 45, 46, 45]), .lit (.string [46, 45, 46]), .lit (.string [46, 46, 46]), .lit (.string [45]), .lit (.string [46, 46, 45]), .lit (.string [46, 46, 46, 45]), .lit (.string [46, 45, 45]), .lit (.string [45, 46, 46, 45]), .lit (.string [45, 46, 45, 45]), .lit (.string [45, 45, 46, 46])]
def laid_unicode_utf8_acceptRanges {H : Type} : DataW H := .agg [.agg [.lit (.int .u8 128), .lit (.int .u8 191)], .agg [.lit (.int .u8 160), .lit (.int .u8 191)], .agg [.lit (.int .u8 128), .lit (.int .u8 159)], .agg [.lit (.int .u8 144), .lit (.int .u8 191)], .agg [.lit (.int .u8 128), .lit (.int .u8 143)], .agg [.lit (.int .u8 0), .lit (.int .u8 0)], .agg [.lit (.int .u8 0), .lit (.int .u8 0)], .agg [.lit (.int .u8 0), .lit (.int .u8 0)], .agg [.lit (.int .u8 0), .lit (.int .u8 0)], .agg [.lit (.int .u8 0), .lit (.int .u8 0)], .agg [.lit (.int .u8 0), .lit (.int .u8 0)], .agg [.lit (.int .u8 0), .lit (.int .u8 0)], .agg [.lit (.int .u8 0), .lit (.int .u8 0)], .agg [.lit (.int .u8 0), .lit (.int .u8 0)], .agg [.lit (.int .u8 0), .lit (.int .u8 0)], .agg [.lit (.int .u8 0), .lit (.int .u8 0)]]
/-- One of Go's own tables, pinned by name: the form's constant. -/
def laid_unicode_utf8_first : DataW Unit := Go.Pinned.utf8First
def laid_math_bits_deBruijn32tab {H : Type} : DataW H := .agg [.lit (.int .u8 0), .lit (.int .u8 1), .lit (.int .u8 28), .lit (.int .u8 2), .lit (.int .u8 29), .lit (.int .u8 14), .lit (.int .u8 24), .lit (.int .u8 3), .lit (.int .u8 30), .lit (.int .u8 22), .lit (.int .u8 20), .lit (.int .u8 15), .lit (.int .u8 25), .lit (.int .u8 17), .lit (.int .u8 4), .lit (.int .u8 8), .lit (.int .u8 31), .lit (.int .u8 27), .lit (.int .u8 13), .lit (.int .u8 23), .lit (.int .u8 21), .lit (.int .u8 19), .lit (.int .u8 16), .lit (.int .u8 7), .lit (.int .u8 26), .lit (.int .u8 12), .lit (.int .u8 18), .lit (.int .u8 6), .lit (.int .u8 11), .lit (.int .u8 5), .lit (.int .u8 10), .lit (.int .u8 9)]
def laid_math_bits_deBruijn64tab {H : Type} : DataW H := .agg [.lit (.int .u8 0), .lit (.int .u8 1), .lit (.int .u8 56), .lit (.int .u8 2), .lit (.int .u8 57), .lit (.int .u8 49), .lit (.int .u8 28), .lit (.int .u8 3), .lit (.int .u8 61), .lit (.int .u8 58), .lit (.int .u8 42), .lit (.int .u8 50), .lit (.int .u8 38), .lit (.int .u8 29), .lit (.int .u8 17), .lit (.int .u8 4), .lit (.int .u8 62), .lit (.int .u8 47), .lit (.int .u8 59), .lit (.int .u8 36), .lit (.int .u8 45), .lit (.int .u8 43), .lit (.int .u8 51), .lit (.int .u8 22), .lit (.int .u8 53), .lit (.int .u8 39), .lit (.int .u8 33), .lit (.int .u8 30), .lit (.int .u8 24), .lit (.int .u8 18), .lit (.int .u8 12), .lit (.int .u8 5), .lit (.int .u8 63), .lit (.int .u8 55), .lit (.int .u8 48), .lit (.int .u8 27), .lit (.int .u8 60), .lit (.int .u8 41), .lit (.int .u8 37), .lit (.int .u8 16), .lit (.int .u8 46), .lit (.int .u8 35), .lit (.int .u8 44), .lit (.int .u8 21), .lit (.int .u8 52), .lit (.int .u8 32), .lit (.int .u8 23), .lit (.int .u8 11), .lit (.int .u8 54), .lit (.int .u8 26), .lit (.int .u8 40), .lit (.int .u8 15), .lit (.int .u8 34), .lit (.int .u8 20), .lit (.int .u8 31), .lit (.int .u8 10), .lit (.int .u8 25), .lit (.int .u8 14), .lit (.int .u8 19), .lit (.int .u8 9), .lit (.int .u8 13), .lit (.int .u8 8), .lit (.int .u8 7), .lit (.int .u8 6)]
def laid_internal_strconv_uint64pow10 {H : Type} : DataW H := .agg [.lit (.int .u64 1), .lit (.int .u64 10), .lit (.int .u64 100), .lit (.int .u64 1000), .lit (.int .u64 10000), .lit (.int .u64 100000), .lit (.int .u64 1000000), .lit (.int .u64 10000000), .lit (.int .u64 100000000), .lit (.int .u64 1000000000), .lit (.int .u64 10000000000), .lit (.int .u64 100000000000), .lit (.int .u64 1000000000000), .lit (.int .u64 10000000000000), .lit (.int .u64 100000000000000), .lit (.int .u64 1000000000000000), .lit (.int .u64 10000000000000000), .lit (.int .u64 100000000000000000), .lit (.int .u64 1000000000000000000), .lit (.int .u64 10000000000000000000)]
def laid_strconv_ErrRange {H : Type} : DataW H := .iface "*errors.errorString" (.ptr (.agg [.lit (.string [118, 97, 108, 117, 101, 32, 111, 117, 116, 32, 111, 102, 32, 114, 97, 110, 103, 101])]))
def laid_strconv_ErrSyntax {H : Type} : DataW H := .iface "*errors.errorString" (.ptr (.agg [.lit (.string [105, 110, 118, 97, 108, 105, 100, 32, 115, 121, 110, 116, 97, 120])]))

/-- 'laws.FnExactMorseOf': WHATEVER THE INPUT: true; the input reads as it did. -/
def fnExactMorseOfSpec : ChangeSpec := { name := "fnExactMorseOf", vars := ["loop.example/g00953/impl.morseSigns"], fn := fun _ => fun
  | [d, g1] => { results := [.lit (.bool true)], args := [d], vars := [g1] }
  | _ => none }
def fnExactMorseOfRow : OpenClaim := { program := "ytgcaipjknpcepaadoor", sum := "cfae40d4213bb622838e341baff39667a457822523882e553295e3dc6d54e651", func := "loop.example/g00953/laws.FnExactMorseOf", spec := "fnExactMorseOf", named := ["loop.example/g00953/impl.morseSigns"], apart := false, laid := [("loop.example/g00953/impl.morseSigns", laid_loop_example_g00953_impl_morseSigns)] }
def FnExactMorseOfSaid : Prop := fnExactMorseOfRow.holds Tryd.pinned (OpenSpec.ofChange fnExactMorseOfSpec)

/-- ITS FALSE NEIGHBOUR: 'it returns false'. Refute it at one input. -/
def fnExactMorseOfWrong : ChangeSpec := { name := "fnExactMorseOf", vars := ["loop.example/g00953/impl.morseSigns"], fn := fun _ => fun
  | [d, g1] => { results := [.lit (.bool false)], args := [d], vars := [g1] }
  | _ => none }
def FnExactMorseOfWrongFalsely : Prop := fnExactMorseOfRow.holds Tryd.pinned (OpenSpec.ofChange fnExactMorseOfWrong)

/-- 'laws.FnExactLetterOf': WHATEVER THE INPUT: true; the input reads as it did. -/
def fnExactLetterOfSpec : ChangeSpec := { name := "fnExactLetterOf", vars := ["loop.example/g00953/impl.morseSigns"], fn := fun _ => fun
  | [d, g1] => { results := [.lit (.bool true)], args := [d], vars := [g1] }
  | _ => none }
def fnExactLetterOfRow : OpenClaim := { program := "ytgcaipjknpcepaadoor", sum := "cfae40d4213bb622838e341baff39667a457822523882e553295e3dc6d54e651", func := "loop.example/g00953/laws.FnExactLetterOf", spec := "fnExactLetterOf", unfollowed := true, recurses := true, named := ["loop.example/g00953/impl.morseSigns"], apart := false, laid := [("loop.example/g00953/impl.morseSigns", laid_loop_example_g00953_impl_morseSigns)] }
def FnExactLetterOfSaid : Prop := fnExactLetterOfRow.holds Tryd.pinned (OpenSpec.ofChange fnExactLetterOfSpec)

/-- ITS FALSE NEIGHBOUR: 'it returns false'. Refute it at one input. -/
def fnExactLetterOfWrong : ChangeSpec := { name := "fnExactLetterOf", vars := ["loop.example/g00953/impl.morseSigns"], fn := fun _ => fun
  | [d, g1] => { results := [.lit (.bool false)], args := [d], vars := [g1] }
  | _ => none }
def FnExactLetterOfWrongFalsely : Prop := fnExactLetterOfRow.holds Tryd.pinned (OpenSpec.ofChange fnExactLetterOfWrong)

/-- 'laws.FnExactMorseLength': WHATEVER THE INPUT: true; the input reads as it did. -/
def fnExactMorseLengthSpec : ChangeSpec := { name := "fnExactMorseLength", vars := ["loop.example/g00953/impl.morseSigns"], fn := fun _ => fun
  | [d, g1] => { results := [.lit (.bool true)], args := [d], vars := [g1] }
  | _ => none }
def fnExactMorseLengthRow : OpenClaim := { program := "ytgcaipjknpcepaadoor", sum := "cfae40d4213bb622838e341baff39667a457822523882e553295e3dc6d54e651", func := "loop.example/g00953/laws.FnExactMorseLength", spec := "fnExactMorseLength", named := ["loop.example/g00953/impl.morseSigns"], apart := false, laid := [("loop.example/g00953/impl.morseSigns", laid_loop_example_g00953_impl_morseSigns)] }
def FnExactMorseLengthSaid : Prop := fnExactMorseLengthRow.holds Tryd.pinned (OpenSpec.ofChange fnExactMorseLengthSpec)

/-- ITS FALSE NEIGHBOUR: 'it returns false'. Refute it at one input. -/
def fnExactMorseLengthWrong : ChangeSpec := { name := "fnExactMorseLength", vars := ["loop.example/g00953/impl.morseSigns"], fn := fun _ => fun
  | [d, g1] => { results := [.lit (.bool false)], args := [d], vars := [g1] }
  | _ => none }
def FnExactMorseLengthWrongFalsely : Prop := fnExactMorseLengthRow.holds Tryd.pinned (OpenSpec.ofChange fnExactMorseLengthWrong)

/-- 'laws.FnExactLettersLike': WHATEVER THE INPUT: true; the input reads as it did. -/
def fnExactLettersLikeSpec : ChangeSpec := { name := "fnExactLettersLike", vars := ["loop.example/g00953/impl.morseSigns"], fn := fun _ => fun
  | [d, g1] => { results := [.lit (.bool true)], args := [d], vars := [g1] }
  | _ => none }
def fnExactLettersLikeRow : OpenClaim := { program := "ytgcaipjknpcepaadoor", sum := "cfae40d4213bb622838e341baff39667a457822523882e553295e3dc6d54e651", func := "loop.example/g00953/laws.FnExactLettersLike", spec := "fnExactLettersLike", inPlace := ["internal/bytealg.IndexByteString", "internal/bytealg.IndexString"], unfollowed := true, recurses := true, named := ["unicode/utf8.first", "unicode/utf8.acceptRanges", "loop.example/g00953/impl.morseSigns", "internal/bytealg.MaxLen"], apart := false, laid := [("unicode/utf8.acceptRanges", laid_unicode_utf8_acceptRanges), ("loop.example/g00953/impl.morseSigns", laid_loop_example_g00953_impl_morseSigns), ("unicode/utf8.first", laid_unicode_utf8_first)] }
def FnExactLettersLikeSaid : Prop := fnExactLettersLikeRow.holds Tryd.pinned (OpenSpec.ofChange fnExactLettersLikeSpec)

/-- ITS FALSE NEIGHBOUR: 'it returns false'. Refute it at one input. -/
def fnExactLettersLikeWrong : ChangeSpec := { name := "fnExactLettersLike", vars := ["loop.example/g00953/impl.morseSigns"], fn := fun _ => fun
  | [d, g1] => { results := [.lit (.bool false)], args := [d], vars := [g1] }
  | _ => none }
def FnExactLettersLikeWrongFalsely : Prop := fnExactLettersLikeRow.holds Tryd.pinned (OpenSpec.ofChange fnExactLettersLikeWrong)

/-- 'laws.FnExactSendText': WHATEVER THE INPUT: true; the input reads as it did. -/
def fnExactSendTextSpec : ChangeSpec := { name := "fnExactSendText", vars := ["loop.example/g00953/impl.morseSigns"], fn := fun _ => fun
  | [d1, d2, d3, g1] => { results := [.lit (.bool true)], args := [d1, d2, d3], vars := [g1] }
  | _ => none }
def fnExactSendTextRow : OpenClaim := { program := "ytgcaipjknpcepaadoor", sum := "cfae40d4213bb622838e341baff39667a457822523882e553295e3dc6d54e651", func := "loop.example/g00953/laws.FnExactSendText", spec := "fnExactSendText", inPlace := ["internal/bytealg.CountString", "internal/bytealg.IndexByteString", "internal/bytealg.IndexString"], named := ["unicode/utf8.first", "unicode/utf8.acceptRanges", "internal/bytealg.MaxLen", "loop.example/g00953/impl.morseSigns"], apart := false, laid := [("unicode/utf8.acceptRanges", laid_unicode_utf8_acceptRanges), ("loop.example/g00953/impl.morseSigns", laid_loop_example_g00953_impl_morseSigns), ("unicode/utf8.first", laid_unicode_utf8_first)] }
def FnExactSendTextSaid : Prop := fnExactSendTextRow.holds Tryd.pinned (OpenSpec.ofChange fnExactSendTextSpec)

/-- ITS FALSE NEIGHBOUR: 'it returns false'. Refute it at one input. -/
def fnExactSendTextWrong : ChangeSpec := { name := "fnExactSendText", vars := ["loop.example/g00953/impl.morseSigns"], fn := fun _ => fun
  | [d1, d2, d3, g1] => { results := [.lit (.bool false)], args := [d1, d2, d3], vars := [g1] }
  | _ => none }
def FnExactSendTextWrongFalsely : Prop := fnExactSendTextRow.holds Tryd.pinned (OpenSpec.ofChange fnExactSendTextWrong)

/-- 'laws.FnExactReadSignal': WHATEVER THE INPUT: true; the input reads as it did. -/
def fnExactReadSignalSpec : ChangeSpec := { name := "fnExactReadSignal", vars := ["loop.example/g00953/impl.morseSigns"], fn := fun _ => fun
  | [d1, d2, g1] => { results := [.lit (.bool true)], args := [d1, d2], vars := [g1] }
  | _ => none }
def fnExactReadSignalRow : OpenClaim := { program := "ytgcaipjknpcepaadoor", sum := "cfae40d4213bb622838e341baff39667a457822523882e553295e3dc6d54e651", func := "loop.example/g00953/laws.FnExactReadSignal", spec := "fnExactReadSignal", inPlace := ["internal/bytealg.IndexByteString", "internal/bytealg.IndexString", "internal/abi.NoEscape", "internal/bytealg.CountString"], unfollowed := true, recurses := true, named := ["internal/bytealg.MaxLen", "unicode/utf8.first", "unicode/utf8.acceptRanges", "loop.example/g00953/impl.morseSigns"], apart := false, laid := [("unicode/utf8.acceptRanges", laid_unicode_utf8_acceptRanges), ("loop.example/g00953/impl.morseSigns", laid_loop_example_g00953_impl_morseSigns), ("unicode/utf8.first", laid_unicode_utf8_first)] }
def FnExactReadSignalSaid : Prop := fnExactReadSignalRow.holds Tryd.pinned (OpenSpec.ofChange fnExactReadSignalSpec)

/-- ITS FALSE NEIGHBOUR: 'it returns false'. Refute it at one input. -/
def fnExactReadSignalWrong : ChangeSpec := { name := "fnExactReadSignal", vars := ["loop.example/g00953/impl.morseSigns"], fn := fun _ => fun
  | [d1, d2, g1] => { results := [.lit (.bool false)], args := [d1, d2], vars := [g1] }
  | _ => none }
def FnExactReadSignalWrongFalsely : Prop := fnExactReadSignalRow.holds Tryd.pinned (OpenSpec.ofChange fnExactReadSignalWrong)

/-- 'laws.FnExactSpellText': WHATEVER THE INPUT: true; the input reads as it did. -/
def fnExactSpellTextSpec : ChangeSpec := { name := "fnExactSpellText", vars := ["loop.example/g00953/impl.morseSigns"], fn := fun _ => fun
  | [d, g1] => { results := [.lit (.bool true)], args := [d], vars := [g1] }
  | _ => none }
def fnExactSpellTextRow : OpenClaim := { program := "ytgcaipjknpcepaadoor", sum := "cfae40d4213bb622838e341baff39667a457822523882e553295e3dc6d54e651", func := "loop.example/g00953/laws.FnExactSpellText", spec := "fnExactSpellText", inPlace := ["internal/bytealg.CountString", "internal/bytealg.IndexByteString", "internal/bytealg.IndexString", "internal/abi.NoEscape", "internal/bytealg.MakeNoZero"], named := ["unicode/utf8.first", "unicode/utf8.acceptRanges", "internal/bytealg.MaxLen", "loop.example/g00953/impl.morseSigns"], apart := false, laid := [("unicode/utf8.acceptRanges", laid_unicode_utf8_acceptRanges), ("loop.example/g00953/impl.morseSigns", laid_loop_example_g00953_impl_morseSigns), ("unicode/utf8.first", laid_unicode_utf8_first)] }
def FnExactSpellTextSaid : Prop := fnExactSpellTextRow.holds Tryd.pinned (OpenSpec.ofChange fnExactSpellTextSpec)

/-- ITS FALSE NEIGHBOUR: 'it returns false'. Refute it at one input. -/
def fnExactSpellTextWrong : ChangeSpec := { name := "fnExactSpellText", vars := ["loop.example/g00953/impl.morseSigns"], fn := fun _ => fun
  | [d, g1] => { results := [.lit (.bool false)], args := [d], vars := [g1] }
  | _ => none }
def FnExactSpellTextWrongFalsely : Prop := fnExactSpellTextRow.holds Tryd.pinned (OpenSpec.ofChange fnExactSpellTextWrong)

/-- 'laws.FnMorse': WHATEVER THE INPUT: true; the input reads as it did. -/
def fnMorseSpec : ChangeSpec := { name := "fnMorse", vars := ["loop.example/g00953/impl.morseSigns"], fn := fun _ => fun
  | [d1, d2, g1] => { results := [.lit (.bool true)], args := [d1, d2], vars := [g1] }
  | _ => none }
def fnMorseRow : OpenClaim := { program := "ytgcaipjknpcepaadoor", sum := "cfae40d4213bb622838e341baff39667a457822523882e553295e3dc6d54e651", func := "loop.example/g00953/laws.FnMorse", spec := "fnMorse", inPlace := ["internal/bytealg.IndexByteString", "internal/bytealg.IndexString", "internal/bytealg.CountString", "internal/abi.NoEscape"], unfollowed := true, recurses := true, named := ["loop.example/g00953/impl.morseSigns", "unicode/utf8.first", "unicode/utf8.acceptRanges", "internal/bytealg.MaxLen"], apart := false, laid := [("unicode/utf8.acceptRanges", laid_unicode_utf8_acceptRanges), ("loop.example/g00953/impl.morseSigns", laid_loop_example_g00953_impl_morseSigns), ("unicode/utf8.first", laid_unicode_utf8_first)] }
def FnMorseSaid : Prop := fnMorseRow.holds Tryd.pinned (OpenSpec.ofChange fnMorseSpec)

/-- ITS FALSE NEIGHBOUR: 'it returns false'. Refute it at one input. -/
def fnMorseWrong : ChangeSpec := { name := "fnMorse", vars := ["loop.example/g00953/impl.morseSigns"], fn := fun _ => fun
  | [d1, d2, g1] => { results := [.lit (.bool false)], args := [d1, d2], vars := [g1] }
  | _ => none }
def FnMorseWrongFalsely : Prop := fnMorseRow.holds Tryd.pinned (OpenSpec.ofChange fnMorseWrong)

/-- 'laws.FnExactPhasesText': WHATEVER THE INPUT: true; the input reads as it did. -/
def fnExactPhasesTextSpec : ChangeSpec := { name := "fnExactPhasesText", fn := fun _ => fun
  | [d] => { results := [.lit (.bool true)], args := [d] }
  | _ => none }
def fnExactPhasesTextRow : OpenClaim := { program := "ytgcaipjknpcepaadoor", sum := "cfae40d4213bb622838e341baff39667a457822523882e553295e3dc6d54e651", func := "loop.example/g00953/laws.FnExactPhasesText", spec := "fnExactPhasesText", inPlace := ["internal/bytealg.IndexByteString", "internal/bytealg.IndexString", "internal/abi.NoEscape", "internal/bytealg.MakeNoZero"], named := ["internal/bytealg.MaxLen", "internal/strconv.uint64pow10", "math/bits.deBruijn32tab", "math/bits.deBruijn64tab"], apart := false, laid := [("math/bits.deBruijn32tab", laid_math_bits_deBruijn32tab), ("math/bits.deBruijn64tab", laid_math_bits_deBruijn64tab), ("internal/strconv.uint64pow10", laid_internal_strconv_uint64pow10)] }
def FnExactPhasesTextSaid : Prop := fnExactPhasesTextRow.holds Tryd.pinned (OpenSpec.ofChange fnExactPhasesTextSpec)

/-- ITS FALSE NEIGHBOUR: 'it returns false'. Refute it at one input. -/
def fnExactPhasesTextWrong : ChangeSpec := { name := "fnExactPhasesText", fn := fun _ => fun
  | [d] => { results := [.lit (.bool false)], args := [d] }
  | _ => none }
def FnExactPhasesTextWrongFalsely : Prop := fnExactPhasesTextRow.holds Tryd.pinned (OpenSpec.ofChange fnExactPhasesTextWrong)

/-- 'laws.FnExactReadPhases': WHATEVER THE INPUT: true; the input reads as it did. -/
def fnExactReadPhasesSpec : ChangeSpec := { name := "fnExactReadPhases", fn := fun _ => fun
  | [d] => { results := [.lit (.bool true)], args := [d] }
  | _ => none }
def fnExactReadPhasesRow : OpenClaim := { program := "ytgcaipjknpcepaadoor", sum := "cfae40d4213bb622838e341baff39667a457822523882e553295e3dc6d54e651", func := "loop.example/g00953/laws.FnExactReadPhases", spec := "fnExactReadPhases", inPlace := ["internal/bytealg.CountString", "internal/bytealg.IndexByteString", "internal/bytealg.IndexString"], named := ["unicode/utf8.first", "unicode/utf8.acceptRanges", "internal/bytealg.MaxLen", "strconv.ErrSyntax", "strconv.ErrRange", "internal/strconv.uint64pow10", "math/bits.deBruijn32tab", "math/bits.deBruijn64tab"], apart := false, laid := [("math/bits.deBruijn32tab", laid_math_bits_deBruijn32tab), ("math/bits.deBruijn64tab", laid_math_bits_deBruijn64tab), ("internal/strconv.uint64pow10", laid_internal_strconv_uint64pow10), ("unicode/utf8.acceptRanges", laid_unicode_utf8_acceptRanges), ("strconv.ErrRange", laid_strconv_ErrRange), ("strconv.ErrSyntax", laid_strconv_ErrSyntax), ("unicode/utf8.first", laid_unicode_utf8_first)] }
def FnExactReadPhasesSaid : Prop := fnExactReadPhasesRow.holds Tryd.pinned (OpenSpec.ofChange fnExactReadPhasesSpec)

/-- ITS FALSE NEIGHBOUR: 'it returns false'. Refute it at one input. -/
def fnExactReadPhasesWrong : ChangeSpec := { name := "fnExactReadPhases", fn := fun _ => fun
  | [d] => { results := [.lit (.bool false)], args := [d] }
  | _ => none }
def FnExactReadPhasesWrongFalsely : Prop := fnExactReadPhasesRow.holds Tryd.pinned (OpenSpec.ofChange fnExactReadPhasesWrong)

/- THE SECOND FORM. 'bulk': how many values and letters a reading holds, each counted each time it is reached (what is shared counts as often as it is met; a slice's spare places count too). A statement '..UptoSaid' is the law's where the arguments, and the package variables that the reading takes, are together of bulk at most 1048576: NARROWER than '..Said'. Prove '..Said' where nothing that the law and all that it calls make is longer than what came in: it says more and counts as full. Else prove '..UptoSaid'. A law counts once. -/
mutual
def uptoBulk {H : Type} : DataW H → Nat
  | .lit (.string bytes) => bytes.length + 1
  | .lit _ => 1
  | .nil => 1
  | .ptr d => uptoBulk d + 1
  | .slice elems spare => uptoBulkAll elems + uptoBulkAll spare + 1
  | .agg parts => uptoBulkAll parts + 1
  | .iface _ d => uptoBulk d + 1
  | .map entries => uptoBulkEntries entries + 1
  | .held _ => 1
def uptoBulkAll {H : Type} : List (DataW H) → Nat
  | [] => 0
  | d :: r => uptoBulk d + uptoBulkAll r
def uptoBulkEntries {H : Type} : List (Lit × DataW H) → Nat
  | [] => 0
  | x :: r => uptoBulkEntry x + uptoBulkEntries r
def uptoBulkEntry {H : Type} : Lit × DataW H → Nat
  | (.string bytes, d) => bytes.length + uptoBulk d + 1
  | (_, d) => uptoBulk d + 1
 end
def uptoSmall : (H : Type) → List (DataW H) → Bool := fun _ ds => decide (uptoBulkAll ds ≤ 1048576)
def OpenSpec.upto (s : _root_.Go.ChangeSpec) : _root_.Go.OpenSpec := { _root_.Go.OpenSpec.ofChange s with cond := some uptoSmall }

/-- 'laws.FnExactMorseOf', WHERE WHAT IT READS IS OF BULK AT MOST 1048576: true; the input reads as it did. -/
def fnExactMorseOfUptoRow : OpenClaim := { program := "ytgcaipjknpcepaadoor", sum := "cfae40d4213bb622838e341baff39667a457822523882e553295e3dc6d54e651", func := "loop.example/g00953/laws.FnExactMorseOf", spec := "fnExactMorseOf", named := ["loop.example/g00953/impl.morseSigns"], apart := false, laid := [("loop.example/g00953/impl.morseSigns", laid_loop_example_g00953_impl_morseSigns)], narrowed := true }
def FnExactMorseOfUptoSaid : Prop := fnExactMorseOfUptoRow.holds Tryd.pinned (OpenSpec.upto fnExactMorseOfSpec)

/-- 'laws.FnExactLetterOf', WHERE WHAT IT READS IS OF BULK AT MOST 1048576: true; the input reads as it did. -/
def fnExactLetterOfUptoRow : OpenClaim := { program := "ytgcaipjknpcepaadoor", sum := "cfae40d4213bb622838e341baff39667a457822523882e553295e3dc6d54e651", func := "loop.example/g00953/laws.FnExactLetterOf", spec := "fnExactLetterOf", unfollowed := true, recurses := true, named := ["loop.example/g00953/impl.morseSigns"], apart := false, laid := [("loop.example/g00953/impl.morseSigns", laid_loop_example_g00953_impl_morseSigns)], narrowed := true }
def FnExactLetterOfUptoSaid : Prop := fnExactLetterOfUptoRow.holds Tryd.pinned (OpenSpec.upto fnExactLetterOfSpec)

/-- 'laws.FnExactMorseLength', WHERE WHAT IT READS IS OF BULK AT MOST 1048576: true; the input reads as it did. -/
def fnExactMorseLengthUptoRow : OpenClaim := { program := "ytgcaipjknpcepaadoor", sum := "cfae40d4213bb622838e341baff39667a457822523882e553295e3dc6d54e651", func := "loop.example/g00953/laws.FnExactMorseLength", spec := "fnExactMorseLength", named := ["loop.example/g00953/impl.morseSigns"], apart := false, laid := [("loop.example/g00953/impl.morseSigns", laid_loop_example_g00953_impl_morseSigns)], narrowed := true }
def FnExactMorseLengthUptoSaid : Prop := fnExactMorseLengthUptoRow.holds Tryd.pinned (OpenSpec.upto fnExactMorseLengthSpec)

/-- 'laws.FnExactLettersLike', WHERE WHAT IT READS IS OF BULK AT MOST 1048576: true; the input reads as it did. -/
def fnExactLettersLikeUptoRow : OpenClaim := { program := "ytgcaipjknpcepaadoor", sum := "cfae40d4213bb622838e341baff39667a457822523882e553295e3dc6d54e651", func := "loop.example/g00953/laws.FnExactLettersLike", spec := "fnExactLettersLike", inPlace := ["internal/bytealg.IndexByteString", "internal/bytealg.IndexString"], unfollowed := true, recurses := true, named := ["unicode/utf8.first", "unicode/utf8.acceptRanges", "loop.example/g00953/impl.morseSigns", "internal/bytealg.MaxLen"], apart := false, laid := [("unicode/utf8.acceptRanges", laid_unicode_utf8_acceptRanges), ("loop.example/g00953/impl.morseSigns", laid_loop_example_g00953_impl_morseSigns), ("unicode/utf8.first", laid_unicode_utf8_first)], narrowed := true }
def FnExactLettersLikeUptoSaid : Prop := fnExactLettersLikeUptoRow.holds Tryd.pinned (OpenSpec.upto fnExactLettersLikeSpec)

/-- 'laws.FnExactSendText', WHERE WHAT IT READS IS OF BULK AT MOST 1048576: true; the input reads as it did. -/
def fnExactSendTextUptoRow : OpenClaim := { program := "ytgcaipjknpcepaadoor", sum := "cfae40d4213bb622838e341baff39667a457822523882e553295e3dc6d54e651", func := "loop.example/g00953/laws.FnExactSendText", spec := "fnExactSendText", inPlace := ["internal/bytealg.CountString", "internal/bytealg.IndexByteString", "internal/bytealg.IndexString"], named := ["unicode/utf8.first", "unicode/utf8.acceptRanges", "internal/bytealg.MaxLen", "loop.example/g00953/impl.morseSigns"], apart := false, laid := [("unicode/utf8.acceptRanges", laid_unicode_utf8_acceptRanges), ("loop.example/g00953/impl.morseSigns", laid_loop_example_g00953_impl_morseSigns), ("unicode/utf8.first", laid_unicode_utf8_first)], narrowed := true }
def FnExactSendTextUptoSaid : Prop := fnExactSendTextUptoRow.holds Tryd.pinned (OpenSpec.upto fnExactSendTextSpec)

/-- 'laws.FnExactReadSignal', WHERE WHAT IT READS IS OF BULK AT MOST 1048576: true; the input reads as it did. -/
def fnExactReadSignalUptoRow : OpenClaim := { program := "ytgcaipjknpcepaadoor", sum := "cfae40d4213bb622838e341baff39667a457822523882e553295e3dc6d54e651", func := "loop.example/g00953/laws.FnExactReadSignal", spec := "fnExactReadSignal", inPlace := ["internal/bytealg.IndexByteString", "internal/bytealg.IndexString", "internal/abi.NoEscape", "internal/bytealg.CountString"], unfollowed := true, recurses := true, named := ["internal/bytealg.MaxLen", "unicode/utf8.first", "unicode/utf8.acceptRanges", "loop.example/g00953/impl.morseSigns"], apart := false, laid := [("unicode/utf8.acceptRanges", laid_unicode_utf8_acceptRanges), ("loop.example/g00953/impl.morseSigns", laid_loop_example_g00953_impl_morseSigns), ("unicode/utf8.first", laid_unicode_utf8_first)], narrowed := true }
def FnExactReadSignalUptoSaid : Prop := fnExactReadSignalUptoRow.holds Tryd.pinned (OpenSpec.upto fnExactReadSignalSpec)

/-- 'laws.FnExactSpellText', WHERE WHAT IT READS IS OF BULK AT MOST 1048576: true; the input reads as it did. -/
def fnExactSpellTextUptoRow : OpenClaim := { program := "ytgcaipjknpcepaadoor", sum := "cfae40d4213bb622838e341baff39667a457822523882e553295e3dc6d54e651", func := "loop.example/g00953/laws.FnExactSpellText", spec := "fnExactSpellText", inPlace := ["internal/bytealg.CountString", "internal/bytealg.IndexByteString", "internal/bytealg.IndexString", "internal/abi.NoEscape", "internal/bytealg.MakeNoZero"], named := ["unicode/utf8.first", "unicode/utf8.acceptRanges", "internal/bytealg.MaxLen", "loop.example/g00953/impl.morseSigns"], apart := false, laid := [("unicode/utf8.acceptRanges", laid_unicode_utf8_acceptRanges), ("loop.example/g00953/impl.morseSigns", laid_loop_example_g00953_impl_morseSigns), ("unicode/utf8.first", laid_unicode_utf8_first)], narrowed := true }
def FnExactSpellTextUptoSaid : Prop := fnExactSpellTextUptoRow.holds Tryd.pinned (OpenSpec.upto fnExactSpellTextSpec)

/-- 'laws.FnMorse', WHERE WHAT IT READS IS OF BULK AT MOST 1048576: true; the input reads as it did. -/
def fnMorseUptoRow : OpenClaim := { program := "ytgcaipjknpcepaadoor", sum := "cfae40d4213bb622838e341baff39667a457822523882e553295e3dc6d54e651", func := "loop.example/g00953/laws.FnMorse", spec := "fnMorse", inPlace := ["internal/bytealg.IndexByteString", "internal/bytealg.IndexString", "internal/bytealg.CountString", "internal/abi.NoEscape"], unfollowed := true, recurses := true, named := ["loop.example/g00953/impl.morseSigns", "unicode/utf8.first", "unicode/utf8.acceptRanges", "internal/bytealg.MaxLen"], apart := false, laid := [("unicode/utf8.acceptRanges", laid_unicode_utf8_acceptRanges), ("loop.example/g00953/impl.morseSigns", laid_loop_example_g00953_impl_morseSigns), ("unicode/utf8.first", laid_unicode_utf8_first)], narrowed := true }
def FnMorseUptoSaid : Prop := fnMorseUptoRow.holds Tryd.pinned (OpenSpec.upto fnMorseSpec)

/-- 'laws.FnExactPhasesText', WHERE WHAT IT READS IS OF BULK AT MOST 1048576: true; the input reads as it did. -/
def fnExactPhasesTextUptoRow : OpenClaim := { program := "ytgcaipjknpcepaadoor", sum := "cfae40d4213bb622838e341baff39667a457822523882e553295e3dc6d54e651", func := "loop.example/g00953/laws.FnExactPhasesText", spec := "fnExactPhasesText", inPlace := ["internal/bytealg.IndexByteString", "internal/bytealg.IndexString", "internal/abi.NoEscape", "internal/bytealg.MakeNoZero"], named := ["internal/bytealg.MaxLen", "internal/strconv.uint64pow10", "math/bits.deBruijn32tab", "math/bits.deBruijn64tab"], apart := false, laid := [("math/bits.deBruijn32tab", laid_math_bits_deBruijn32tab), ("math/bits.deBruijn64tab", laid_math_bits_deBruijn64tab), ("internal/strconv.uint64pow10", laid_internal_strconv_uint64pow10)], narrowed := true }
def FnExactPhasesTextUptoSaid : Prop := fnExactPhasesTextUptoRow.holds Tryd.pinned (OpenSpec.upto fnExactPhasesTextSpec)

/-- 'laws.FnExactReadPhases', WHERE WHAT IT READS IS OF BULK AT MOST 1048576: true; the input reads as it did. -/
def fnExactReadPhasesUptoRow : OpenClaim := { program := "ytgcaipjknpcepaadoor", sum := "cfae40d4213bb622838e341baff39667a457822523882e553295e3dc6d54e651", func := "loop.example/g00953/laws.FnExactReadPhases", spec := "fnExactReadPhases", inPlace := ["internal/bytealg.CountString", "internal/bytealg.IndexByteString", "internal/bytealg.IndexString"], named := ["unicode/utf8.first", "unicode/utf8.acceptRanges", "internal/bytealg.MaxLen", "strconv.ErrSyntax", "strconv.ErrRange", "internal/strconv.uint64pow10", "math/bits.deBruijn32tab", "math/bits.deBruijn64tab"], apart := false, laid := [("math/bits.deBruijn32tab", laid_math_bits_deBruijn32tab), ("math/bits.deBruijn64tab", laid_math_bits_deBruijn64tab), ("internal/strconv.uint64pow10", laid_internal_strconv_uint64pow10), ("unicode/utf8.acceptRanges", laid_unicode_utf8_acceptRanges), ("strconv.ErrRange", laid_strconv_ErrRange), ("strconv.ErrSyntax", laid_strconv_ErrSyntax), ("unicode/utf8.first", laid_unicode_utf8_first)], narrowed := true }
def FnExactReadPhasesUptoSaid : Prop := fnExactReadPhasesUptoRow.holds Tryd.pinned (OpenSpec.upto fnExactReadPhasesSpec)

end Rows
end Go.Proofs.YtgcaipjknpcepaaDoor
