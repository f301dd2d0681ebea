/-
  NARROWER THAN 'FOR EVERY INPUT', by the rows' own cells (each row's printed sentence says how): FnExactKindText: laid · FnExactValidCharacter: laid · FnExactFlashLength: laid · FnExactFlashCount: laid · FnExactLeastPeriod: laid · FnExactPhasesOf: laid · FnExactLitTime: laid · FnExactCharacterText: laid · FnExactListText: laid.
  DERIVED. THE GIVEN ROWS OF THIS SEAT. 9 by the template 'for every input the law returns true; each argument reads behind the call as it read before'; 0 by the template 'total and deterministic' (their statements: YthggoboljkdldaaDoorTotals.lean).
  GIVEN WITH THE SEED: the statements are not yours to turn. If you find one false, say at which input.
  Laid BY PROGRAM, IN A SANDBOX (cutbox-rows.mjs): the forced cells as the released guide's own fill.sh prints them over the translation 9ed65967425e5c01… (all of the seat's roots in one cut). By AI agents, Wed Nov 11 2026. No macro, syntax, notation, axiom, sorry.
-/
import Derived.Test.YthggoboljkdldaaDoorChecked
import GoSem.Claim
import GoSem.ClaimJoined
import GoSem.ClaimMapViews
import Derived.JoinedTies
import Derived.KernelRfl
namespace Go.Proofs.YthggoboljkdldaaDoor
/- THE CELL 'sum', in the pinned program and in every row, IS THE sha256 OF THE DUMP (.gsa) THAT YthggoboljkdldaaDoorProg.lean LOADS. Nothing in Lean hashes anything: it is a label: what it is worth is what the hold of that sum in a sandbox is worth. -/
noncomputable def Tryd.pinned : Pinned := { name := "ythggoboljkdldaadoor", sum := "9ed65967425e5c01305a4364171f79b022e9773882caf077edcce93600e753d5", checked := Tryd.checked }
namespace Rows
def none {H : Type} : Left H := { results := [], args := [] }

/- WHAT THE LISTED PACKAGE-LEVEL VARIABLES READ AS WHEN THE CALL BEGINS. Each datum BY PROGRAM (the guide's laid-datum.mjs) off the statement by which the dump's own 'gosem.cut.vars' lays the variable. In a bare row this is a premise. The card (YthggoboljkdldaaDoorCards.lean) ties it to the program's text. -/
def laid_loop_example_g00953_impl_kindTable {H : Type} : DataW H := .agg [.agg [.lit (.string []), .lit (.int .i64 0), .lit (.int .i64 0), .lit (.int .i64 0)], .agg [.lit (.string [70]), .lit (.int .i64 0), .lit (.int .i64 0), .lit (.int .i64 0)], .agg [.lit (.string [79, 99]), .lit (.int .i64 10), .lit (.int .i64 10), .lit (.int .i64 15)], .agg [.lit (.string [73, 115, 111]), .lit (.int .i64 0), .lit (.int .i64 0), .lit (.int .i64 0)], .agg [.lit (.string [70, 108]), .lit (.int .i64 5), .lit (.int .i64 15), .lit (.int .i64 20)], .agg [.lit (.string [76, 70, 108]), .lit (.int .i64 20), .lit (.int .i64 20), .lit (.int .i64 25)], .agg [.lit (.string [81]), .lit (.int .i64 5), .lit (.int .i64 5), .lit (.int .i64 20)], .agg [.lit (.string [86, 81]), .lit (.int .i64 2), .lit (.int .i64 3), .lit (.int .i64 10)], .agg [.lit (.string [77, 111]), .lit (.int .i64 5), .lit (.int .i64 5), .lit (.int .i64 30)]]
def laid_math_bits_deBruijn32tab {H : Type} : DataW H := .agg [.lit (.int .u8 0), .lit (.int .u8 1), .lit (.int .u8 28), .lit (.int .u8 2), .lit (.int .u8 29), .lit (.int .u8 14), .lit (.int .u8 24), .lit (.int .u8 3), .lit (.int .u8 30), .lit (.int .u8 22), .lit (.int .u8 20), .lit (.int .u8 15), .lit (.int .u8 25), .lit (.int .u8 17), .lit (.int .u8 4), .lit (.int .u8 8), .lit (.int .u8 31), .lit (.int .u8 27), .lit (.int .u8 13), .lit (.int .u8 23), .lit (.int .u8 21), .lit (.int .u8 19), .lit (.int .u8 16), .lit (.int .u8 7), .lit (.int .u8 26), .lit (.int .u8 12), .lit (.int .u8 18), .lit (.int .u8 6), .lit (.int .u8 11), .lit (.int .u8 5), .lit (.int .u8 10), .lit (.int .u8 9)]
def laid_math_bits_deBruijn64tab {H : Type} : DataW H := .agg [.lit (.int .u8 0), .lit (.int .u8 1), .lit (.int .u8 56), .lit (.int .u8 2), .lit (.int .u8 57), .lit (.int .u8 49), .lit (.int .u8 28), .lit (.int .u8 3), .lit (.int .u8 61), .lit (.int .u8 58), .lit (.int .u8 42), .lit (.int .u8 50), .lit (.int .u8 38), .lit (.int .u8 29), .lit (.int .u8 17), .lit (.int .u8 4), .lit (.int .u8 62), .lit (.int .u8 47), .lit (.int .u8 59), .lit (.int .u8 36), .lit (.int .u8 45), .lit (.int .u8 43), .lit (.int .u8 51), .lit (.int .u8 22), .lit (.int .u8 53), .lit (.int .u8 39), .lit (.int .u8 33), .lit (.int .u8 30), .lit (.int .u8 24), .lit (.int .u8 18), .lit (.int .u8 12), .lit (.int .u8 5), .lit (.int .u8 63), .lit (.int .u8 55), .lit (.int .u8 48), .lit (.int .u8 27), .lit (.int .u8 60), .lit (.int .u8 41), .lit (.int .u8 37), .lit (.int .u8 16), .lit (.int .u8 46), .lit (.int .u8 35), .lit (.int .u8 44), .lit (.int .u8 21), .lit (.int .u8 52), .lit (.int .u8 32), .lit (.int .u8 23), .lit (.int .u8 11), .lit (.int .u8 54), .lit (.int .u8 26), .lit (.int .u8 40), .lit (.int .u8 15), .lit (.int .u8 34), .lit (.int .u8 20), .lit (.int .u8 31), .lit (.int .u8 10), .lit (.int .u8 25), .lit (.int .u8 14), .lit (.int .u8 19), .lit (.int .u8 9), .lit (.int .u8 13), .lit (.int .u8 8), .lit (.int .u8 7), .lit (.int .u8 6)]
def laid_internal_strconv_uint64pow10 {H : Type} : DataW H := .agg [.lit (.int .u64 1), .lit (.int .u64 10), .lit (.int .u64 100), .lit (.int .u64 1000), .lit (.int .u64 10000), .lit (.int .u64 100000), .lit (.int .u64 1000000), .lit (.int .u64 10000000), .lit (.int .u64 100000000), .lit (.int .u64 1000000000), .lit (.int .u64 10000000000), .lit (.int .u64 100000000000), .lit (.int .u64 1000000000000), .lit (.int .u64 10000000000000), .lit (.int .u64 100000000000000), .lit (.int .u64 1000000000000000), .lit (.int .u64 10000000000000000), .lit (.int .u64 100000000000000000), .lit (.int .u64 1000000000000000000), .lit (.int .u64 10000000000000000000)]

/-- 'laws.FnExactKindText': WHATEVER THE INPUT: true; the input reads as it did. -/
def fnExactKindTextSpec : ChangeSpec := { name := "fnExactKindText", vars := ["loop.example/g00953/impl.kindTable"], fn := fun _ => fun
  | [d, g1] => { results := [.lit (.bool true)], args := [d], vars := [g1] }
  | _ => none }
def fnExactKindTextRow : OpenClaim := { program := "ythggoboljkdldaadoor", sum := "9ed65967425e5c01305a4364171f79b022e9773882caf077edcce93600e753d5", func := "loop.example/g00953/laws.FnExactKindText", spec := "fnExactKindText", named := ["loop.example/g00953/impl.kindTable"], apart := false, laid := [("loop.example/g00953/impl.kindTable", laid_loop_example_g00953_impl_kindTable)] }
def FnExactKindTextSaid : Prop := fnExactKindTextRow.holds Tryd.pinned (OpenSpec.ofChange fnExactKindTextSpec)

/-- ITS FALSE NEIGHBOUR: 'it returns false'. Refute it at one input. -/
def fnExactKindTextWrong : ChangeSpec := { name := "fnExactKindText", vars := ["loop.example/g00953/impl.kindTable"], fn := fun _ => fun
  | [d, g1] => { results := [.lit (.bool false)], args := [d], vars := [g1] }
  | _ => none }
def FnExactKindTextWrongFalsely : Prop := fnExactKindTextRow.holds Tryd.pinned (OpenSpec.ofChange fnExactKindTextWrong)

/-- 'laws.FnExactValidCharacter': WHATEVER THE INPUT: true; the input reads as it did. -/
def fnExactValidCharacterSpec : ChangeSpec := { name := "fnExactValidCharacter", vars := ["loop.example/g00953/impl.kindTable"], fn := fun _ => fun
  | [d, g1] => { results := [.lit (.bool true)], args := [d], vars := [g1] }
  | _ => none }
def fnExactValidCharacterRow : OpenClaim := { program := "ythggoboljkdldaadoor", sum := "9ed65967425e5c01305a4364171f79b022e9773882caf077edcce93600e753d5", func := "loop.example/g00953/laws.FnExactValidCharacter", spec := "fnExactValidCharacter", inPlace := ["internal/bytealg.IndexByteString"], unfollowed := true, recurses := true, named := ["loop.example/g00953/impl.kindTable"], apart := false, laid := [("loop.example/g00953/impl.kindTable", laid_loop_example_g00953_impl_kindTable)] }
def FnExactValidCharacterSaid : Prop := fnExactValidCharacterRow.holds Tryd.pinned (OpenSpec.ofChange fnExactValidCharacterSpec)

/-- ITS FALSE NEIGHBOUR: 'it returns false'. Refute it at one input. -/
def fnExactValidCharacterWrong : ChangeSpec := { name := "fnExactValidCharacter", vars := ["loop.example/g00953/impl.kindTable"], fn := fun _ => fun
  | [d, g1] => { results := [.lit (.bool false)], args := [d], vars := [g1] }
  | _ => none }
def FnExactValidCharacterWrongFalsely : Prop := fnExactValidCharacterRow.holds Tryd.pinned (OpenSpec.ofChange fnExactValidCharacterWrong)

/-- 'laws.FnExactFlashLength': WHATEVER THE INPUT: true; the input reads as it did. -/
def fnExactFlashLengthSpec : ChangeSpec := { name := "fnExactFlashLength", vars := ["loop.example/g00953/impl.kindTable"], fn := fun _ => fun
  | [d, g1] => { results := [.lit (.bool true)], args := [d], vars := [g1] }
  | _ => none }
def fnExactFlashLengthRow : OpenClaim := { program := "ythggoboljkdldaadoor", sum := "9ed65967425e5c01305a4364171f79b022e9773882caf077edcce93600e753d5", func := "loop.example/g00953/laws.FnExactFlashLength", spec := "fnExactFlashLength", named := ["loop.example/g00953/impl.kindTable"], apart := false, laid := [("loop.example/g00953/impl.kindTable", laid_loop_example_g00953_impl_kindTable)] }
def FnExactFlashLengthSaid : Prop := fnExactFlashLengthRow.holds Tryd.pinned (OpenSpec.ofChange fnExactFlashLengthSpec)

/-- ITS FALSE NEIGHBOUR: 'it returns false'. Refute it at one input. -/
def fnExactFlashLengthWrong : ChangeSpec := { name := "fnExactFlashLength", vars := ["loop.example/g00953/impl.kindTable"], fn := fun _ => fun
  | [d, g1] => { results := [.lit (.bool false)], args := [d], vars := [g1] }
  | _ => none }
def FnExactFlashLengthWrongFalsely : Prop := fnExactFlashLengthRow.holds Tryd.pinned (OpenSpec.ofChange fnExactFlashLengthWrong)

/-- 'laws.FnExactFlashCount': WHATEVER THE INPUT: true; the input reads as it did. -/
def fnExactFlashCountSpec : ChangeSpec := { name := "fnExactFlashCount", vars := ["loop.example/g00953/impl.kindTable"], fn := fun _ => fun
  | [d, g1] => { results := [.lit (.bool true)], args := [d], vars := [g1] }
  | _ => none }
def fnExactFlashCountRow : OpenClaim := { program := "ythggoboljkdldaadoor", sum := "9ed65967425e5c01305a4364171f79b022e9773882caf077edcce93600e753d5", func := "loop.example/g00953/laws.FnExactFlashCount", spec := "fnExactFlashCount", inPlace := ["internal/bytealg.IndexByteString"], unfollowed := true, recurses := true, named := ["loop.example/g00953/impl.kindTable"], apart := false, laid := [("loop.example/g00953/impl.kindTable", laid_loop_example_g00953_impl_kindTable)] }
def FnExactFlashCountSaid : Prop := fnExactFlashCountRow.holds Tryd.pinned (OpenSpec.ofChange fnExactFlashCountSpec)

/-- ITS FALSE NEIGHBOUR: 'it returns false'. Refute it at one input. -/
def fnExactFlashCountWrong : ChangeSpec := { name := "fnExactFlashCount", vars := ["loop.example/g00953/impl.kindTable"], fn := fun _ => fun
  | [d, g1] => { results := [.lit (.bool false)], args := [d], vars := [g1] }
  | _ => none }
def FnExactFlashCountWrongFalsely : Prop := fnExactFlashCountRow.holds Tryd.pinned (OpenSpec.ofChange fnExactFlashCountWrong)

/-- 'laws.FnExactLeastPeriod': WHATEVER THE INPUT: true; the input reads as it did. -/
def fnExactLeastPeriodSpec : ChangeSpec := { name := "fnExactLeastPeriod", vars := ["loop.example/g00953/impl.kindTable"], fn := fun _ => fun
  | [d, g1] => { results := [.lit (.bool true)], args := [d], vars := [g1] }
  | _ => none }
def fnExactLeastPeriodRow : OpenClaim := { program := "ythggoboljkdldaadoor", sum := "9ed65967425e5c01305a4364171f79b022e9773882caf077edcce93600e753d5", func := "loop.example/g00953/laws.FnExactLeastPeriod", spec := "fnExactLeastPeriod", inPlace := ["internal/bytealg.IndexByteString"], unfollowed := true, recurses := true, named := ["loop.example/g00953/impl.kindTable"], apart := false, laid := [("loop.example/g00953/impl.kindTable", laid_loop_example_g00953_impl_kindTable)] }
def FnExactLeastPeriodSaid : Prop := fnExactLeastPeriodRow.holds Tryd.pinned (OpenSpec.ofChange fnExactLeastPeriodSpec)

/-- ITS FALSE NEIGHBOUR: 'it returns false'. Refute it at one input. -/
def fnExactLeastPeriodWrong : ChangeSpec := { name := "fnExactLeastPeriod", vars := ["loop.example/g00953/impl.kindTable"], fn := fun _ => fun
  | [d, g1] => { results := [.lit (.bool false)], args := [d], vars := [g1] }
  | _ => none }
def FnExactLeastPeriodWrongFalsely : Prop := fnExactLeastPeriodRow.holds Tryd.pinned (OpenSpec.ofChange fnExactLeastPeriodWrong)

/-- 'laws.FnExactPhasesOf': WHATEVER THE INPUT: true; the input reads as it did. -/
def fnExactPhasesOfSpec : ChangeSpec := { name := "fnExactPhasesOf", vars := ["loop.example/g00953/impl.kindTable"], fn := fun _ => fun
  | [d1, d2, g1] => { results := [.lit (.bool true)], args := [d1, d2], vars := [g1] }
  | _ => none }
def fnExactPhasesOfRow : OpenClaim := { program := "ythggoboljkdldaadoor", sum := "9ed65967425e5c01305a4364171f79b022e9773882caf077edcce93600e753d5", func := "loop.example/g00953/laws.FnExactPhasesOf", spec := "fnExactPhasesOf", inPlace := ["internal/bytealg.IndexByteString", "internal/bytealg.IndexString"], unfollowed := true, recurses := true, named := ["loop.example/g00953/impl.kindTable", "internal/bytealg.MaxLen"], apart := false, laid := [("loop.example/g00953/impl.kindTable", laid_loop_example_g00953_impl_kindTable)] }
def FnExactPhasesOfSaid : Prop := fnExactPhasesOfRow.holds Tryd.pinned (OpenSpec.ofChange fnExactPhasesOfSpec)

/-- ITS FALSE NEIGHBOUR: 'it returns false'. Refute it at one input. -/
def fnExactPhasesOfWrong : ChangeSpec := { name := "fnExactPhasesOf", vars := ["loop.example/g00953/impl.kindTable"], fn := fun _ => fun
  | [d1, d2, g1] => { results := [.lit (.bool false)], args := [d1, d2], vars := [g1] }
  | _ => none }
def FnExactPhasesOfWrongFalsely : Prop := fnExactPhasesOfRow.holds Tryd.pinned (OpenSpec.ofChange fnExactPhasesOfWrong)

/-- 'laws.FnExactLitTime': WHATEVER THE INPUT: true; the input reads as it did. -/
def fnExactLitTimeSpec : ChangeSpec := { name := "fnExactLitTime", vars := ["loop.example/g00953/impl.kindTable"], fn := fun _ => fun
  | [d, g1] => { results := [.lit (.bool true)], args := [d], vars := [g1] }
  | _ => none }
def fnExactLitTimeRow : OpenClaim := { program := "ythggoboljkdldaadoor", sum := "9ed65967425e5c01305a4364171f79b022e9773882caf077edcce93600e753d5", func := "loop.example/g00953/laws.FnExactLitTime", spec := "fnExactLitTime", inPlace := ["internal/bytealg.IndexByteString"], unfollowed := true, recurses := true, named := ["loop.example/g00953/impl.kindTable"], apart := false, laid := [("loop.example/g00953/impl.kindTable", laid_loop_example_g00953_impl_kindTable)] }
def FnExactLitTimeSaid : Prop := fnExactLitTimeRow.holds Tryd.pinned (OpenSpec.ofChange fnExactLitTimeSpec)

/-- ITS FALSE NEIGHBOUR: 'it returns false'. Refute it at one input. -/
def fnExactLitTimeWrong : ChangeSpec := { name := "fnExactLitTime", vars := ["loop.example/g00953/impl.kindTable"], fn := fun _ => fun
  | [d, g1] => { results := [.lit (.bool false)], args := [d], vars := [g1] }
  | _ => none }
def FnExactLitTimeWrongFalsely : Prop := fnExactLitTimeRow.holds Tryd.pinned (OpenSpec.ofChange fnExactLitTimeWrong)

/-- 'laws.FnExactCharacterText': WHATEVER THE INPUT: true; the input reads as it did. -/
def fnExactCharacterTextSpec : ChangeSpec := { name := "fnExactCharacterText", vars := ["loop.example/g00953/impl.kindTable"], fn := fun _ => fun
  | [d, g1] => { results := [.lit (.bool true)], args := [d], vars := [g1] }
  | _ => none }
def fnExactCharacterTextRow : OpenClaim := { program := "ythggoboljkdldaadoor", sum := "9ed65967425e5c01305a4364171f79b022e9773882caf077edcce93600e753d5", func := "loop.example/g00953/laws.FnExactCharacterText", spec := "fnExactCharacterText", inPlace := ["internal/bytealg.IndexByteString", "internal/abi.NoEscape", "internal/bytealg.MakeNoZero"], unfollowed := true, recurses := true, named := ["loop.example/g00953/impl.kindTable", "internal/strconv.uint64pow10", "math/bits.deBruijn32tab", "math/bits.deBruijn64tab"], apart := false, laid := [("math/bits.deBruijn32tab", laid_math_bits_deBruijn32tab), ("math/bits.deBruijn64tab", laid_math_bits_deBruijn64tab), ("internal/strconv.uint64pow10", laid_internal_strconv_uint64pow10), ("loop.example/g00953/impl.kindTable", laid_loop_example_g00953_impl_kindTable)] }
def FnExactCharacterTextSaid : Prop := fnExactCharacterTextRow.holds Tryd.pinned (OpenSpec.ofChange fnExactCharacterTextSpec)

/-- ITS FALSE NEIGHBOUR: 'it returns false'. Refute it at one input. -/
def fnExactCharacterTextWrong : ChangeSpec := { name := "fnExactCharacterText", vars := ["loop.example/g00953/impl.kindTable"], fn := fun _ => fun
  | [d, g1] => { results := [.lit (.bool false)], args := [d], vars := [g1] }
  | _ => none }
def FnExactCharacterTextWrongFalsely : Prop := fnExactCharacterTextRow.holds Tryd.pinned (OpenSpec.ofChange fnExactCharacterTextWrong)

/-- 'laws.FnExactListText': WHATEVER THE INPUT: true; the input reads as it did. -/
def fnExactListTextSpec : ChangeSpec := { name := "fnExactListText", fn := fun _ => fun
  | [d] => { results := [.lit (.bool true)], args := [d] }
  | _ => none }
def fnExactListTextRow : OpenClaim := { program := "ythggoboljkdldaadoor", sum := "9ed65967425e5c01305a4364171f79b022e9773882caf077edcce93600e753d5", func := "loop.example/g00953/laws.FnExactListText", spec := "fnExactListText", inPlace := ["internal/abi.NoEscape", "internal/bytealg.MakeNoZero"], named := ["internal/strconv.uint64pow10", "math/bits.deBruijn32tab", "math/bits.deBruijn64tab"], apart := false, laid := [("math/bits.deBruijn32tab", laid_math_bits_deBruijn32tab), ("math/bits.deBruijn64tab", laid_math_bits_deBruijn64tab), ("internal/strconv.uint64pow10", laid_internal_strconv_uint64pow10)] }
def FnExactListTextSaid : Prop := fnExactListTextRow.holds Tryd.pinned (OpenSpec.ofChange fnExactListTextSpec)

/-- ITS FALSE NEIGHBOUR: 'it returns false'. Refute it at one input. -/
def fnExactListTextWrong : ChangeSpec := { name := "fnExactListText", fn := fun _ => fun
  | [d] => { results := [.lit (.bool false)], args := [d] }
  | _ => none }
def FnExactListTextWrongFalsely : Prop := fnExactListTextRow.holds Tryd.pinned (OpenSpec.ofChange fnExactListTextWrong)

/- THE SECOND FORM. 'bulk': how many values and letters a reading holds, each counted each time it is reached (what is shared counts as often as it is met; a slice's spare places count too). A statement '..UptoSaid' is the law's where the arguments, and the package variables that the reading takes, are together of bulk at most 1048576: NARROWER than '..Said'. Prove '..Said' where nothing that the law and all that it calls make is longer than what came in: it says more and counts as full. Else prove '..UptoSaid'. A law counts once. -/
mutual
def uptoBulk {H : Type} : DataW H → Nat
  | .lit (.string bytes) => bytes.length + 1
  | .lit _ => 1
  | .nil => 1
  | .ptr d => uptoBulk d + 1
  | .slice elems spare => uptoBulkAll elems + uptoBulkAll spare + 1
  | .agg parts => uptoBulkAll parts + 1
  | .iface _ d => uptoBulk d + 1
  | .map entries => uptoBulkEntries entries + 1
  | .held _ => 1
def uptoBulkAll {H : Type} : List (DataW H) → Nat
  | [] => 0
  | d :: r => uptoBulk d + uptoBulkAll r
def uptoBulkEntries {H : Type} : List (Lit × DataW H) → Nat
  | [] => 0
  | x :: r => uptoBulkEntry x + uptoBulkEntries r
def uptoBulkEntry {H : Type} : Lit × DataW H → Nat
  | (.string bytes, d) => bytes.length + uptoBulk d + 1
  | (_, d) => uptoBulk d + 1
 end
def uptoSmall : (H : Type) → List (DataW H) → Bool := fun _ ds => decide (uptoBulkAll ds ≤ 1048576)
def OpenSpec.upto (s : _root_.Go.ChangeSpec) : _root_.Go.OpenSpec := { _root_.Go.OpenSpec.ofChange s with cond := some uptoSmall }

/-- 'laws.FnExactKindText', WHERE WHAT IT READS IS OF BULK AT MOST 1048576: true; the input reads as it did. -/
def fnExactKindTextUptoRow : OpenClaim := { program := "ythggoboljkdldaadoor", sum := "9ed65967425e5c01305a4364171f79b022e9773882caf077edcce93600e753d5", func := "loop.example/g00953/laws.FnExactKindText", spec := "fnExactKindText", named := ["loop.example/g00953/impl.kindTable"], apart := false, laid := [("loop.example/g00953/impl.kindTable", laid_loop_example_g00953_impl_kindTable)], narrowed := true }
def FnExactKindTextUptoSaid : Prop := fnExactKindTextUptoRow.holds Tryd.pinned (OpenSpec.upto fnExactKindTextSpec)

/-- 'laws.FnExactValidCharacter', WHERE WHAT IT READS IS OF BULK AT MOST 1048576: true; the input reads as it did. -/
def fnExactValidCharacterUptoRow : OpenClaim := { program := "ythggoboljkdldaadoor", sum := "9ed65967425e5c01305a4364171f79b022e9773882caf077edcce93600e753d5", func := "loop.example/g00953/laws.FnExactValidCharacter", spec := "fnExactValidCharacter", inPlace := ["internal/bytealg.IndexByteString"], unfollowed := true, recurses := true, named := ["loop.example/g00953/impl.kindTable"], apart := false, laid := [("loop.example/g00953/impl.kindTable", laid_loop_example_g00953_impl_kindTable)], narrowed := true }
def FnExactValidCharacterUptoSaid : Prop := fnExactValidCharacterUptoRow.holds Tryd.pinned (OpenSpec.upto fnExactValidCharacterSpec)

/-- 'laws.FnExactFlashLength', WHERE WHAT IT READS IS OF BULK AT MOST 1048576: true; the input reads as it did. -/
def fnExactFlashLengthUptoRow : OpenClaim := { program := "ythggoboljkdldaadoor", sum := "9ed65967425e5c01305a4364171f79b022e9773882caf077edcce93600e753d5", func := "loop.example/g00953/laws.FnExactFlashLength", spec := "fnExactFlashLength", named := ["loop.example/g00953/impl.kindTable"], apart := false, laid := [("loop.example/g00953/impl.kindTable", laid_loop_example_g00953_impl_kindTable)], narrowed := true }
def FnExactFlashLengthUptoSaid : Prop := fnExactFlashLengthUptoRow.holds Tryd.pinned (OpenSpec.upto fnExactFlashLengthSpec)

/-- 'laws.FnExactFlashCount', WHERE WHAT IT READS IS OF BULK AT MOST 1048576: true; the input reads as it did. -/
def fnExactFlashCountUptoRow : OpenClaim := { program := "ythggoboljkdldaadoor", sum := "9ed65967425e5c01305a4364171f79b022e9773882caf077edcce93600e753d5", func := "loop.example/g00953/laws.FnExactFlashCount", spec := "fnExactFlashCount", inPlace := ["internal/bytealg.IndexByteString"], unfollowed := true, recurses := true, named := ["loop.example/g00953/impl.kindTable"], apart := false, laid := [("loop.example/g00953/impl.kindTable", laid_loop_example_g00953_impl_kindTable)], narrowed := true }
def FnExactFlashCountUptoSaid : Prop := fnExactFlashCountUptoRow.holds Tryd.pinned (OpenSpec.upto fnExactFlashCountSpec)

/-- 'laws.FnExactLeastPeriod', WHERE WHAT IT READS IS OF BULK AT MOST 1048576: true; the input reads as it did. -/
def fnExactLeastPeriodUptoRow : OpenClaim := { program := "ythggoboljkdldaadoor", sum := "9ed65967425e5c01305a4364171f79b022e9773882caf077edcce93600e753d5", func := "loop.example/g00953/laws.FnExactLeastPeriod", spec := "fnExactLeastPeriod", inPlace := ["internal/bytealg.IndexByteString"], unfollowed := true, recurses := true, named := ["loop.example/g00953/impl.kindTable"], apart := false, laid := [("loop.example/g00953/impl.kindTable", laid_loop_example_g00953_impl_kindTable)], narrowed := true }
def FnExactLeastPeriodUptoSaid : Prop := fnExactLeastPeriodUptoRow.holds Tryd.pinned (OpenSpec.upto fnExactLeastPeriodSpec)

/-- 'laws.FnExactPhasesOf', WHERE WHAT IT READS IS OF BULK AT MOST 1048576: true; the input reads as it did. -/
def fnExactPhasesOfUptoRow : OpenClaim := { program := "ythggoboljkdldaadoor", sum := "9ed65967425e5c01305a4364171f79b022e9773882caf077edcce93600e753d5", func := "loop.example/g00953/laws.FnExactPhasesOf", spec := "fnExactPhasesOf", inPlace := ["internal/bytealg.IndexByteString", "internal/bytealg.IndexString"], unfollowed := true, recurses := true, named := ["loop.example/g00953/impl.kindTable", "internal/bytealg.MaxLen"], apart := false, laid := [("loop.example/g00953/impl.kindTable", laid_loop_example_g00953_impl_kindTable)], narrowed := true }
def FnExactPhasesOfUptoSaid : Prop := fnExactPhasesOfUptoRow.holds Tryd.pinned (OpenSpec.upto fnExactPhasesOfSpec)

/-- 'laws.FnExactLitTime', WHERE WHAT IT READS IS OF BULK AT MOST 1048576: true; the input reads as it did. -/
def fnExactLitTimeUptoRow : OpenClaim := { program := "ythggoboljkdldaadoor", sum := "9ed65967425e5c01305a4364171f79b022e9773882caf077edcce93600e753d5", func := "loop.example/g00953/laws.FnExactLitTime", spec := "fnExactLitTime", inPlace := ["internal/bytealg.IndexByteString"], unfollowed := true, recurses := true, named := ["loop.example/g00953/impl.kindTable"], apart := false, laid := [("loop.example/g00953/impl.kindTable", laid_loop_example_g00953_impl_kindTable)], narrowed := true }
def FnExactLitTimeUptoSaid : Prop := fnExactLitTimeUptoRow.holds Tryd.pinned (OpenSpec.upto fnExactLitTimeSpec)

/-- 'laws.FnExactCharacterText', WHERE WHAT IT READS IS OF BULK AT MOST 1048576: true; the input reads as it did. -/
def fnExactCharacterTextUptoRow : OpenClaim := { program := "ythggoboljkdldaadoor", sum := "9ed65967425e5c01305a4364171f79b022e9773882caf077edcce93600e753d5", func := "loop.example/g00953/laws.FnExactCharacterText", spec := "fnExactCharacterText", inPlace := ["internal/bytealg.IndexByteString", "internal/abi.NoEscape", "internal/bytealg.MakeNoZero"], unfollowed := true, recurses := true, named := ["loop.example/g00953/impl.kindTable", "internal/strconv.uint64pow10", "math/bits.deBruijn32tab", "math/bits.deBruijn64tab"], apart := false, laid := [("math/bits.deBruijn32tab", laid_math_bits_deBruijn32tab), ("math/bits.deBruijn64tab", laid_math_bits_deBruijn64tab), ("internal/strconv.uint64pow10", laid_internal_strconv_uint64pow10), ("loop.example/g00953/impl.kindTable", laid_loop_example_g00953_impl_kindTable)], narrowed := true }
def FnExactCharacterTextUptoSaid : Prop := fnExactCharacterTextUptoRow.holds Tryd.pinned (OpenSpec.upto fnExactCharacterTextSpec)

/-- 'laws.FnExactListText', WHERE WHAT IT READS IS OF BULK AT MOST 1048576: true; the input reads as it did. -/
def fnExactListTextUptoRow : OpenClaim := { program := "ythggoboljkdldaadoor", sum := "9ed65967425e5c01305a4364171f79b022e9773882caf077edcce93600e753d5", func := "loop.example/g00953/laws.FnExactListText", spec := "fnExactListText", inPlace := ["internal/abi.NoEscape", "internal/bytealg.MakeNoZero"], named := ["internal/strconv.uint64pow10", "math/bits.deBruijn32tab", "math/bits.deBruijn64tab"], apart := false, laid := [("math/bits.deBruijn32tab", laid_math_bits_deBruijn32tab), ("math/bits.deBruijn64tab", laid_math_bits_deBruijn64tab), ("internal/strconv.uint64pow10", laid_internal_strconv_uint64pow10)], narrowed := true }
def FnExactListTextUptoSaid : Prop := fnExactListTextUptoRow.holds Tryd.pinned (OpenSpec.upto fnExactListTextSpec)

end Rows
end Go.Proofs.YthggoboljkdldaaDoor
