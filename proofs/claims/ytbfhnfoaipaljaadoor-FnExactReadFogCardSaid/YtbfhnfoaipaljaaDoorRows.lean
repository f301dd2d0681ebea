/-
  NARROWER THAN 'FOR EVERY INPUT', by the rows' own cells (each row's printed sentence says how): FnExactFogName: laid · FnExactValidFog: ifaces, laid · FnExactBlastLength: laid · FnExactLeastFogPeriod: ifaces, laid · FnExactBlastsOf: ifaces, laid · FnExactSoundAt: ifaces, laid · FnExactNextBlast: ifaces, laid · FnExactSoundRange: laid · FnExactHeardFrom: ifaces, laid · FnExactPowerFor: laid · FnExactFogText: ifaces, laid · FnExactReadFog: ifaces, laid.
  DERIVED. THE GIVEN ROWS OF THIS SEAT. 12 by the template 'for every input the law returns true; each argument reads behind the call as it read before'; 0 by the template 'total and deterministic' (their statements: YtbfhnfoaipaljaaDoorTotals.lean).
  GIVEN WITH THE SEED: the statements are not yours to turn. If you find one false, say at which input.
  Laid BY PROGRAM, IN A SANDBOX (cutbox-rows.mjs): the forced cells as the released guide's own fill.sh prints them over the translation 1a29402a2827bba5… (all of the seat's roots in one cut). By AI agents, Wed Nov 11 2026. No macro, syntax, notation, axiom, sorry.
-/
import Derived.Test.YtbfhnfoaipaljaaDoorChecked
import GoSem.PinnedTables
import GoSem.Claim
import GoSem.ClaimJoined
import GoSem.ClaimMapViews
import Derived.JoinedTies
import Derived.KernelRfl
namespace Go.Proofs.YtbfhnfoaipaljaaDoor
/- THE CELL 'sum', in the pinned program and in every row, IS THE sha256 OF THE DUMP (.gsa) THAT YtbfhnfoaipaljaaDoorProg.lean LOADS. Nothing in Lean hashes anything: it is a label: what it is worth is what the hold of that sum in a sandbox is worth. -/
noncomputable def Tryd.pinned : Pinned := { name := "ytbfhnfoaipaljaadoor", sum := "1a29402a2827bba579888166d5c2b44ff41590c47da4065f11cf41c80b98b2d7", checked := Tryd.checked }
namespace Rows
def none {H : Type} : Left H := { results := [], args := [] }

/- WHAT THE LISTED PACKAGE-LEVEL VARIABLES READ AS WHEN THE CALL BEGINS. Each datum BY PROGRAM (the guide's laid-datum.mjs) off the statement by which the dump's own 'gosem.cut.vars' lays the variable. In a bare row this is a premise. The card (YtbfhnfoaipaljaaDoorCards.lean) ties it to the program's text. -/
def laid_loop_example_g00953_impl_fogTable {H : Type} : DataW H := .agg [.agg [.lit (.string []), .lit (.int .i64 0)], .agg [.lit (.string [72, 111, 114, 110]), .lit (.int .i64 20)], .agg [.lit (.string [83, 105, 114, 101, 110]), .lit (.int .i64 40)], .agg [.lit (.string [66, 101, 108, 108]), .lit (.int .i64 5)], .agg [.lit (.string [87, 104, 105, 115]), .lit (.int .i64 30)]]
def laid_loop_example_g00953_impl_errBlasts {H : Type} : DataW H := .iface "*errors.errorString" (.ptr (.agg [.lit (.string [110, 111, 32, 115, 117, 99, 104, 32, 98, 108, 97, 115, 116, 115])]))
def laid_loop_example_g00953_impl_errPeriod {H : Type} : DataW H := .iface "*errors.errorString" (.ptr (.agg [.lit (.string [110, 111, 32, 115, 117, 99, 104, 32, 112, 101, 114, 105, 111, 100])]))
def laid_loop_example_g00953_impl_errPower {H : Type} : DataW H := .iface "*errors.errorString" (.ptr (.agg [.lit (.string [110, 111, 32, 115, 117, 99, 104, 32, 112, 111, 119, 101, 114])]))
def laid_loop_example_g00953_impl_soundTable {H : Type} : DataW H := .agg [.agg [.lit (.int .i64 60), .lit (.int .i64 50)], .agg [.lit (.int .i64 80), .lit (.int .i64 200)], .agg [.lit (.int .i64 100), .lit (.int .i64 1000)], .agg [.lit (.int .i64 120), .lit (.int .i64 4000)], .agg [.lit (.int .i64 140), .lit (.int .i64 8000)]]
def laid_math_bits_deBruijn32tab {H : Type} : DataW H := .agg [.lit (.int .u8 0), .lit (.int .u8 1), .lit (.int .u8 28), .lit (.int .u8 2), .lit (.int .u8 29), .lit (.int .u8 14), .lit (.int .u8 24), .lit (.int .u8 3), .lit (.int .u8 30), .lit (.int .u8 22), .lit (.int .u8 20), .lit (.int .u8 15), .lit (.int .u8 25), .lit (.int .u8 17), .lit (.int .u8 4), .lit (.int .u8 8), .lit (.int .u8 31), .lit (.int .u8 27), .lit (.int .u8 13), .lit (.int .u8 23), .lit (.int .u8 21), .lit (.int .u8 19), .lit (.int .u8 16), .lit (.int .u8 7), .lit (.int .u8 26), .lit (.int .u8 12), .lit (.int .u8 18), .lit (.int .u8 6), .lit (.int .u8 11), .lit (.int .u8 5), .lit (.int .u8 10), .lit (.int .u8 9)]
def laid_math_bits_deBruijn64tab {H : Type} : DataW H := .agg [.lit (.int .u8 0), .lit (.int .u8 1), .lit (.int .u8 56), .lit (.int .u8 2), .lit (.int .u8 57), .lit (.int .u8 49), .lit (.int .u8 28), .lit (.int .u8 3), .lit (.int .u8 61), .lit (.int .u8 58), .lit (.int .u8 42), .lit (.int .u8 50), .lit (.int .u8 38), .lit (.int .u8 29), .lit (.int .u8 17), .lit (.int .u8 4), .lit (.int .u8 62), .lit (.int .u8 47), .lit (.int .u8 59), .lit (.int .u8 36), .lit (.int .u8 45), .lit (.int .u8 43), .lit (.int .u8 51), .lit (.int .u8 22), .lit (.int .u8 53), .lit (.int .u8 39), .lit (.int .u8 33), .lit (.int .u8 30), .lit (.int .u8 24), .lit (.int .u8 18), .lit (.int .u8 12), .lit (.int .u8 5), .lit (.int .u8 63), .lit (.int .u8 55), .lit (.int .u8 48), .lit (.int .u8 27), .lit (.int .u8 60), .lit (.int .u8 41), .lit (.int .u8 37), .lit (.int .u8 16), .lit (.int .u8 46), .lit (.int .u8 35), .lit (.int .u8 44), .lit (.int .u8 21), .lit (.int .u8 52), .lit (.int .u8 32), .lit (.int .u8 23), .lit (.int .u8 11), .lit (.int .u8 54), .lit (.int .u8 26), .lit (.int .u8 40), .lit (.int .u8 15), .lit (.int .u8 34), .lit (.int .u8 20), .lit (.int .u8 31), .lit (.int .u8 10), .lit (.int .u8 25), .lit (.int .u8 14), .lit (.int .u8 19), .lit (.int .u8 9), .lit (.int .u8 13), .lit (.int .u8 8), .lit (.int .u8 7), .lit (.int .u8 6)]
def laid_internal_strconv_uint64pow10 {H : Type} : DataW H := .agg [.lit (.int .u64 1), .lit (.int .u64 10), .lit (.int .u64 100), .lit (.int .u64 1000), .lit (.int .u64 10000), .lit (.int .u64 100000), .lit (.int .u64 1000000), .lit (.int .u64 10000000), .lit (.int .u64 100000000), .lit (.int .u64 1000000000), .lit (.int .u64 10000000000), .lit (.int .u64 100000000000), .lit (.int .u64 1000000000000), .lit (.int .u64 10000000000000), .lit (.int .u64 100000000000000), .lit (.int .u64 1000000000000000), .lit (.int .u64 10000000000000000), .lit (.int .u64 100000000000000000), .lit (.int .u64 1000000000000000000), .lit (.int .u64 10000000000000000000)]
def laid_unicode_utf8_acceptRanges {H : Type} : DataW H := .agg [.agg [.lit (.int .u8 128), .lit (.int .u8 191)], .agg [.lit (.int .u8 160), .lit (.int .u8 191)], .agg [.lit (.int .u8 128), .lit (.int .u8 159)], .agg [.lit (.int .u8 144), .lit (.int .u8 191)], .agg [.lit (.int .u8 128), .lit (.int .u8 143)], .agg [.lit (.int .u8 0), .lit (.int .u8 0)], .agg [.lit (.int .u8 0), .lit (.int .u8 0)], .agg [.lit (.int .u8 0), .lit (.int .u8 0)], .agg [.lit (.int .u8 0), .lit (.int .u8 0)], .agg [.lit (.int .u8 0), .lit (.int .u8 0)], .agg [.lit (.int .u8 0), .lit (.int .u8 0)], .agg [.lit (.int .u8 0), .lit (.int .u8 0)], .agg [.lit (.int .u8 0), .lit (.int .u8 0)], .agg [.lit (.int .u8 0), .lit (.int .u8 0)], .agg [.lit (.int .u8 0), .lit (.int .u8 0)], .agg [.lit (.int .u8 0), .lit (.int .u8 0)]]
def laid_strconv_ErrRange {H : Type} : DataW H := .iface "*errors.errorString" (.ptr (.agg [.lit (.string [118, 97, 108, 117, 101, 32, 111, 117, 116, 32, 111, 102, 32, 114, 97, 110, 103, 101])]))
def laid_strconv_ErrSyntax {H : Type} : DataW H := .iface "*errors.errorString" (.ptr (.agg [.lit (.string [105, 110, 118, 97, 108, 105, 100, 32, 115, 121, 110, 116, 97, 120])]))
/-- One of Go's own tables, pinned by name: the form's constant. -/
def laid_unicode_utf8_first : DataW Unit := Go.Pinned.utf8First

/-- 'laws.FnExactFogName': WHATEVER THE INPUT: true; the input reads as it did. -/
def fnExactFogNameSpec : ChangeSpec := { name := "fnExactFogName", vars := ["loop.example/g00953/impl.fogTable"], fn := fun _ => fun
  | [d, g1] => { results := [.lit (.bool true)], args := [d], vars := [g1] }
  | _ => none }
def fnExactFogNameRow : OpenClaim := { program := "ytbfhnfoaipaljaadoor", sum := "1a29402a2827bba579888166d5c2b44ff41590c47da4065f11cf41c80b98b2d7", func := "loop.example/g00953/laws.FnExactFogName", spec := "fnExactFogName", named := ["loop.example/g00953/impl.fogTable"], apart := false, laid := [("loop.example/g00953/impl.fogTable", laid_loop_example_g00953_impl_fogTable)] }
def FnExactFogNameSaid : Prop := fnExactFogNameRow.holds Tryd.pinned (OpenSpec.ofChange fnExactFogNameSpec)

/-- ITS FALSE NEIGHBOUR: 'it returns false'. Refute it at one input. -/
def fnExactFogNameWrong : ChangeSpec := { name := "fnExactFogName", vars := ["loop.example/g00953/impl.fogTable"], fn := fun _ => fun
  | [d, g1] => { results := [.lit (.bool false)], args := [d], vars := [g1] }
  | _ => none }
def FnExactFogNameWrongFalsely : Prop := fnExactFogNameRow.holds Tryd.pinned (OpenSpec.ofChange fnExactFogNameWrong)

/-- 'laws.FnExactValidFog': WHATEVER THE INPUT: true; the input reads as it did. -/
def fnExactValidFogSpec : ChangeSpec := { name := "fnExactValidFog", vars := ["loop.example/g00953/impl.fogTable", "loop.example/g00953/impl.errBlasts", "loop.example/g00953/impl.errPeriod", "loop.example/g00953/impl.errPower"], fn := fun _ => fun
  | [d, g1, g2, g3, g4] => { results := [.lit (.bool true)], args := [d], vars := [g1, g2, g3, g4] }
  | _ => none }
def fnExactValidFogRow : OpenClaim := { program := "ytbfhnfoaipaljaadoor", sum := "1a29402a2827bba579888166d5c2b44ff41590c47da4065f11cf41c80b98b2d7", func := "loop.example/g00953/laws.FnExactValidFog", spec := "fnExactValidFog", named := ["loop.example/g00953/impl.fogTable", "loop.example/g00953/impl.errBlasts", "loop.example/g00953/impl.errPeriod", "loop.example/g00953/impl.errPower"], ifaces := true, apart := false, laid := [("loop.example/g00953/impl.errBlasts", laid_loop_example_g00953_impl_errBlasts), ("loop.example/g00953/impl.errPeriod", laid_loop_example_g00953_impl_errPeriod), ("loop.example/g00953/impl.errPower", laid_loop_example_g00953_impl_errPower), ("loop.example/g00953/impl.fogTable", laid_loop_example_g00953_impl_fogTable)] }
def FnExactValidFogSaid : Prop := fnExactValidFogRow.holds Tryd.pinned (OpenSpec.ofChange fnExactValidFogSpec)

/-- ITS FALSE NEIGHBOUR: 'it returns false'. Refute it at one input. -/
def fnExactValidFogWrong : ChangeSpec := { name := "fnExactValidFog", vars := ["loop.example/g00953/impl.fogTable", "loop.example/g00953/impl.errBlasts", "loop.example/g00953/impl.errPeriod", "loop.example/g00953/impl.errPower"], fn := fun _ => fun
  | [d, g1, g2, g3, g4] => { results := [.lit (.bool false)], args := [d], vars := [g1, g2, g3, g4] }
  | _ => none }
def FnExactValidFogWrongFalsely : Prop := fnExactValidFogRow.holds Tryd.pinned (OpenSpec.ofChange fnExactValidFogWrong)

/-- 'laws.FnExactBlastLength': WHATEVER THE INPUT: true; the input reads as it did. -/
def fnExactBlastLengthSpec : ChangeSpec := { name := "fnExactBlastLength", vars := ["loop.example/g00953/impl.fogTable"], fn := fun _ => fun
  | [d, g1] => { results := [.lit (.bool true)], args := [d], vars := [g1] }
  | _ => none }
def fnExactBlastLengthRow : OpenClaim := { program := "ytbfhnfoaipaljaadoor", sum := "1a29402a2827bba579888166d5c2b44ff41590c47da4065f11cf41c80b98b2d7", func := "loop.example/g00953/laws.FnExactBlastLength", spec := "fnExactBlastLength", named := ["loop.example/g00953/impl.fogTable"], apart := false, laid := [("loop.example/g00953/impl.fogTable", laid_loop_example_g00953_impl_fogTable)] }
def FnExactBlastLengthSaid : Prop := fnExactBlastLengthRow.holds Tryd.pinned (OpenSpec.ofChange fnExactBlastLengthSpec)

/-- ITS FALSE NEIGHBOUR: 'it returns false'. Refute it at one input. -/
def fnExactBlastLengthWrong : ChangeSpec := { name := "fnExactBlastLength", vars := ["loop.example/g00953/impl.fogTable"], fn := fun _ => fun
  | [d, g1] => { results := [.lit (.bool false)], args := [d], vars := [g1] }
  | _ => none }
def FnExactBlastLengthWrongFalsely : Prop := fnExactBlastLengthRow.holds Tryd.pinned (OpenSpec.ofChange fnExactBlastLengthWrong)

/-- 'laws.FnExactLeastFogPeriod': WHATEVER THE INPUT: true; the input reads as it did. -/
def fnExactLeastFogPeriodSpec : ChangeSpec := { name := "fnExactLeastFogPeriod", vars := ["loop.example/g00953/impl.errBlasts", "loop.example/g00953/impl.fogTable", "loop.example/g00953/impl.errPeriod", "loop.example/g00953/impl.errPower"], fn := fun _ => fun
  | [d, g1, g2, g3, g4] => { results := [.lit (.bool true)], args := [d], vars := [g1, g2, g3, g4] }
  | _ => none }
def fnExactLeastFogPeriodRow : OpenClaim := { program := "ytbfhnfoaipaljaadoor", sum := "1a29402a2827bba579888166d5c2b44ff41590c47da4065f11cf41c80b98b2d7", func := "loop.example/g00953/laws.FnExactLeastFogPeriod", spec := "fnExactLeastFogPeriod", inPlace := ["internal/reflectlite.TypeOf"], unfollowed := true, recurses := true, named := ["loop.example/g00953/impl.errBlasts", "loop.example/g00953/impl.fogTable", "loop.example/g00953/impl.errPeriod", "loop.example/g00953/impl.errPower"], ifaces := true, apart := false, laid := [("loop.example/g00953/impl.errBlasts", laid_loop_example_g00953_impl_errBlasts), ("loop.example/g00953/impl.errPeriod", laid_loop_example_g00953_impl_errPeriod), ("loop.example/g00953/impl.errPower", laid_loop_example_g00953_impl_errPower), ("loop.example/g00953/impl.fogTable", laid_loop_example_g00953_impl_fogTable)] }
def FnExactLeastFogPeriodSaid : Prop := fnExactLeastFogPeriodRow.holds Tryd.pinned (OpenSpec.ofChange fnExactLeastFogPeriodSpec)

/-- ITS FALSE NEIGHBOUR: 'it returns false'. Refute it at one input. -/
def fnExactLeastFogPeriodWrong : ChangeSpec := { name := "fnExactLeastFogPeriod", vars := ["loop.example/g00953/impl.errBlasts", "loop.example/g00953/impl.fogTable", "loop.example/g00953/impl.errPeriod", "loop.example/g00953/impl.errPower"], fn := fun _ => fun
  | [d, g1, g2, g3, g4] => { results := [.lit (.bool false)], args := [d], vars := [g1, g2, g3, g4] }
  | _ => none }
def FnExactLeastFogPeriodWrongFalsely : Prop := fnExactLeastFogPeriodRow.holds Tryd.pinned (OpenSpec.ofChange fnExactLeastFogPeriodWrong)

/-- 'laws.FnExactBlastsOf': WHATEVER THE INPUT: true; the input reads as it did. -/
def fnExactBlastsOfSpec : ChangeSpec := { name := "fnExactBlastsOf", vars := ["loop.example/g00953/impl.fogTable", "loop.example/g00953/impl.errBlasts", "loop.example/g00953/impl.errPeriod", "loop.example/g00953/impl.errPower"], fn := fun _ => fun
  | [d, g1, g2, g3, g4] => { results := [.lit (.bool true)], args := [d], vars := [g1, g2, g3, g4] }
  | _ => none }
def fnExactBlastsOfRow : OpenClaim := { program := "ytbfhnfoaipaljaadoor", sum := "1a29402a2827bba579888166d5c2b44ff41590c47da4065f11cf41c80b98b2d7", func := "loop.example/g00953/laws.FnExactBlastsOf", spec := "fnExactBlastsOf", named := ["loop.example/g00953/impl.fogTable", "loop.example/g00953/impl.errBlasts", "loop.example/g00953/impl.errPeriod", "loop.example/g00953/impl.errPower"], ifaces := true, apart := false, laid := [("loop.example/g00953/impl.errBlasts", laid_loop_example_g00953_impl_errBlasts), ("loop.example/g00953/impl.errPeriod", laid_loop_example_g00953_impl_errPeriod), ("loop.example/g00953/impl.errPower", laid_loop_example_g00953_impl_errPower), ("loop.example/g00953/impl.fogTable", laid_loop_example_g00953_impl_fogTable)] }
def FnExactBlastsOfSaid : Prop := fnExactBlastsOfRow.holds Tryd.pinned (OpenSpec.ofChange fnExactBlastsOfSpec)

/-- ITS FALSE NEIGHBOUR: 'it returns false'. Refute it at one input. -/
def fnExactBlastsOfWrong : ChangeSpec := { name := "fnExactBlastsOf", vars := ["loop.example/g00953/impl.fogTable", "loop.example/g00953/impl.errBlasts", "loop.example/g00953/impl.errPeriod", "loop.example/g00953/impl.errPower"], fn := fun _ => fun
  | [d, g1, g2, g3, g4] => { results := [.lit (.bool false)], args := [d], vars := [g1, g2, g3, g4] }
  | _ => none }
def FnExactBlastsOfWrongFalsely : Prop := fnExactBlastsOfRow.holds Tryd.pinned (OpenSpec.ofChange fnExactBlastsOfWrong)

/-- 'laws.FnExactSoundAt': WHATEVER THE INPUT: true; the input reads as it did. -/
def fnExactSoundAtSpec : ChangeSpec := { name := "fnExactSoundAt", vars := ["loop.example/g00953/impl.fogTable", "loop.example/g00953/impl.errBlasts", "loop.example/g00953/impl.errPeriod", "loop.example/g00953/impl.errPower"], fn := fun _ => fun
  | [d1, d2, g1, g2, g3, g4] => { results := [.lit (.bool true)], args := [d1, d2], vars := [g1, g2, g3, g4] }
  | _ => none }
def fnExactSoundAtRow : OpenClaim := { program := "ytbfhnfoaipaljaadoor", sum := "1a29402a2827bba579888166d5c2b44ff41590c47da4065f11cf41c80b98b2d7", func := "loop.example/g00953/laws.FnExactSoundAt", spec := "fnExactSoundAt", unfollowed := true, recurses := true, named := ["loop.example/g00953/impl.fogTable", "loop.example/g00953/impl.errBlasts", "loop.example/g00953/impl.errPeriod", "loop.example/g00953/impl.errPower"], ifaces := true, apart := false, laid := [("loop.example/g00953/impl.errBlasts", laid_loop_example_g00953_impl_errBlasts), ("loop.example/g00953/impl.errPeriod", laid_loop_example_g00953_impl_errPeriod), ("loop.example/g00953/impl.errPower", laid_loop_example_g00953_impl_errPower), ("loop.example/g00953/impl.fogTable", laid_loop_example_g00953_impl_fogTable)] }
def FnExactSoundAtSaid : Prop := fnExactSoundAtRow.holds Tryd.pinned (OpenSpec.ofChange fnExactSoundAtSpec)

/-- ITS FALSE NEIGHBOUR: 'it returns false'. Refute it at one input. -/
def fnExactSoundAtWrong : ChangeSpec := { name := "fnExactSoundAt", vars := ["loop.example/g00953/impl.fogTable", "loop.example/g00953/impl.errBlasts", "loop.example/g00953/impl.errPeriod", "loop.example/g00953/impl.errPower"], fn := fun _ => fun
  | [d1, d2, g1, g2, g3, g4] => { results := [.lit (.bool false)], args := [d1, d2], vars := [g1, g2, g3, g4] }
  | _ => none }
def FnExactSoundAtWrongFalsely : Prop := fnExactSoundAtRow.holds Tryd.pinned (OpenSpec.ofChange fnExactSoundAtWrong)

/-- 'laws.FnExactNextBlast': WHATEVER THE INPUT: true; the input reads as it did. -/
def fnExactNextBlastSpec : ChangeSpec := { name := "fnExactNextBlast", vars := ["loop.example/g00953/impl.fogTable", "loop.example/g00953/impl.errBlasts", "loop.example/g00953/impl.errPeriod", "loop.example/g00953/impl.errPower"], fn := fun _ => fun
  | [d1, d2, g1, g2, g3, g4] => { results := [.lit (.bool true)], args := [d1, d2], vars := [g1, g2, g3, g4] }
  | _ => none }
def fnExactNextBlastRow : OpenClaim := { program := "ytbfhnfoaipaljaadoor", sum := "1a29402a2827bba579888166d5c2b44ff41590c47da4065f11cf41c80b98b2d7", func := "loop.example/g00953/laws.FnExactNextBlast", spec := "fnExactNextBlast", named := ["loop.example/g00953/impl.fogTable", "loop.example/g00953/impl.errBlasts", "loop.example/g00953/impl.errPeriod", "loop.example/g00953/impl.errPower"], ifaces := true, apart := false, laid := [("loop.example/g00953/impl.errBlasts", laid_loop_example_g00953_impl_errBlasts), ("loop.example/g00953/impl.errPeriod", laid_loop_example_g00953_impl_errPeriod), ("loop.example/g00953/impl.errPower", laid_loop_example_g00953_impl_errPower), ("loop.example/g00953/impl.fogTable", laid_loop_example_g00953_impl_fogTable)] }
def FnExactNextBlastSaid : Prop := fnExactNextBlastRow.holds Tryd.pinned (OpenSpec.ofChange fnExactNextBlastSpec)

/-- ITS FALSE NEIGHBOUR: 'it returns false'. Refute it at one input. -/
def fnExactNextBlastWrong : ChangeSpec := { name := "fnExactNextBlast", vars := ["loop.example/g00953/impl.fogTable", "loop.example/g00953/impl.errBlasts", "loop.example/g00953/impl.errPeriod", "loop.example/g00953/impl.errPower"], fn := fun _ => fun
  | [d1, d2, g1, g2, g3, g4] => { results := [.lit (.bool false)], args := [d1, d2], vars := [g1, g2, g3, g4] }
  | _ => none }
def FnExactNextBlastWrongFalsely : Prop := fnExactNextBlastRow.holds Tryd.pinned (OpenSpec.ofChange fnExactNextBlastWrong)

/-- 'laws.FnExactSoundRange': WHATEVER THE INPUT: true; the input reads as it did. -/
def fnExactSoundRangeSpec : ChangeSpec := { name := "fnExactSoundRange", vars := ["loop.example/g00953/impl.soundTable"], fn := fun _ => fun
  | [d1, d2, g1] => { results := [.lit (.bool true)], args := [d1, d2], vars := [g1] }
  | _ => none }
def fnExactSoundRangeRow : OpenClaim := { program := "ytbfhnfoaipaljaadoor", sum := "1a29402a2827bba579888166d5c2b44ff41590c47da4065f11cf41c80b98b2d7", func := "loop.example/g00953/laws.FnExactSoundRange", spec := "fnExactSoundRange", named := ["loop.example/g00953/impl.soundTable"], apart := false, laid := [("loop.example/g00953/impl.soundTable", laid_loop_example_g00953_impl_soundTable)] }
def FnExactSoundRangeSaid : Prop := fnExactSoundRangeRow.holds Tryd.pinned (OpenSpec.ofChange fnExactSoundRangeSpec)

/-- ITS FALSE NEIGHBOUR: 'it returns false'. Refute it at one input. -/
def fnExactSoundRangeWrong : ChangeSpec := { name := "fnExactSoundRange", vars := ["loop.example/g00953/impl.soundTable"], fn := fun _ => fun
  | [d1, d2, g1] => { results := [.lit (.bool false)], args := [d1, d2], vars := [g1] }
  | _ => none }
def FnExactSoundRangeWrongFalsely : Prop := fnExactSoundRangeRow.holds Tryd.pinned (OpenSpec.ofChange fnExactSoundRangeWrong)

/-- 'laws.FnExactHeardFrom': WHATEVER THE INPUT: true; the input reads as it did. -/
def fnExactHeardFromSpec : ChangeSpec := { name := "fnExactHeardFrom", vars := ["loop.example/g00953/impl.fogTable", "loop.example/g00953/impl.errBlasts", "loop.example/g00953/impl.errPeriod", "loop.example/g00953/impl.errPower", "loop.example/g00953/impl.soundTable"], fn := fun _ => fun
  | [d1, d2, d3, d4, g1, g2, g3, g4, g5] => { results := [.lit (.bool true)], args := [d1, d2, d3, d4], vars := [g1, g2, g3, g4, g5] }
  | _ => none }
def fnExactHeardFromRow : OpenClaim := { program := "ytbfhnfoaipaljaadoor", sum := "1a29402a2827bba579888166d5c2b44ff41590c47da4065f11cf41c80b98b2d7", func := "loop.example/g00953/laws.FnExactHeardFrom", spec := "fnExactHeardFrom", unfollowed := true, recurses := true, named := ["loop.example/g00953/impl.fogTable", "loop.example/g00953/impl.errBlasts", "loop.example/g00953/impl.errPeriod", "loop.example/g00953/impl.errPower", "loop.example/g00953/impl.soundTable"], ifaces := true, apart := false, laid := [("loop.example/g00953/impl.errBlasts", laid_loop_example_g00953_impl_errBlasts), ("loop.example/g00953/impl.errPeriod", laid_loop_example_g00953_impl_errPeriod), ("loop.example/g00953/impl.errPower", laid_loop_example_g00953_impl_errPower), ("loop.example/g00953/impl.fogTable", laid_loop_example_g00953_impl_fogTable), ("loop.example/g00953/impl.soundTable", laid_loop_example_g00953_impl_soundTable)] }
def FnExactHeardFromSaid : Prop := fnExactHeardFromRow.holds Tryd.pinned (OpenSpec.ofChange fnExactHeardFromSpec)

/-- ITS FALSE NEIGHBOUR: 'it returns false'. Refute it at one input. -/
def fnExactHeardFromWrong : ChangeSpec := { name := "fnExactHeardFrom", vars := ["loop.example/g00953/impl.fogTable", "loop.example/g00953/impl.errBlasts", "loop.example/g00953/impl.errPeriod", "loop.example/g00953/impl.errPower", "loop.example/g00953/impl.soundTable"], fn := fun _ => fun
  | [d1, d2, d3, d4, g1, g2, g3, g4, g5] => { results := [.lit (.bool false)], args := [d1, d2, d3, d4], vars := [g1, g2, g3, g4, g5] }
  | _ => none }
def FnExactHeardFromWrongFalsely : Prop := fnExactHeardFromRow.holds Tryd.pinned (OpenSpec.ofChange fnExactHeardFromWrong)

/-- 'laws.FnExactPowerFor': WHATEVER THE INPUT: true; the input reads as it did. -/
def fnExactPowerForSpec : ChangeSpec := { name := "fnExactPowerFor", vars := ["loop.example/g00953/impl.soundTable"], fn := fun _ => fun
  | [d1, d2, g1] => { results := [.lit (.bool true)], args := [d1, d2], vars := [g1] }
  | _ => none }
def fnExactPowerForRow : OpenClaim := { program := "ytbfhnfoaipaljaadoor", sum := "1a29402a2827bba579888166d5c2b44ff41590c47da4065f11cf41c80b98b2d7", func := "loop.example/g00953/laws.FnExactPowerFor", spec := "fnExactPowerFor", unfollowed := true, recurses := true, named := ["loop.example/g00953/impl.soundTable"], apart := false, laid := [("loop.example/g00953/impl.soundTable", laid_loop_example_g00953_impl_soundTable)] }
def FnExactPowerForSaid : Prop := fnExactPowerForRow.holds Tryd.pinned (OpenSpec.ofChange fnExactPowerForSpec)

/-- ITS FALSE NEIGHBOUR: 'it returns false'. Refute it at one input. -/
def fnExactPowerForWrong : ChangeSpec := { name := "fnExactPowerFor", vars := ["loop.example/g00953/impl.soundTable"], fn := fun _ => fun
  | [d1, d2, g1] => { results := [.lit (.bool false)], args := [d1, d2], vars := [g1] }
  | _ => none }
def FnExactPowerForWrongFalsely : Prop := fnExactPowerForRow.holds Tryd.pinned (OpenSpec.ofChange fnExactPowerForWrong)

/-- 'laws.FnExactFogText': WHATEVER THE INPUT: true; the input reads as it did. -/
def fnExactFogTextSpec : ChangeSpec := { name := "fnExactFogText", vars := ["loop.example/g00953/impl.fogTable", "loop.example/g00953/impl.errBlasts", "loop.example/g00953/impl.errPeriod", "loop.example/g00953/impl.errPower"], fn := fun _ => fun
  | [d, g1, g2, g3, g4] => { results := [.lit (.bool true)], args := [d], vars := [g1, g2, g3, g4] }
  | _ => none }
def fnExactFogTextRow : OpenClaim := { program := "ytbfhnfoaipaljaadoor", sum := "1a29402a2827bba579888166d5c2b44ff41590c47da4065f11cf41c80b98b2d7", func := "loop.example/g00953/laws.FnExactFogText", spec := "fnExactFogText", named := ["loop.example/g00953/impl.fogTable", "loop.example/g00953/impl.errBlasts", "loop.example/g00953/impl.errPeriod", "loop.example/g00953/impl.errPower", "internal/strconv.uint64pow10", "math/bits.deBruijn32tab", "math/bits.deBruijn64tab"], ifaces := true, apart := false, laid := [("math/bits.deBruijn32tab", laid_math_bits_deBruijn32tab), ("math/bits.deBruijn64tab", laid_math_bits_deBruijn64tab), ("internal/strconv.uint64pow10", laid_internal_strconv_uint64pow10), ("loop.example/g00953/impl.errBlasts", laid_loop_example_g00953_impl_errBlasts), ("loop.example/g00953/impl.errPeriod", laid_loop_example_g00953_impl_errPeriod), ("loop.example/g00953/impl.errPower", laid_loop_example_g00953_impl_errPower), ("loop.example/g00953/impl.fogTable", laid_loop_example_g00953_impl_fogTable)] }
def FnExactFogTextSaid : Prop := fnExactFogTextRow.holds Tryd.pinned (OpenSpec.ofChange fnExactFogTextSpec)

/-- ITS FALSE NEIGHBOUR: 'it returns false'. Refute it at one input. -/
def fnExactFogTextWrong : ChangeSpec := { name := "fnExactFogText", vars := ["loop.example/g00953/impl.fogTable", "loop.example/g00953/impl.errBlasts", "loop.example/g00953/impl.errPeriod", "loop.example/g00953/impl.errPower"], fn := fun _ => fun
  | [d, g1, g2, g3, g4] => { results := [.lit (.bool false)], args := [d], vars := [g1, g2, g3, g4] }
  | _ => none }
def FnExactFogTextWrongFalsely : Prop := fnExactFogTextRow.holds Tryd.pinned (OpenSpec.ofChange fnExactFogTextWrong)

/-- 'laws.FnExactReadFog': WHATEVER THE INPUT: true; the input reads as it did. -/
def fnExactReadFogSpec : ChangeSpec := { name := "fnExactReadFog", vars := ["loop.example/g00953/impl.fogTable", "loop.example/g00953/impl.errBlasts", "loop.example/g00953/impl.errPeriod", "loop.example/g00953/impl.errPower"], fn := fun _ => fun
  | [d, g1, g2, g3, g4] => { results := [.lit (.bool true)], args := [d], vars := [g1, g2, g3, g4] }
  | _ => none }
def fnExactReadFogRow : OpenClaim := { program := "ytbfhnfoaipaljaadoor", sum := "1a29402a2827bba579888166d5c2b44ff41590c47da4065f11cf41c80b98b2d7", func := "loop.example/g00953/laws.FnExactReadFog", spec := "fnExactReadFog", inPlace := ["internal/bytealg.CountString", "internal/bytealg.IndexByteString", "internal/bytealg.IndexString"], named := ["unicode/utf8.first", "unicode/utf8.acceptRanges", "internal/bytealg.MaxLen", "loop.example/g00953/impl.fogTable", "strconv.ErrSyntax", "strconv.ErrRange", "internal/strconv.uint64pow10", "math/bits.deBruijn32tab", "math/bits.deBruijn64tab", "loop.example/g00953/impl.errBlasts", "loop.example/g00953/impl.errPeriod", "loop.example/g00953/impl.errPower"], ifaces := true, apart := false, laid := [("math/bits.deBruijn32tab", laid_math_bits_deBruijn32tab), ("math/bits.deBruijn64tab", laid_math_bits_deBruijn64tab), ("internal/strconv.uint64pow10", laid_internal_strconv_uint64pow10), ("unicode/utf8.acceptRanges", laid_unicode_utf8_acceptRanges), ("strconv.ErrRange", laid_strconv_ErrRange), ("strconv.ErrSyntax", laid_strconv_ErrSyntax), ("loop.example/g00953/impl.errBlasts", laid_loop_example_g00953_impl_errBlasts), ("loop.example/g00953/impl.errPeriod", laid_loop_example_g00953_impl_errPeriod), ("loop.example/g00953/impl.errPower", laid_loop_example_g00953_impl_errPower), ("loop.example/g00953/impl.fogTable", laid_loop_example_g00953_impl_fogTable), ("unicode/utf8.first", laid_unicode_utf8_first)] }
def FnExactReadFogSaid : Prop := fnExactReadFogRow.holds Tryd.pinned (OpenSpec.ofChange fnExactReadFogSpec)

/-- ITS FALSE NEIGHBOUR: 'it returns false'. Refute it at one input. -/
def fnExactReadFogWrong : ChangeSpec := { name := "fnExactReadFog", vars := ["loop.example/g00953/impl.fogTable", "loop.example/g00953/impl.errBlasts", "loop.example/g00953/impl.errPeriod", "loop.example/g00953/impl.errPower"], fn := fun _ => fun
  | [d, g1, g2, g3, g4] => { results := [.lit (.bool false)], args := [d], vars := [g1, g2, g3, g4] }
  | _ => none }
def FnExactReadFogWrongFalsely : Prop := fnExactReadFogRow.holds Tryd.pinned (OpenSpec.ofChange fnExactReadFogWrong)

/- THE SECOND FORM. 'bulk': how many values and letters a reading holds, each counted each time it is reached (what is shared counts as often as it is met; a slice's spare places count too). A statement '..UptoSaid' is the law's where the arguments, and the package variables that the reading takes, are together of bulk at most 1048576: NARROWER than '..Said'. Prove '..Said' where nothing that the law and all that it calls make is longer than what came in: it says more and counts as full. Else prove '..UptoSaid'. A law counts once. -/
mutual
def uptoBulk {H : Type} : DataW H → Nat
  | .lit (.string bytes) => bytes.length + 1
  | .lit _ => 1
  | .nil => 1
  | .ptr d => uptoBulk d + 1
  | .slice elems spare => uptoBulkAll elems + uptoBulkAll spare + 1
  | .agg parts => uptoBulkAll parts + 1
  | .iface _ d => uptoBulk d + 1
  | .map entries => uptoBulkEntries entries + 1
  | .held _ => 1
def uptoBulkAll {H : Type} : List (DataW H) → Nat
  | [] => 0
  | d :: r => uptoBulk d + uptoBulkAll r
def uptoBulkEntries {H : Type} : List (Lit × DataW H) → Nat
  | [] => 0
  | x :: r => uptoBulkEntry x + uptoBulkEntries r
def uptoBulkEntry {H : Type} : Lit × DataW H → Nat
  | (.string bytes, d) => bytes.length + uptoBulk d + 1
  | (_, d) => uptoBulk d + 1
 end
def uptoSmall : (H : Type) → List (DataW H) → Bool := fun _ ds => decide (uptoBulkAll ds ≤ 1048576)
def OpenSpec.upto (s : _root_.Go.ChangeSpec) : _root_.Go.OpenSpec := { _root_.Go.OpenSpec.ofChange s with cond := some uptoSmall }

/-- 'laws.FnExactFogName', WHERE WHAT IT READS IS OF BULK AT MOST 1048576: true; the input reads as it did. -/
def fnExactFogNameUptoRow : OpenClaim := { program := "ytbfhnfoaipaljaadoor", sum := "1a29402a2827bba579888166d5c2b44ff41590c47da4065f11cf41c80b98b2d7", func := "loop.example/g00953/laws.FnExactFogName", spec := "fnExactFogName", named := ["loop.example/g00953/impl.fogTable"], apart := false, laid := [("loop.example/g00953/impl.fogTable", laid_loop_example_g00953_impl_fogTable)], narrowed := true }
def FnExactFogNameUptoSaid : Prop := fnExactFogNameUptoRow.holds Tryd.pinned (OpenSpec.upto fnExactFogNameSpec)

/-- 'laws.FnExactValidFog', WHERE WHAT IT READS IS OF BULK AT MOST 1048576: true; the input reads as it did. -/
def fnExactValidFogUptoRow : OpenClaim := { program := "ytbfhnfoaipaljaadoor", sum := "1a29402a2827bba579888166d5c2b44ff41590c47da4065f11cf41c80b98b2d7", func := "loop.example/g00953/laws.FnExactValidFog", spec := "fnExactValidFog", named := ["loop.example/g00953/impl.fogTable", "loop.example/g00953/impl.errBlasts", "loop.example/g00953/impl.errPeriod", "loop.example/g00953/impl.errPower"], ifaces := true, apart := false, laid := [("loop.example/g00953/impl.errBlasts", laid_loop_example_g00953_impl_errBlasts), ("loop.example/g00953/impl.errPeriod", laid_loop_example_g00953_impl_errPeriod), ("loop.example/g00953/impl.errPower", laid_loop_example_g00953_impl_errPower), ("loop.example/g00953/impl.fogTable", laid_loop_example_g00953_impl_fogTable)], narrowed := true }
def FnExactValidFogUptoSaid : Prop := fnExactValidFogUptoRow.holds Tryd.pinned (OpenSpec.upto fnExactValidFogSpec)

/-- 'laws.FnExactBlastLength', WHERE WHAT IT READS IS OF BULK AT MOST 1048576: true; the input reads as it did. -/
def fnExactBlastLengthUptoRow : OpenClaim := { program := "ytbfhnfoaipaljaadoor", sum := "1a29402a2827bba579888166d5c2b44ff41590c47da4065f11cf41c80b98b2d7", func := "loop.example/g00953/laws.FnExactBlastLength", spec := "fnExactBlastLength", named := ["loop.example/g00953/impl.fogTable"], apart := false, laid := [("loop.example/g00953/impl.fogTable", laid_loop_example_g00953_impl_fogTable)], narrowed := true }
def FnExactBlastLengthUptoSaid : Prop := fnExactBlastLengthUptoRow.holds Tryd.pinned (OpenSpec.upto fnExactBlastLengthSpec)

/-- 'laws.FnExactLeastFogPeriod', WHERE WHAT IT READS IS OF BULK AT MOST 1048576: true; the input reads as it did. -/
def fnExactLeastFogPeriodUptoRow : OpenClaim := { program := "ytbfhnfoaipaljaadoor", sum := "1a29402a2827bba579888166d5c2b44ff41590c47da4065f11cf41c80b98b2d7", func := "loop.example/g00953/laws.FnExactLeastFogPeriod", spec := "fnExactLeastFogPeriod", inPlace := ["internal/reflectlite.TypeOf"], unfollowed := true, recurses := true, named := ["loop.example/g00953/impl.errBlasts", "loop.example/g00953/impl.fogTable", "loop.example/g00953/impl.errPeriod", "loop.example/g00953/impl.errPower"], ifaces := true, apart := false, laid := [("loop.example/g00953/impl.errBlasts", laid_loop_example_g00953_impl_errBlasts), ("loop.example/g00953/impl.errPeriod", laid_loop_example_g00953_impl_errPeriod), ("loop.example/g00953/impl.errPower", laid_loop_example_g00953_impl_errPower), ("loop.example/g00953/impl.fogTable", laid_loop_example_g00953_impl_fogTable)], narrowed := true }
def FnExactLeastFogPeriodUptoSaid : Prop := fnExactLeastFogPeriodUptoRow.holds Tryd.pinned (OpenSpec.upto fnExactLeastFogPeriodSpec)

/-- 'laws.FnExactBlastsOf', WHERE WHAT IT READS IS OF BULK AT MOST 1048576: true; the input reads as it did. -/
def fnExactBlastsOfUptoRow : OpenClaim := { program := "ytbfhnfoaipaljaadoor", sum := "1a29402a2827bba579888166d5c2b44ff41590c47da4065f11cf41c80b98b2d7", func := "loop.example/g00953/laws.FnExactBlastsOf", spec := "fnExactBlastsOf", named := ["loop.example/g00953/impl.fogTable", "loop.example/g00953/impl.errBlasts", "loop.example/g00953/impl.errPeriod", "loop.example/g00953/impl.errPower"], ifaces := true, apart := false, laid := [("loop.example/g00953/impl.errBlasts", laid_loop_example_g00953_impl_errBlasts), ("loop.example/g00953/impl.errPeriod", laid_loop_example_g00953_impl_errPeriod), ("loop.example/g00953/impl.errPower", laid_loop_example_g00953_impl_errPower), ("loop.example/g00953/impl.fogTable", laid_loop_example_g00953_impl_fogTable)], narrowed := true }
def FnExactBlastsOfUptoSaid : Prop := fnExactBlastsOfUptoRow.holds Tryd.pinned (OpenSpec.upto fnExactBlastsOfSpec)

/-- 'laws.FnExactSoundAt', WHERE WHAT IT READS IS OF BULK AT MOST 1048576: true; the input reads as it did. -/
def fnExactSoundAtUptoRow : OpenClaim := { program := "ytbfhnfoaipaljaadoor", sum := "1a29402a2827bba579888166d5c2b44ff41590c47da4065f11cf41c80b98b2d7", func := "loop.example/g00953/laws.FnExactSoundAt", spec := "fnExactSoundAt", unfollowed := true, recurses := true, named := ["loop.example/g00953/impl.fogTable", "loop.example/g00953/impl.errBlasts", "loop.example/g00953/impl.errPeriod", "loop.example/g00953/impl.errPower"], ifaces := true, apart := false, laid := [("loop.example/g00953/impl.errBlasts", laid_loop_example_g00953_impl_errBlasts), ("loop.example/g00953/impl.errPeriod", laid_loop_example_g00953_impl_errPeriod), ("loop.example/g00953/impl.errPower", laid_loop_example_g00953_impl_errPower), ("loop.example/g00953/impl.fogTable", laid_loop_example_g00953_impl_fogTable)], narrowed := true }
def FnExactSoundAtUptoSaid : Prop := fnExactSoundAtUptoRow.holds Tryd.pinned (OpenSpec.upto fnExactSoundAtSpec)

/-- 'laws.FnExactNextBlast', WHERE WHAT IT READS IS OF BULK AT MOST 1048576: true; the input reads as it did. -/
def fnExactNextBlastUptoRow : OpenClaim := { program := "ytbfhnfoaipaljaadoor", sum := "1a29402a2827bba579888166d5c2b44ff41590c47da4065f11cf41c80b98b2d7", func := "loop.example/g00953/laws.FnExactNextBlast", spec := "fnExactNextBlast", named := ["loop.example/g00953/impl.fogTable", "loop.example/g00953/impl.errBlasts", "loop.example/g00953/impl.errPeriod", "loop.example/g00953/impl.errPower"], ifaces := true, apart := false, laid := [("loop.example/g00953/impl.errBlasts", laid_loop_example_g00953_impl_errBlasts), ("loop.example/g00953/impl.errPeriod", laid_loop_example_g00953_impl_errPeriod), ("loop.example/g00953/impl.errPower", laid_loop_example_g00953_impl_errPower), ("loop.example/g00953/impl.fogTable", laid_loop_example_g00953_impl_fogTable)], narrowed := true }
def FnExactNextBlastUptoSaid : Prop := fnExactNextBlastUptoRow.holds Tryd.pinned (OpenSpec.upto fnExactNextBlastSpec)

/-- 'laws.FnExactSoundRange', WHERE WHAT IT READS IS OF BULK AT MOST 1048576: true; the input reads as it did. -/
def fnExactSoundRangeUptoRow : OpenClaim := { program := "ytbfhnfoaipaljaadoor", sum := "1a29402a2827bba579888166d5c2b44ff41590c47da4065f11cf41c80b98b2d7", func := "loop.example/g00953/laws.FnExactSoundRange", spec := "fnExactSoundRange", named := ["loop.example/g00953/impl.soundTable"], apart := false, laid := [("loop.example/g00953/impl.soundTable", laid_loop_example_g00953_impl_soundTable)], narrowed := true }
def FnExactSoundRangeUptoSaid : Prop := fnExactSoundRangeUptoRow.holds Tryd.pinned (OpenSpec.upto fnExactSoundRangeSpec)

/-- 'laws.FnExactHeardFrom', WHERE WHAT IT READS IS OF BULK AT MOST 1048576: true; the input reads as it did. -/
def fnExactHeardFromUptoRow : OpenClaim := { program := "ytbfhnfoaipaljaadoor", sum := "1a29402a2827bba579888166d5c2b44ff41590c47da4065f11cf41c80b98b2d7", func := "loop.example/g00953/laws.FnExactHeardFrom", spec := "fnExactHeardFrom", unfollowed := true, recurses := true, named := ["loop.example/g00953/impl.fogTable", "loop.example/g00953/impl.errBlasts", "loop.example/g00953/impl.errPeriod", "loop.example/g00953/impl.errPower", "loop.example/g00953/impl.soundTable"], ifaces := true, apart := false, laid := [("loop.example/g00953/impl.errBlasts", laid_loop_example_g00953_impl_errBlasts), ("loop.example/g00953/impl.errPeriod", laid_loop_example_g00953_impl_errPeriod), ("loop.example/g00953/impl.errPower", laid_loop_example_g00953_impl_errPower), ("loop.example/g00953/impl.fogTable", laid_loop_example_g00953_impl_fogTable), ("loop.example/g00953/impl.soundTable", laid_loop_example_g00953_impl_soundTable)], narrowed := true }
def FnExactHeardFromUptoSaid : Prop := fnExactHeardFromUptoRow.holds Tryd.pinned (OpenSpec.upto fnExactHeardFromSpec)

/-- 'laws.FnExactPowerFor', WHERE WHAT IT READS IS OF BULK AT MOST 1048576: true; the input reads as it did. -/
def fnExactPowerForUptoRow : OpenClaim := { program := "ytbfhnfoaipaljaadoor", sum := "1a29402a2827bba579888166d5c2b44ff41590c47da4065f11cf41c80b98b2d7", func := "loop.example/g00953/laws.FnExactPowerFor", spec := "fnExactPowerFor", unfollowed := true, recurses := true, named := ["loop.example/g00953/impl.soundTable"], apart := false, laid := [("loop.example/g00953/impl.soundTable", laid_loop_example_g00953_impl_soundTable)], narrowed := true }
def FnExactPowerForUptoSaid : Prop := fnExactPowerForUptoRow.holds Tryd.pinned (OpenSpec.upto fnExactPowerForSpec)

/-- 'laws.FnExactFogText', WHERE WHAT IT READS IS OF BULK AT MOST 1048576: true; the input reads as it did. -/
def fnExactFogTextUptoRow : OpenClaim := { program := "ytbfhnfoaipaljaadoor", sum := "1a29402a2827bba579888166d5c2b44ff41590c47da4065f11cf41c80b98b2d7", func := "loop.example/g00953/laws.FnExactFogText", spec := "fnExactFogText", named := ["loop.example/g00953/impl.fogTable", "loop.example/g00953/impl.errBlasts", "loop.example/g00953/impl.errPeriod", "loop.example/g00953/impl.errPower", "internal/strconv.uint64pow10", "math/bits.deBruijn32tab", "math/bits.deBruijn64tab"], ifaces := true, apart := false, laid := [("math/bits.deBruijn32tab", laid_math_bits_deBruijn32tab), ("math/bits.deBruijn64tab", laid_math_bits_deBruijn64tab), ("internal/strconv.uint64pow10", laid_internal_strconv_uint64pow10), ("loop.example/g00953/impl.errBlasts", laid_loop_example_g00953_impl_errBlasts), ("loop.example/g00953/impl.errPeriod", laid_loop_example_g00953_impl_errPeriod), ("loop.example/g00953/impl.errPower", laid_loop_example_g00953_impl_errPower), ("loop.example/g00953/impl.fogTable", laid_loop_example_g00953_impl_fogTable)], narrowed := true }
def FnExactFogTextUptoSaid : Prop := fnExactFogTextUptoRow.holds Tryd.pinned (OpenSpec.upto fnExactFogTextSpec)

/-- 'laws.FnExactReadFog', WHERE WHAT IT READS IS OF BULK AT MOST 1048576: true; the input reads as it did. -/
def fnExactReadFogUptoRow : OpenClaim := { program := "ytbfhnfoaipaljaadoor", sum := "1a29402a2827bba579888166d5c2b44ff41590c47da4065f11cf41c80b98b2d7", func := "loop.example/g00953/laws.FnExactReadFog", spec := "fnExactReadFog", inPlace := ["internal/bytealg.CountString", "internal/bytealg.IndexByteString", "internal/bytealg.IndexString"], named := ["unicode/utf8.first", "unicode/utf8.acceptRanges", "internal/bytealg.MaxLen", "loop.example/g00953/impl.fogTable", "strconv.ErrSyntax", "strconv.ErrRange", "internal/strconv.uint64pow10", "math/bits.deBruijn32tab", "math/bits.deBruijn64tab", "loop.example/g00953/impl.errBlasts", "loop.example/g00953/impl.errPeriod", "loop.example/g00953/impl.errPower"], ifaces := true, apart := false, laid := [("math/bits.deBruijn32tab", laid_math_bits_deBruijn32tab), ("math/bits.deBruijn64tab", laid_math_bits_deBruijn64tab), ("internal/strconv.uint64pow10", laid_internal_strconv_uint64pow10), ("unicode/utf8.acceptRanges", laid_unicode_utf8_acceptRanges), ("strconv.ErrRange", laid_strconv_ErrRange), ("strconv.ErrSyntax", laid_strconv_ErrSyntax), ("loop.example/g00953/impl.errBlasts", laid_loop_example_g00953_impl_errBlasts), ("loop.example/g00953/impl.errPeriod", laid_loop_example_g00953_impl_errPeriod), ("loop.example/g00953/impl.errPower", laid_loop_example_g00953_impl_errPower), ("loop.example/g00953/impl.fogTable", laid_loop_example_g00953_impl_fogTable), ("unicode/utf8.first", laid_unicode_utf8_first)], narrowed := true }
def FnExactReadFogUptoSaid : Prop := fnExactReadFogUptoRow.holds Tryd.pinned (OpenSpec.upto fnExactReadFogSpec)

end Rows
end Go.Proofs.YtbfhnfoaipaljaaDoor
