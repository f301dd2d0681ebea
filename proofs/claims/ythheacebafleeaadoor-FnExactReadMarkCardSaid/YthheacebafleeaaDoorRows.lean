/-
  NARROWER THAN 'FOR EVERY INPUT', by the rows' own cells (each row's printed sentence says how): FnExactMarkName: laid · FnExactMarkNamed: laid · FnExactStandardMark: laid · FnExactValidMark: laid · FnExactSideToPass: laid · FnExactKindsLike: laid · FnExactMarkText: laid · FnExactReadMark: laid.
  DERIVED. THE GIVEN ROWS OF THIS SEAT. 8 by the template 'for every input the law returns true; each argument reads behind the call as it read before'; 0 by the template 'total and deterministic' (their statements: YthheacebafleeaaDoorTotals.lean).
  GIVEN WITH THE SEED: the statements are not yours to turn. If you find one false, say at which input.
  Laid BY PROGRAM, IN A SANDBOX (cutbox-rows.mjs): the forced cells as the released guide's own fill.sh prints them over the translation 17459692044303a7… (all of the seat's roots in one cut). By AI agents, Wed Nov 11 2026. No macro, syntax, notation, axiom, sorry.
-/
import Derived.Test.YthheacebafleeaaDoorChecked
import GoSem.PinnedTables
import GoSem.Claim
import GoSem.ClaimJoined
import GoSem.ClaimMapViews
import Derived.JoinedTies
import Derived.KernelRfl
namespace Go.Proofs.YthheacebafleeaaDoor
/- THE CELL 'sum', in the pinned program and in every row, IS THE sha256 OF THE DUMP (.gsa) THAT YthheacebafleeaaDoorProg.lean LOADS. Nothing in Lean hashes anything: it is a label: what it is worth is what the hold of that sum in a sandbox is worth. -/
noncomputable def Tryd.pinned : Pinned := { name := "ythheacebafleeaadoor", sum := "17459692044303a73c08d4a9ea7a0876d44fbee269f4f3595dc255bb4714acf3", checked := Tryd.checked }
namespace Rows
def none {H : Type} : Left H := { results := [], args := [] }

/- WHAT THE LISTED PACKAGE-LEVEL VARIABLES READ AS WHEN THE CALL BEGINS. Each datum BY PROGRAM (the guide's laid-datum.mjs) off the statement by which the dump's own 'gosem.cut.vars' lays the variable. In a bare row this is a premise. The card (YthheacebafleeaaDoorCards.lean) ties it to the program's text. -/
def laid_loop_example_g00953_impl_markTable {H : Type} : DataW H := .agg [.agg [.lit (.string [110, 111, 110, 101]), .lit (.string []), .lit (.string []), .lit (.string []), .lit (.string []), .lit (.string []), .lit (.string [])], .agg [.lit (.string [108, 101, 102, 116]), .lit (.string [82]), .lit (.string [99, 97, 110, 32, 112, 105, 108, 108, 97, 114, 32, 115, 112, 97, 114]), .lit (.string [99, 97, 110]), .lit (.string [112, 111, 114, 116]), .lit (.string [70, 108, 32, 82, 32, 52, 115]), .lit (.string [])], .agg [.lit (.string [114, 105, 103, 104, 116]), .lit (.string [71]), .lit (.string [99, 111, 110, 101, 32, 112, 105, 108, 108, 97, 114, 32, 115, 112, 97, 114]), .lit (.string [99, 111, 110, 101]), .lit (.string [115, 116, 97, 114, 98, 111, 97, 114, 100]), .lit (.string [70, 108, 32, 71, 32, 52, 115]), .lit (.string [])], .agg [.lit (.string [110, 111, 114, 116, 104]), .lit (.string [66, 89]), .lit (.string [112, 105, 108, 108, 97, 114, 32, 115, 112, 97, 114]), .lit (.string [117, 112]), .lit (.string [110, 111, 114, 116, 104]), .lit (.string [81, 32, 87]), .lit (.string [86, 81, 32, 87])], .agg [.lit (.string [101, 97, 115, 116]), .lit (.string [66, 89, 66]), .lit (.string [112, 105, 108, 108, 97, 114, 32, 115, 112, 97, 114]), .lit (.string [98, 97, 115, 101]), .lit (.string [101, 97, 115, 116]), .lit (.string [81, 40, 51, 41, 32, 87, 32, 49, 48, 115]), .lit (.string [86, 81, 40, 51, 41, 32, 87, 32, 53, 115])], .agg [.lit (.string [115, 111, 117, 116, 104]), .lit (.string [89, 66]), .lit (.string [112, 105, 108, 108, 97, 114, 32, 115, 112, 97, 114]), .lit (.string [100, 111, 119, 110]), .lit (.string [115, 111, 117, 116, 104]), .lit (.string [81, 40, 54, 41, 43, 76, 70, 108, 32, 87, 32, 49, 53, 115]), .lit (.string [86, 81, 40, 54, 41, 43, 76, 70, 108, 32, 87, 32, 49, 48, 115])], .agg [.lit (.string [119, 101, 115, 116]), .lit (.string [89, 66, 89]), .lit (.string [112, 105, 108, 108, 97, 114, 32, 115, 112, 97, 114]), .lit (.string [112, 111, 105, 110, 116]), .lit (.string [119, 101, 115, 116]), .lit (.string [81, 40, 57, 41, 32, 87, 32, 49, 53, 115]), .lit (.string [86, 81, 40, 57, 41, 32, 87, 32, 49, 48, 115])], .agg [.lit (.string [100, 97, 110, 103, 101, 114]), .lit (.string [66, 82, 66]), .lit (.string [112, 105, 108, 108, 97, 114, 32, 115, 112, 97, 114]), .lit (.string [98, 97, 108, 108, 115]), .lit (.string [99, 108, 101, 97, 114]), .lit (.string [70, 108, 40, 50, 41, 32, 87, 32, 53, 115]), .lit (.string [])], .agg [.lit (.string [115, 97, 102, 101]), .lit (.string [82, 87]), .lit (.string [115, 112, 104, 101, 114, 101, 32, 112, 105, 108, 108, 97, 114, 32, 115, 112, 97, 114]), .lit (.string [98, 97, 108, 108]), .lit (.string [101, 105, 116, 104, 101, 114]), .lit (.string [76, 70, 108, 32, 87, 32, 49, 48, 115]), .lit (.string [])], .agg [.lit (.string [115, 112, 101, 99, 105, 97, 108]), .lit (.string [89]), .lit (.string [99, 97, 110, 32, 99, 111, 110, 101, 32, 112, 105, 108, 108, 97, 114, 32, 115, 112, 97, 114, 32, 115, 112, 104, 101, 114, 101]), .lit (.string [99, 114, 111, 115, 115]), .lit (.string []), .lit (.string [70, 108, 32, 89, 32, 53, 115]), .lit (.string [])]]
def laid_unicode_White_Space {H : Type} : DataW H := .ptr (.agg [.slice [.agg [.lit (.int .u16 9), .lit (.int .u16 13), .lit (.int .u16 1)], .agg [.lit (.int .u16 32), .lit (.int .u16 133), .lit (.int .u16 101)], .agg [.lit (.int .u16 160), .lit (.int .u16 5760), .lit (.int .u16 5600)], .agg [.lit (.int .u16 8192), .lit (.int .u16 8202), .lit (.int .u16 1)], .agg [.lit (.int .u16 8232), .lit (.int .u16 8233), .lit (.int .u16 1)], .agg [.lit (.int .u16 8239), .lit (.int .u16 8287), .lit (.int .u16 48)], .agg [.lit (.int .u16 12288), .lit (.int .u16 12288), .lit (.int .u16 1)]] [], .nil, .lit (.int .i64 2)])
def laid_strings_asciiSpace {H : Type} : DataW H := .agg [.lit (.int .u8 0), .lit (.int .u8 0), .lit (.int .u8 0), .lit (.int .u8 0), .lit (.int .u8 0), .lit (.int .u8 0), .lit (.int .u8 0), .lit (.int .u8 0), .lit (.int .u8 0), .lit (.int .u8 1), .lit (.int .u8 1), .lit (.int .u8 1), .lit (.int .u8 1), .lit (.int .u8 1), .lit (.int .u8 0), .lit (.int .u8 0), .lit (.int .u8 0), .lit (.int .u8 0), .lit (.int .u8 0), .lit (.int .u8 0), .lit (.int .u8 0), .lit (.int .u8 0), .lit (.int .u8 0), .lit (.int .u8 0), .lit (.int .u8 0), .lit (.int .u8 0), .lit (.int .u8 0), .lit (.int .u8 0), .lit (.int .u8 0), .lit (.int .u8 0), .lit (.int .u8 0), .lit (.int .u8 0), .lit (.int .u8 1), .lit (.int .u8 0), .lit (.int .u8 0), .lit (.int .u8 0), .lit (.int .u8 0), .lit (.int .u8 0), .lit (.int .u8 0), .lit (.int .u8 0), .lit (.int .u8 0), .lit (.int .u8 0), .lit (.int .u8 0), .lit (.int .u8 0), .lit (.int .u8 0), .lit (.int .u8 0), .lit (.int .u8 0), .lit (.int .u8 0), .lit (.int .u8 0), .lit (.int .u8 0), .lit (.int .u8 0), .lit (.int .u8 0), .lit (.int .u8 0), .lit (.int .u8 0), .lit (.int .u8 0), .lit (.int .u8 0), .lit (.int .u8 0), .lit (.int .u8 0), .lit (.int .u8 0), .lit (.int .u8 0), .lit (.int .u8 0), .lit (.int .u8 0), .lit (.int .u8 0), .lit (.int .u8 0), .lit (.int .u8 0), .lit (.int .u8 0), .lit (.int .u8 0), .lit (.int .u8 0), .lit (.int .u8 0), .lit (.int .u8 0), .lit (.int .u8 0), .lit (.int .u8 0), .lit (.int .u8 0), .lit (.int .u8 0), .lit (.int .u8 0), .lit (.int .u8 0), .lit (.int .u8 0), .lit (.int .u8 0), .lit (.int .u8 0), .lit (.int .u8 0), .lit (.int .u8 0), .lit (.int .u8 0), .lit (.int .u8 0), .lit (.int .u8 0), .lit (.int .u8 0), .lit (.int .u8 0), .lit (.int .u8 0), .lit (.int .u8 0), .lit (.int .u8 0), .lit (.int .u8 0), .lit (.int .u8 0), .lit (.int .u8 0), .lit (.int .u8 0), .lit (.int .u8 0), .lit (.int .u8 0), .lit (.int .u8 0), .lit (.int .u8 0), .lit (.int .u8 0), .lit (.int .u8 0), .lit (.int .u8 0), .lit (.int .u8 0), .lit (.int .u8 0), .lit (.int .u8 0), .lit (.int .u8 0), .lit (.int .u8 0), .lit (.int .u8 0), .lit (.int .u8 0), .lit (.int .u8 0), .lit (.int .u8 0), .lit (.int .u8 0), .lit (.int .u8 0), .lit (.int .u8 0), .lit (.int .u8 0), .lit (.int .u8 0), .lit (.int .u8 0), .lit (.int .u8 0), .lit (.int .u8 0), .lit (.int .u8 0), .lit (.int .u8 0), .lit (.int .u8 0), .lit (.int .u8 0), .lit (.int .u8 0), .lit (.int .u8 0), .lit (.int .u8 0), .lit (.int .u8 0), .lit (.int .u8 0), .lit (.int .u8 0), .lit (.int .u8 0), .lit (.int .u8 0), .lit (.int .u8 0), .lit (.int .u8 0), .lit (.int .u8 0), .lit (.int .u8 0), .lit (.int .u8 0), .lit (.int .u8 0), .lit (.int .u8 0), .lit (.int .u8 0), .lit (.int .u8 0), .lit (.int .u8 0), .lit (.int .u8 0), .lit (.int .u8 0), .lit (.int .u8 0), .lit (.int .u8 0), .lit (.int .u8 0), .lit (.int .u8 0), .lit (.int .u8 0), .lit (.int .u8 0), .lit (.int .u8 0), .lit (.int .u8 0), .lit (.int .u8 0), .lit (.int .u8 0), .lit (.int .u8 0), .lit (.int .u8 0), .lit (.int .u8 0), .lit (.int .u8 0), .lit (.int .u8 0), .lit (.int .u8 0), .lit (.int .u8 0), .lit (.int .u8 0), .lit (.int .u8 0), .lit (.int .u8 0), .lit (.int .u8 0), .lit (.int .u8 0), .lit (.int .u8 0), .lit (.int .u8 0), .lit (.int .u8 0), .lit (.int .u8 0), .lit (.int .u8 0), .lit (.int .u8 0), .lit (.int .u8 0), .lit (.int .u8 0), .lit (.int .u8 0), .lit (.int .u8 0), .lit (.int .u8 0), .lit (.int .u8 0), .lit (.int .u8 0), .lit (.int .u8 0), .lit (.int .u8 0), .lit (.int .u8 0), .lit (.int .u8 0), .lit (.int .u8 0), .lit (.int .u8 0), .lit (.int .u8 0), .lit (.int .u8 0), .lit (.int .u8 0), .lit (.int .u8 0), .lit (.int .u8 0), .lit (.int .u8 0), .lit (.int .u8 0), .lit (.int .u8 0), .lit (.int .u8 0), .lit (.int .u8 0), .lit (.int .u8 0), .lit (.int .u8 0), .lit (.int .u8 0), .lit (.int .u8 0), .lit (.int .u8 0), .lit (.int .u8 0), .lit (.int .u8 0), .lit (.int .u8 0), .lit (.int .u8 0), .lit (.int .u8 0), .lit (.int .u8 0), .lit (.int .u8 0), .lit (.int .u8 0), .lit (.int .u8 0), .lit (.int .u8 0), .lit (.int .u8 0), .lit (.int .u8 0), .lit (.int .u8 0), .lit (.int .u8 0), .lit (.int .u8 0), .lit (.int .u8 0), .lit (.int .u8 0), .lit (.int .u8 0), .lit (.int .u8 0), .lit (.int .u8 0), .lit (.int .u8 0), .lit (.int .u8 0), .lit (.int .u8 0), .lit (.int .u8 0), .lit (.int .u8 0), .lit (.int .u8 0), .lit (.int .u8 0), .lit (.int .u8 0), .lit (.int .u8 0), .lit (.int .u8 0), .lit (.int .u8 0), .lit (.int .u8 0), .lit (.int .u8 0), .lit (.int .u8 0), .lit (.int .u8 0), .lit (.int .u8 0), .lit (.int .u8 0), .lit (.int .u8 0), .lit (.int .u8 0), .lit (.int .u8 0), .lit (.int .u8 0), .lit (.int .u8 0), .lit (.int .u8 0), .lit (.int .u8 0), .lit (.int .u8 0), .lit (.int .u8 0), .lit (.int .u8 0), .lit (.int .u8 0), .lit (.int .u8 0), .lit (.int .u8 0), .lit (.int .u8 0), .lit (.int .u8 0), .lit (.int .u8 0), .lit (.int .u8 0), .lit (.int .u8 0), .lit (.int .u8 0), .lit (.int .u8 0), .lit (.int .u8 0), .lit (.int .u8 0)]
def laid_unicode_utf8_acceptRanges {H : Type} : DataW H := .agg [.agg [.lit (.int .u8 128), .lit (.int .u8 191)], .agg [.lit (.int .u8 160), .lit (.int .u8 191)], .agg [.lit (.int .u8 128), .lit (.int .u8 159)], .agg [.lit (.int .u8 144), .lit (.int .u8 191)], .agg [.lit (.int .u8 128), .lit (.int .u8 143)], .agg [.lit (.int .u8 0), .lit (.int .u8 0)], .agg [.lit (.int .u8 0), .lit (.int .u8 0)], .agg [.lit (.int .u8 0), .lit (.int .u8 0)], .agg [.lit (.int .u8 0), .lit (.int .u8 0)], .agg [.lit (.int .u8 0), .lit (.int .u8 0)], .agg [.lit (.int .u8 0), .lit (.int .u8 0)], .agg [.lit (.int .u8 0), .lit (.int .u8 0)], .agg [.lit (.int .u8 0), .lit (.int .u8 0)], .agg [.lit (.int .u8 0), .lit (.int .u8 0)], .agg [.lit (.int .u8 0), .lit (.int .u8 0)], .agg [.lit (.int .u8 0), .lit (.int .u8 0)]]
/-- One of Go's own tables, pinned by name: the form's constant. -/
def laid_unicode_utf8_first : DataW Unit := Go.Pinned.utf8First

/-- 'laws.FnExactMarkName': WHATEVER THE INPUT: true; the input reads as it did. -/
def fnExactMarkNameSpec : ChangeSpec := { name := "fnExactMarkName", vars := ["loop.example/g00953/impl.markTable"], fn := fun _ => fun
  | [d, g1] => { results := [.lit (.bool true)], args := [d], vars := [g1] }
  | _ => none }
def fnExactMarkNameRow : OpenClaim := { program := "ythheacebafleeaadoor", sum := "17459692044303a73c08d4a9ea7a0876d44fbee269f4f3595dc255bb4714acf3", func := "loop.example/g00953/laws.FnExactMarkName", spec := "fnExactMarkName", named := ["loop.example/g00953/impl.markTable"], apart := false, laid := [("loop.example/g00953/impl.markTable", laid_loop_example_g00953_impl_markTable)] }
def FnExactMarkNameSaid : Prop := fnExactMarkNameRow.holds Tryd.pinned (OpenSpec.ofChange fnExactMarkNameSpec)

/-- ITS FALSE NEIGHBOUR: 'it returns false'. Refute it at one input. -/
def fnExactMarkNameWrong : ChangeSpec := { name := "fnExactMarkName", vars := ["loop.example/g00953/impl.markTable"], fn := fun _ => fun
  | [d, g1] => { results := [.lit (.bool false)], args := [d], vars := [g1] }
  | _ => none }
def FnExactMarkNameWrongFalsely : Prop := fnExactMarkNameRow.holds Tryd.pinned (OpenSpec.ofChange fnExactMarkNameWrong)

/-- 'laws.FnExactMarkNamed': WHATEVER THE INPUT: true; the input reads as it did. -/
def fnExactMarkNamedSpec : ChangeSpec := { name := "fnExactMarkNamed", vars := ["loop.example/g00953/impl.markTable"], fn := fun _ => fun
  | [d, g1] => { results := [.lit (.bool true)], args := [d], vars := [g1] }
  | _ => none }
def fnExactMarkNamedRow : OpenClaim := { program := "ythheacebafleeaadoor", sum := "17459692044303a73c08d4a9ea7a0876d44fbee269f4f3595dc255bb4714acf3", func := "loop.example/g00953/laws.FnExactMarkNamed", spec := "fnExactMarkNamed", named := ["loop.example/g00953/impl.markTable"], apart := false, laid := [("loop.example/g00953/impl.markTable", laid_loop_example_g00953_impl_markTable)] }
def FnExactMarkNamedSaid : Prop := fnExactMarkNamedRow.holds Tryd.pinned (OpenSpec.ofChange fnExactMarkNamedSpec)

/-- ITS FALSE NEIGHBOUR: 'it returns false'. Refute it at one input. -/
def fnExactMarkNamedWrong : ChangeSpec := { name := "fnExactMarkNamed", vars := ["loop.example/g00953/impl.markTable"], fn := fun _ => fun
  | [d, g1] => { results := [.lit (.bool false)], args := [d], vars := [g1] }
  | _ => none }
def FnExactMarkNamedWrongFalsely : Prop := fnExactMarkNamedRow.holds Tryd.pinned (OpenSpec.ofChange fnExactMarkNamedWrong)

/-- 'laws.FnExactStandardMark': WHATEVER THE INPUT: true; the input reads as it did. -/
def fnExactStandardMarkSpec : ChangeSpec := { name := "fnExactStandardMark", vars := ["loop.example/g00953/impl.markTable"], fn := fun _ => fun
  | [d, g1] => { results := [.lit (.bool true)], args := [d], vars := [g1] }
  | _ => none }
def fnExactStandardMarkRow : OpenClaim := { program := "ythheacebafleeaadoor", sum := "17459692044303a73c08d4a9ea7a0876d44fbee269f4f3595dc255bb4714acf3", func := "loop.example/g00953/laws.FnExactStandardMark", spec := "fnExactStandardMark", unfollowed := true, recurses := true, named := ["loop.example/g00953/impl.markTable", "strings.asciiSpace", "unicode.White_Space"], apart := false, laid := [("unicode.White_Space", laid_unicode_White_Space), ("strings.asciiSpace", laid_strings_asciiSpace), ("loop.example/g00953/impl.markTable", laid_loop_example_g00953_impl_markTable)] }
def FnExactStandardMarkSaid : Prop := fnExactStandardMarkRow.holds Tryd.pinned (OpenSpec.ofChange fnExactStandardMarkSpec)

/-- ITS FALSE NEIGHBOUR: 'it returns false'. Refute it at one input. -/
def fnExactStandardMarkWrong : ChangeSpec := { name := "fnExactStandardMark", vars := ["loop.example/g00953/impl.markTable"], fn := fun _ => fun
  | [d, g1] => { results := [.lit (.bool false)], args := [d], vars := [g1] }
  | _ => none }
def FnExactStandardMarkWrongFalsely : Prop := fnExactStandardMarkRow.holds Tryd.pinned (OpenSpec.ofChange fnExactStandardMarkWrong)

/-- 'laws.FnExactValidMark': WHATEVER THE INPUT: true; the input reads as it did. -/
def fnExactValidMarkSpec : ChangeSpec := { name := "fnExactValidMark", vars := ["loop.example/g00953/impl.markTable"], fn := fun _ => fun
  | [d, g1] => { results := [.lit (.bool true)], args := [d], vars := [g1] }
  | _ => none }
def fnExactValidMarkRow : OpenClaim := { program := "ythheacebafleeaadoor", sum := "17459692044303a73c08d4a9ea7a0876d44fbee269f4f3595dc255bb4714acf3", func := "loop.example/g00953/laws.FnExactValidMark", spec := "fnExactValidMark", unfollowed := true, recurses := true, named := ["loop.example/g00953/impl.markTable", "strings.asciiSpace", "unicode.White_Space"], apart := false, laid := [("unicode.White_Space", laid_unicode_White_Space), ("strings.asciiSpace", laid_strings_asciiSpace), ("loop.example/g00953/impl.markTable", laid_loop_example_g00953_impl_markTable)] }
def FnExactValidMarkSaid : Prop := fnExactValidMarkRow.holds Tryd.pinned (OpenSpec.ofChange fnExactValidMarkSpec)

/-- ITS FALSE NEIGHBOUR: 'it returns false'. Refute it at one input. -/
def fnExactValidMarkWrong : ChangeSpec := { name := "fnExactValidMark", vars := ["loop.example/g00953/impl.markTable"], fn := fun _ => fun
  | [d, g1] => { results := [.lit (.bool false)], args := [d], vars := [g1] }
  | _ => none }
def FnExactValidMarkWrongFalsely : Prop := fnExactValidMarkRow.holds Tryd.pinned (OpenSpec.ofChange fnExactValidMarkWrong)

/-- 'laws.FnExactSideToPass': WHATEVER THE INPUT: true; the input reads as it did. -/
def fnExactSideToPassSpec : ChangeSpec := { name := "fnExactSideToPass", vars := ["loop.example/g00953/impl.markTable"], fn := fun _ => fun
  | [d, g1] => { results := [.lit (.bool true)], args := [d], vars := [g1] }
  | _ => none }
def fnExactSideToPassRow : OpenClaim := { program := "ythheacebafleeaadoor", sum := "17459692044303a73c08d4a9ea7a0876d44fbee269f4f3595dc255bb4714acf3", func := "loop.example/g00953/laws.FnExactSideToPass", spec := "fnExactSideToPass", named := ["loop.example/g00953/impl.markTable"], apart := false, laid := [("loop.example/g00953/impl.markTable", laid_loop_example_g00953_impl_markTable)] }
def FnExactSideToPassSaid : Prop := fnExactSideToPassRow.holds Tryd.pinned (OpenSpec.ofChange fnExactSideToPassSpec)

/-- ITS FALSE NEIGHBOUR: 'it returns false'. Refute it at one input. -/
def fnExactSideToPassWrong : ChangeSpec := { name := "fnExactSideToPass", vars := ["loop.example/g00953/impl.markTable"], fn := fun _ => fun
  | [d, g1] => { results := [.lit (.bool false)], args := [d], vars := [g1] }
  | _ => none }
def FnExactSideToPassWrongFalsely : Prop := fnExactSideToPassRow.holds Tryd.pinned (OpenSpec.ofChange fnExactSideToPassWrong)

/-- 'laws.FnExactKindsLike': WHATEVER THE INPUT: true; the input reads as it did. -/
def fnExactKindsLikeSpec : ChangeSpec := { name := "fnExactKindsLike", vars := ["loop.example/g00953/impl.markTable"], fn := fun _ => fun
  | [d1, d2, d3, g1] => { results := [.lit (.bool true)], args := [d1, d2, d3], vars := [g1] }
  | _ => none }
def fnExactKindsLikeRow : OpenClaim := { program := "ythheacebafleeaadoor", sum := "17459692044303a73c08d4a9ea7a0876d44fbee269f4f3595dc255bb4714acf3", func := "loop.example/g00953/laws.FnExactKindsLike", spec := "fnExactKindsLike", unfollowed := true, recurses := true, named := ["loop.example/g00953/impl.markTable", "strings.asciiSpace", "unicode.White_Space"], apart := false, laid := [("unicode.White_Space", laid_unicode_White_Space), ("strings.asciiSpace", laid_strings_asciiSpace), ("loop.example/g00953/impl.markTable", laid_loop_example_g00953_impl_markTable)] }
def FnExactKindsLikeSaid : Prop := fnExactKindsLikeRow.holds Tryd.pinned (OpenSpec.ofChange fnExactKindsLikeSpec)

/-- ITS FALSE NEIGHBOUR: 'it returns false'. Refute it at one input. -/
def fnExactKindsLikeWrong : ChangeSpec := { name := "fnExactKindsLike", vars := ["loop.example/g00953/impl.markTable"], fn := fun _ => fun
  | [d1, d2, d3, g1] => { results := [.lit (.bool false)], args := [d1, d2, d3], vars := [g1] }
  | _ => none }
def FnExactKindsLikeWrongFalsely : Prop := fnExactKindsLikeRow.holds Tryd.pinned (OpenSpec.ofChange fnExactKindsLikeWrong)

/-- 'laws.FnExactMarkText': WHATEVER THE INPUT: true; the input reads as it did. -/
def fnExactMarkTextSpec : ChangeSpec := { name := "fnExactMarkText", vars := ["loop.example/g00953/impl.markTable"], fn := fun _ => fun
  | [d, g1] => { results := [.lit (.bool true)], args := [d], vars := [g1] }
  | _ => none }
def fnExactMarkTextRow : OpenClaim := { program := "ythheacebafleeaadoor", sum := "17459692044303a73c08d4a9ea7a0876d44fbee269f4f3595dc255bb4714acf3", func := "loop.example/g00953/laws.FnExactMarkText", spec := "fnExactMarkText", inPlace := ["internal/abi.NoEscape", "internal/bytealg.MakeNoZero"], unfollowed := true, recurses := true, named := ["loop.example/g00953/impl.markTable", "strings.asciiSpace", "unicode.White_Space"], apart := false, laid := [("unicode.White_Space", laid_unicode_White_Space), ("strings.asciiSpace", laid_strings_asciiSpace), ("loop.example/g00953/impl.markTable", laid_loop_example_g00953_impl_markTable)] }
def FnExactMarkTextSaid : Prop := fnExactMarkTextRow.holds Tryd.pinned (OpenSpec.ofChange fnExactMarkTextSpec)

/-- ITS FALSE NEIGHBOUR: 'it returns false'. Refute it at one input. -/
def fnExactMarkTextWrong : ChangeSpec := { name := "fnExactMarkText", vars := ["loop.example/g00953/impl.markTable"], fn := fun _ => fun
  | [d, g1] => { results := [.lit (.bool false)], args := [d], vars := [g1] }
  | _ => none }
def FnExactMarkTextWrongFalsely : Prop := fnExactMarkTextRow.holds Tryd.pinned (OpenSpec.ofChange fnExactMarkTextWrong)

/-- 'laws.FnExactReadMark': WHATEVER THE INPUT: true; the input reads as it did. -/
def fnExactReadMarkSpec : ChangeSpec := { name := "fnExactReadMark", vars := ["loop.example/g00953/impl.markTable"], fn := fun _ => fun
  | [d, g1] => { results := [.lit (.bool true)], args := [d], vars := [g1] }
  | _ => none }
def fnExactReadMarkRow : OpenClaim := { program := "ythheacebafleeaadoor", sum := "17459692044303a73c08d4a9ea7a0876d44fbee269f4f3595dc255bb4714acf3", func := "loop.example/g00953/laws.FnExactReadMark", spec := "fnExactReadMark", inPlace := ["internal/bytealg.CountString", "internal/bytealg.IndexByteString", "internal/bytealg.IndexString", "internal/abi.NoEscape", "internal/bytealg.MakeNoZero"], unfollowed := true, recurses := true, named := ["unicode/utf8.first", "unicode/utf8.acceptRanges", "internal/bytealg.MaxLen", "loop.example/g00953/impl.markTable", "strings.asciiSpace", "unicode.White_Space"], apart := false, laid := [("unicode/utf8.acceptRanges", laid_unicode_utf8_acceptRanges), ("unicode.White_Space", laid_unicode_White_Space), ("strings.asciiSpace", laid_strings_asciiSpace), ("loop.example/g00953/impl.markTable", laid_loop_example_g00953_impl_markTable), ("unicode/utf8.first", laid_unicode_utf8_first)] }
def FnExactReadMarkSaid : Prop := fnExactReadMarkRow.holds Tryd.pinned (OpenSpec.ofChange fnExactReadMarkSpec)

/-- ITS FALSE NEIGHBOUR: 'it returns false'. Refute it at one input. -/
def fnExactReadMarkWrong : ChangeSpec := { name := "fnExactReadMark", vars := ["loop.example/g00953/impl.markTable"], fn := fun _ => fun
  | [d, g1] => { results := [.lit (.bool false)], args := [d], vars := [g1] }
  | _ => none }
def FnExactReadMarkWrongFalsely : Prop := fnExactReadMarkRow.holds Tryd.pinned (OpenSpec.ofChange fnExactReadMarkWrong)

/- THE SECOND FORM. 'bulk': how many values and letters a reading holds, each counted each time it is reached (what is shared counts as often as it is met; a slice's spare places count too). A statement '..UptoSaid' is the law's where the arguments, and the package variables that the reading takes, are together of bulk at most 1048576: NARROWER than '..Said'. Prove '..Said' where nothing that the law and all that it calls make is longer than what came in: it says more and counts as full. Else prove '..UptoSaid'. A law counts once. -/
mutual
def uptoBulk {H : Type} : DataW H → Nat
  | .lit (.string bytes) => bytes.length + 1
  | .lit _ => 1
  | .nil => 1
  | .ptr d => uptoBulk d + 1
  | .slice elems spare => uptoBulkAll elems + uptoBulkAll spare + 1
  | .agg parts => uptoBulkAll parts + 1
  | .iface _ d => uptoBulk d + 1
  | .map entries => uptoBulkEntries entries + 1
  | .held _ => 1
def uptoBulkAll {H : Type} : List (DataW H) → Nat
  | [] => 0
  | d :: r => uptoBulk d + uptoBulkAll r
def uptoBulkEntries {H : Type} : List (Lit × DataW H) → Nat
  | [] => 0
  | x :: r => uptoBulkEntry x + uptoBulkEntries r
def uptoBulkEntry {H : Type} : Lit × DataW H → Nat
  | (.string bytes, d) => bytes.length + uptoBulk d + 1
  | (_, d) => uptoBulk d + 1
 end
def uptoSmall : (H : Type) → List (DataW H) → Bool := fun _ ds => decide (uptoBulkAll ds ≤ 1048576)
def OpenSpec.upto (s : _root_.Go.ChangeSpec) : _root_.Go.OpenSpec := { _root_.Go.OpenSpec.ofChange s with cond := some uptoSmall }

/-- 'laws.FnExactMarkName', WHERE WHAT IT READS IS OF BULK AT MOST 1048576: true; the input reads as it did. -/
def fnExactMarkNameUptoRow : OpenClaim := { program := "ythheacebafleeaadoor", sum := "17459692044303a73c08d4a9ea7a0876d44fbee269f4f3595dc255bb4714acf3", func := "loop.example/g00953/laws.FnExactMarkName", spec := "fnExactMarkName", named := ["loop.example/g00953/impl.markTable"], apart := false, laid := [("loop.example/g00953/impl.markTable", laid_loop_example_g00953_impl_markTable)], narrowed := true }
def FnExactMarkNameUptoSaid : Prop := fnExactMarkNameUptoRow.holds Tryd.pinned (OpenSpec.upto fnExactMarkNameSpec)

/-- 'laws.FnExactMarkNamed', WHERE WHAT IT READS IS OF BULK AT MOST 1048576: true; the input reads as it did. -/
def fnExactMarkNamedUptoRow : OpenClaim := { program := "ythheacebafleeaadoor", sum := "17459692044303a73c08d4a9ea7a0876d44fbee269f4f3595dc255bb4714acf3", func := "loop.example/g00953/laws.FnExactMarkNamed", spec := "fnExactMarkNamed", named := ["loop.example/g00953/impl.markTable"], apart := false, laid := [("loop.example/g00953/impl.markTable", laid_loop_example_g00953_impl_markTable)], narrowed := true }
def FnExactMarkNamedUptoSaid : Prop := fnExactMarkNamedUptoRow.holds Tryd.pinned (OpenSpec.upto fnExactMarkNamedSpec)

/-- 'laws.FnExactStandardMark', WHERE WHAT IT READS IS OF BULK AT MOST 1048576: true; the input reads as it did. -/
def fnExactStandardMarkUptoRow : OpenClaim := { program := "ythheacebafleeaadoor", sum := "17459692044303a73c08d4a9ea7a0876d44fbee269f4f3595dc255bb4714acf3", func := "loop.example/g00953/laws.FnExactStandardMark", spec := "fnExactStandardMark", unfollowed := true, recurses := true, named := ["loop.example/g00953/impl.markTable", "strings.asciiSpace", "unicode.White_Space"], apart := false, laid := [("unicode.White_Space", laid_unicode_White_Space), ("strings.asciiSpace", laid_strings_asciiSpace), ("loop.example/g00953/impl.markTable", laid_loop_example_g00953_impl_markTable)], narrowed := true }
def FnExactStandardMarkUptoSaid : Prop := fnExactStandardMarkUptoRow.holds Tryd.pinned (OpenSpec.upto fnExactStandardMarkSpec)

/-- 'laws.FnExactValidMark', WHERE WHAT IT READS IS OF BULK AT MOST 1048576: true; the input reads as it did. -/
def fnExactValidMarkUptoRow : OpenClaim := { program := "ythheacebafleeaadoor", sum := "17459692044303a73c08d4a9ea7a0876d44fbee269f4f3595dc255bb4714acf3", func := "loop.example/g00953/laws.FnExactValidMark", spec := "fnExactValidMark", unfollowed := true, recurses := true, named := ["loop.example/g00953/impl.markTable", "strings.asciiSpace", "unicode.White_Space"], apart := false, laid := [("unicode.White_Space", laid_unicode_White_Space), ("strings.asciiSpace", laid_strings_asciiSpace), ("loop.example/g00953/impl.markTable", laid_loop_example_g00953_impl_markTable)], narrowed := true }
def FnExactValidMarkUptoSaid : Prop := fnExactValidMarkUptoRow.holds Tryd.pinned (OpenSpec.upto fnExactValidMarkSpec)

/-- 'laws.FnExactSideToPass', WHERE WHAT IT READS IS OF BULK AT MOST 1048576: true; the input reads as it did. -/
def fnExactSideToPassUptoRow : OpenClaim := { program := "ythheacebafleeaadoor", sum := "17459692044303a73c08d4a9ea7a0876d44fbee269f4f3595dc255bb4714acf3", func := "loop.example/g00953/laws.FnExactSideToPass", spec := "fnExactSideToPass", named := ["loop.example/g00953/impl.markTable"], apart := false, laid := [("loop.example/g00953/impl.markTable", laid_loop_example_g00953_impl_markTable)], narrowed := true }
def FnExactSideToPassUptoSaid : Prop := fnExactSideToPassUptoRow.holds Tryd.pinned (OpenSpec.upto fnExactSideToPassSpec)

/-- 'laws.FnExactKindsLike', WHERE WHAT IT READS IS OF BULK AT MOST 1048576: true; the input reads as it did. -/
def fnExactKindsLikeUptoRow : OpenClaim := { program := "ythheacebafleeaadoor", sum := "17459692044303a73c08d4a9ea7a0876d44fbee269f4f3595dc255bb4714acf3", func := "loop.example/g00953/laws.FnExactKindsLike", spec := "fnExactKindsLike", unfollowed := true, recurses := true, named := ["loop.example/g00953/impl.markTable", "strings.asciiSpace", "unicode.White_Space"], apart := false, laid := [("unicode.White_Space", laid_unicode_White_Space), ("strings.asciiSpace", laid_strings_asciiSpace), ("loop.example/g00953/impl.markTable", laid_loop_example_g00953_impl_markTable)], narrowed := true }
def FnExactKindsLikeUptoSaid : Prop := fnExactKindsLikeUptoRow.holds Tryd.pinned (OpenSpec.upto fnExactKindsLikeSpec)

/-- 'laws.FnExactMarkText', WHERE WHAT IT READS IS OF BULK AT MOST 1048576: true; the input reads as it did. -/
def fnExactMarkTextUptoRow : OpenClaim := { program := "ythheacebafleeaadoor", sum := "17459692044303a73c08d4a9ea7a0876d44fbee269f4f3595dc255bb4714acf3", func := "loop.example/g00953/laws.FnExactMarkText", spec := "fnExactMarkText", inPlace := ["internal/abi.NoEscape", "internal/bytealg.MakeNoZero"], unfollowed := true, recurses := true, named := ["loop.example/g00953/impl.markTable", "strings.asciiSpace", "unicode.White_Space"], apart := false, laid := [("unicode.White_Space", laid_unicode_White_Space), ("strings.asciiSpace", laid_strings_asciiSpace), ("loop.example/g00953/impl.markTable", laid_loop_example_g00953_impl_markTable)], narrowed := true }
def FnExactMarkTextUptoSaid : Prop := fnExactMarkTextUptoRow.holds Tryd.pinned (OpenSpec.upto fnExactMarkTextSpec)

/-- 'laws.FnExactReadMark', WHERE WHAT IT READS IS OF BULK AT MOST 1048576: true; the input reads as it did. -/
def fnExactReadMarkUptoRow : OpenClaim := { program := "ythheacebafleeaadoor", sum := "17459692044303a73c08d4a9ea7a0876d44fbee269f4f3595dc255bb4714acf3", func := "loop.example/g00953/laws.FnExactReadMark", spec := "fnExactReadMark", inPlace := ["internal/bytealg.CountString", "internal/bytealg.IndexByteString", "internal/bytealg.IndexString", "internal/abi.NoEscape", "internal/bytealg.MakeNoZero"], unfollowed := true, recurses := true, named := ["unicode/utf8.first", "unicode/utf8.acceptRanges", "internal/bytealg.MaxLen", "loop.example/g00953/impl.markTable", "strings.asciiSpace", "unicode.White_Space"], apart := false, laid := [("unicode/utf8.acceptRanges", laid_unicode_utf8_acceptRanges), ("unicode.White_Space", laid_unicode_White_Space), ("strings.asciiSpace", laid_strings_asciiSpace), ("loop.example/g00953/impl.markTable", laid_loop_example_g00953_impl_markTable), ("unicode/utf8.first", laid_unicode_utf8_first)], narrowed := true }
def FnExactReadMarkUptoSaid : Prop := fnExactReadMarkUptoRow.holds Tryd.pinned (OpenSpec.upto fnExactReadMarkSpec)

end Rows
end Go.Proofs.YthheacebafleeaaDoor
