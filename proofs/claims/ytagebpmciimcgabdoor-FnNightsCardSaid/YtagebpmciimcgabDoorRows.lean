/-
  NARROWER THAN 'FOR EVERY INPUT', by the rows' own cells (each row's printed sentence says how): FnMorse: laid · FnNights: laid · FnExactSunrise: laid · FnExactSunset: laid · FnExactDarkMinutes: laid · FnExactLongestDark: laid · FnExactDarkSum: laid.
  DERIVED. THE GIVEN ROWS OF THIS SEAT. 7 by the template 'for every input the law returns true; each argument reads behind the call as it read before'; 0 by the template 'total and deterministic' (their statements: YtagebpmciimcgabDoorTotals.lean).
  GIVEN WITH THE SEED: the statements are not yours to turn. If you find one false, say at which input.
  Laid BY PROGRAM, IN A SANDBOX (cutbox-rows.mjs): the forced cells as the released guide's own fill.sh prints them over the translation e63b0e9039d1b992… (all of the seat's roots in one cut). By AI agents, Wed Nov 11 2026. No macro, syntax, notation, axiom, sorry.
-/
import Derived.Test.YtagebpmciimcgabDoorChecked
import GoSem.PinnedTables
import GoSem.Claim
import GoSem.ClaimJoined
import GoSem.ClaimMapViews
import Derived.JoinedTies
import Derived.KernelRfl
namespace Go.Proofs.YtagebpmciimcgabDoor
/- THE CELL 'sum', in the pinned program and in every row, IS THE sha256 OF THE DUMP (.gsa) THAT YtagebpmciimcgabDoorProg.lean LOADS. Nothing in Lean hashes anything: it is a label: what it is worth is what the hold of that sum in a sandbox is worth. -/
noncomputable def Tryd.pinned : Pinned := { name := "ytagebpmciimcgabdoor", sum := "e63b0e9039d1b99296d2eef311b39626997a7aaf41860a04471e653b13732d78", checked := Tryd.checked }
namespace Rows
def none {H : Type} : Left H := { results := [], args := [] }

/- WHAT THE LISTED PACKAGE-LEVEL VARIABLES READ AS WHEN THE CALL BEGINS. Each datum BY PROGRAM (the guide's laid-datum.mjs) off the statement by which the dump's own 'gosem.cut.vars' lays the variable. In a bare row this is a premise. The card (YtagebpmciimcgabDoorCards.lean) ties it to the program's text. -/
def laid_unicode_utf8_acceptRanges {H : Type} : DataW H := .agg [.agg [.lit (.int .u8 128), .lit (.int .u8 191)], .agg [.lit (.int .u8 160), .lit (.int .u8 191)], .agg [.lit (.int .u8 128), .lit (.int .u8 159)], .agg [.lit (.int .u8 144), .lit (.int .u8 191)], .agg [.lit (.int .u8 128), .lit (.int .u8 143)], .agg [.lit (.int .u8 0), .lit (.int .u8 0)], .agg [.lit (.int .u8 0), .lit (.int .u8 0)], .agg [.lit (.int .u8 0), .lit (.int .u8 0)], .agg [.lit (.int .u8 0), .lit (.int .u8 0)], .agg [.lit (.int .u8 0), .lit (.int .u8 0)], .agg [.lit (.int .u8 0), .lit (.int .u8 0)], .agg [.lit (.int .u8 0), .lit (.int .u8 0)], .agg [.lit (.int .u8 0), .lit (.int .u8 0)], .agg [.lit (.int .u8 0), .lit (.int .u8 0)], .agg [.lit (.int .u8 0), .lit (.int .u8 0)], .agg [.lit (.int .u8 0), .lit (.int .u8 0)]]
def laid_loop_example_g00953_impl_morseSigns {H : Type} : DataW H := .agg [.lit (.string [46, 45]), .lit (.string [45, 46, 46, 46]), .lit (.string [45, 46, 45, 46]), .lit (.string [45, 46, 46]), .lit (.string [46]), .lit (.string [46, 46, 45, 46]), .lit (.string [45, 45, 46]), .lit (.string [46, 46, 46, 46]), .lit (.string [46, 46]), .lit (.string [46, 45, 45, 45]), .lit (.string [45, 46, 45]), .lit (.string [46, 45, 46, 46]), .lit (.string [45, 45]), .lit (.string [45, 46]), .lit (.string [45, 45, 45]), .lit (.string [46, 45, 45, 46]), .lit (.string [45, 45, 46, 45]), .lit (.string [46, 45, 46]), .lit (.string [46, 46, 46]), .lit (.string [45]), .lit (.string [46, 46, 45]), .lit (.string [46, 46, 46, 45]), .lit (.string [46, 45, 45]), .lit (.string [45, 46, 46, 45]), .lit (.string [45, 46, 45, 45]), .lit (.string [45, 45, 46, 46])]
/-- One of Go's own tables, pinned by name: the form's constant. -/
def laid_unicode_utf8_first : DataW Unit := Go.Pinned.utf8First
def laid_loop_example_g00953_impl_sines {H : Type} : DataW H := .agg [.lit (.int .i64 0), .lit (.int .i64 17452), .lit (.int .i64 34899), .lit (.int .i64 52336), .lit (.int .i64 69756), .lit (.int .i64 87156), .lit (.int .i64 104528), .lit (.int .i64 121869), .lit (.int .i64 139173), .lit (.int .i64 156434), .lit (.int .i64 173648), .lit (.int .i64 190809), .lit (.int .i64 207912), .lit (.int .i64 224951), .lit (.int .i64 241922), .lit (.int .i64 258819), .lit (.int .i64 275637), .lit (.int .i64 292372), .lit (.int .i64 309017), .lit (.int .i64 325568), .lit (.int .i64 342020), .lit (.int .i64 358368), .lit (.int .i64 374607), .lit (.int .i64 390731), .lit (.int .i64 406737), .lit (.int .i64 422618), .lit (.int .i64 438371), .lit (.int .i64 453990), .lit (.int .i64 469472), .lit (.int .i64 484810), .lit (.int .i64 500000), .lit (.int .i64 515038), .lit (.int .i64 529919), .lit (.int .i64 544639), .lit (.int .i64 559193), .lit (.int .i64 573576), .lit (.int .i64 587785), .lit (.int .i64 601815), .lit (.int .i64 615661), .lit (.int .i64 629320), .lit (.int .i64 642788), .lit (.int .i64 656059), .lit (.int .i64 669131), .lit (.int .i64 681998), .lit (.int .i64 694658), .lit (.int .i64 707107), .lit (.int .i64 719340), .lit (.int .i64 731354), .lit (.int .i64 743145), .lit (.int .i64 754710), .lit (.int .i64 766044), .lit (.int .i64 777146), .lit (.int .i64 788011), .lit (.int .i64 798636), .lit (.int .i64 809017), .lit (.int .i64 819152), .lit (.int .i64 829038), .lit (.int .i64 838671), .lit (.int .i64 848048), .lit (.int .i64 857167), .lit (.int .i64 866025), .lit (.int .i64 874620), .lit (.int .i64 882948), .lit (.int .i64 891007), .lit (.int .i64 898794), .lit (.int .i64 906308), .lit (.int .i64 913545), .lit (.int .i64 920505), .lit (.int .i64 927184), .lit (.int .i64 933580), .lit (.int .i64 939693), .lit (.int .i64 945519), .lit (.int .i64 951057), .lit (.int .i64 956305), .lit (.int .i64 961262), .lit (.int .i64 965926), .lit (.int .i64 970296), .lit (.int .i64 974370), .lit (.int .i64 978148), .lit (.int .i64 981627), .lit (.int .i64 984808), .lit (.int .i64 987688), .lit (.int .i64 990268), .lit (.int .i64 992546), .lit (.int .i64 994522), .lit (.int .i64 996195), .lit (.int .i64 997564), .lit (.int .i64 998630), .lit (.int .i64 999391), .lit (.int .i64 999848), .lit (.int .i64 1000000)]

/-- 'laws.FnMorse': WHATEVER THE INPUT: true; the input reads as it did. -/
def fnMorseSpec : ChangeSpec := { name := "fnMorse", vars := ["loop.example/g00953/impl.morseSigns"], fn := fun _ => fun
  | [d1, d2, g1] => { results := [.lit (.bool true)], args := [d1, d2], vars := [g1] }
  | _ => none }
def fnMorseRow : OpenClaim := { program := "ytagebpmciimcgabdoor", sum := "e63b0e9039d1b99296d2eef311b39626997a7aaf41860a04471e653b13732d78", func := "loop.example/g00953/laws.FnMorse", spec := "fnMorse", inPlace := ["internal/bytealg.IndexByteString", "internal/bytealg.IndexString", "internal/bytealg.CountString", "internal/abi.NoEscape"], unfollowed := true, recurses := true, named := ["loop.example/g00953/impl.morseSigns", "unicode/utf8.first", "unicode/utf8.acceptRanges", "internal/bytealg.MaxLen"], apart := false, laid := [("unicode/utf8.acceptRanges", laid_unicode_utf8_acceptRanges), ("loop.example/g00953/impl.morseSigns", laid_loop_example_g00953_impl_morseSigns), ("unicode/utf8.first", laid_unicode_utf8_first)] }
def FnMorseSaid : Prop := fnMorseRow.holds Tryd.pinned (OpenSpec.ofChange fnMorseSpec)

/-- ITS FALSE NEIGHBOUR: 'it returns false'. Refute it at one input. -/
def fnMorseWrong : ChangeSpec := { name := "fnMorse", vars := ["loop.example/g00953/impl.morseSigns"], fn := fun _ => fun
  | [d1, d2, g1] => { results := [.lit (.bool false)], args := [d1, d2], vars := [g1] }
  | _ => none }
def FnMorseWrongFalsely : Prop := fnMorseRow.holds Tryd.pinned (OpenSpec.ofChange fnMorseWrong)

/-- 'laws.FnNights': WHATEVER THE INPUT: true; the input reads as it did. -/
def fnNightsSpec : ChangeSpec := { name := "fnNights", vars := ["loop.example/g00953/impl.sines"], fn := fun _ => fun
  | [d1, d2, g1] => { results := [.lit (.bool true)], args := [d1, d2], vars := [g1] }
  | _ => none }
def fnNightsRow : OpenClaim := { program := "ytagebpmciimcgabdoor", sum := "e63b0e9039d1b99296d2eef311b39626997a7aaf41860a04471e653b13732d78", func := "loop.example/g00953/laws.FnNights", spec := "fnNights", unfollowed := true, recurses := true, named := ["loop.example/g00953/impl.sines"], apart := false, laid := [("loop.example/g00953/impl.sines", laid_loop_example_g00953_impl_sines)] }
def FnNightsSaid : Prop := fnNightsRow.holds Tryd.pinned (OpenSpec.ofChange fnNightsSpec)

/-- ITS FALSE NEIGHBOUR: 'it returns false'. Refute it at one input. -/
def fnNightsWrong : ChangeSpec := { name := "fnNights", vars := ["loop.example/g00953/impl.sines"], fn := fun _ => fun
  | [d1, d2, g1] => { results := [.lit (.bool false)], args := [d1, d2], vars := [g1] }
  | _ => none }
def FnNightsWrongFalsely : Prop := fnNightsRow.holds Tryd.pinned (OpenSpec.ofChange fnNightsWrong)

/-- 'laws.FnExactSunrise': WHATEVER THE INPUT: true; the input reads as it did. -/
def fnExactSunriseSpec : ChangeSpec := { name := "fnExactSunrise", vars := ["loop.example/g00953/impl.sines"], fn := fun _ => fun
  | [d1, d2, g1] => { results := [.lit (.bool true)], args := [d1, d2], vars := [g1] }
  | _ => none }
def fnExactSunriseRow : OpenClaim := { program := "ytagebpmciimcgabdoor", sum := "e63b0e9039d1b99296d2eef311b39626997a7aaf41860a04471e653b13732d78", func := "loop.example/g00953/laws.FnExactSunrise", spec := "fnExactSunrise", unfollowed := true, recurses := true, named := ["loop.example/g00953/impl.sines"], apart := false, laid := [("loop.example/g00953/impl.sines", laid_loop_example_g00953_impl_sines)] }
def FnExactSunriseSaid : Prop := fnExactSunriseRow.holds Tryd.pinned (OpenSpec.ofChange fnExactSunriseSpec)

/-- ITS FALSE NEIGHBOUR: 'it returns false'. Refute it at one input. -/
def fnExactSunriseWrong : ChangeSpec := { name := "fnExactSunrise", vars := ["loop.example/g00953/impl.sines"], fn := fun _ => fun
  | [d1, d2, g1] => { results := [.lit (.bool false)], args := [d1, d2], vars := [g1] }
  | _ => none }
def FnExactSunriseWrongFalsely : Prop := fnExactSunriseRow.holds Tryd.pinned (OpenSpec.ofChange fnExactSunriseWrong)

/-- 'laws.FnExactSunset': WHATEVER THE INPUT: true; the input reads as it did. -/
def fnExactSunsetSpec : ChangeSpec := { name := "fnExactSunset", vars := ["loop.example/g00953/impl.sines"], fn := fun _ => fun
  | [d1, d2, g1] => { results := [.lit (.bool true)], args := [d1, d2], vars := [g1] }
  | _ => none }
def fnExactSunsetRow : OpenClaim := { program := "ytagebpmciimcgabdoor", sum := "e63b0e9039d1b99296d2eef311b39626997a7aaf41860a04471e653b13732d78", func := "loop.example/g00953/laws.FnExactSunset", spec := "fnExactSunset", unfollowed := true, recurses := true, named := ["loop.example/g00953/impl.sines"], apart := false, laid := [("loop.example/g00953/impl.sines", laid_loop_example_g00953_impl_sines)] }
def FnExactSunsetSaid : Prop := fnExactSunsetRow.holds Tryd.pinned (OpenSpec.ofChange fnExactSunsetSpec)

/-- ITS FALSE NEIGHBOUR: 'it returns false'. Refute it at one input. -/
def fnExactSunsetWrong : ChangeSpec := { name := "fnExactSunset", vars := ["loop.example/g00953/impl.sines"], fn := fun _ => fun
  | [d1, d2, g1] => { results := [.lit (.bool false)], args := [d1, d2], vars := [g1] }
  | _ => none }
def FnExactSunsetWrongFalsely : Prop := fnExactSunsetRow.holds Tryd.pinned (OpenSpec.ofChange fnExactSunsetWrong)

/-- 'laws.FnExactDarkMinutes': WHATEVER THE INPUT: true; the input reads as it did. -/
def fnExactDarkMinutesSpec : ChangeSpec := { name := "fnExactDarkMinutes", vars := ["loop.example/g00953/impl.sines"], fn := fun _ => fun
  | [d1, d2, g1] => { results := [.lit (.bool true)], args := [d1, d2], vars := [g1] }
  | _ => none }
def fnExactDarkMinutesRow : OpenClaim := { program := "ytagebpmciimcgabdoor", sum := "e63b0e9039d1b99296d2eef311b39626997a7aaf41860a04471e653b13732d78", func := "loop.example/g00953/laws.FnExactDarkMinutes", spec := "fnExactDarkMinutes", unfollowed := true, recurses := true, named := ["loop.example/g00953/impl.sines"], apart := false, laid := [("loop.example/g00953/impl.sines", laid_loop_example_g00953_impl_sines)] }
def FnExactDarkMinutesSaid : Prop := fnExactDarkMinutesRow.holds Tryd.pinned (OpenSpec.ofChange fnExactDarkMinutesSpec)

/-- ITS FALSE NEIGHBOUR: 'it returns false'. Refute it at one input. -/
def fnExactDarkMinutesWrong : ChangeSpec := { name := "fnExactDarkMinutes", vars := ["loop.example/g00953/impl.sines"], fn := fun _ => fun
  | [d1, d2, g1] => { results := [.lit (.bool false)], args := [d1, d2], vars := [g1] }
  | _ => none }
def FnExactDarkMinutesWrongFalsely : Prop := fnExactDarkMinutesRow.holds Tryd.pinned (OpenSpec.ofChange fnExactDarkMinutesWrong)

/-- 'laws.FnExactLongestDark': WHATEVER THE INPUT: true; the input reads as it did. -/
def fnExactLongestDarkSpec : ChangeSpec := { name := "fnExactLongestDark", vars := ["loop.example/g00953/impl.sines"], fn := fun _ => fun
  | [d1, d2, d3, g1] => { results := [.lit (.bool true)], args := [d1, d2, d3], vars := [g1] }
  | _ => none }
def fnExactLongestDarkRow : OpenClaim := { program := "ytagebpmciimcgabdoor", sum := "e63b0e9039d1b99296d2eef311b39626997a7aaf41860a04471e653b13732d78", func := "loop.example/g00953/laws.FnExactLongestDark", spec := "fnExactLongestDark", unfollowed := true, recurses := true, named := ["loop.example/g00953/impl.sines"], apart := false, laid := [("loop.example/g00953/impl.sines", laid_loop_example_g00953_impl_sines)] }
def FnExactLongestDarkSaid : Prop := fnExactLongestDarkRow.holds Tryd.pinned (OpenSpec.ofChange fnExactLongestDarkSpec)

/-- ITS FALSE NEIGHBOUR: 'it returns false'. Refute it at one input. -/
def fnExactLongestDarkWrong : ChangeSpec := { name := "fnExactLongestDark", vars := ["loop.example/g00953/impl.sines"], fn := fun _ => fun
  | [d1, d2, d3, g1] => { results := [.lit (.bool false)], args := [d1, d2, d3], vars := [g1] }
  | _ => none }
def FnExactLongestDarkWrongFalsely : Prop := fnExactLongestDarkRow.holds Tryd.pinned (OpenSpec.ofChange fnExactLongestDarkWrong)

/-- 'laws.FnExactDarkSum': WHATEVER THE INPUT: true; the input reads as it did. -/
def fnExactDarkSumSpec : ChangeSpec := { name := "fnExactDarkSum", vars := ["loop.example/g00953/impl.sines"], fn := fun _ => fun
  | [d1, d2, d3, g1] => { results := [.lit (.bool true)], args := [d1, d2, d3], vars := [g1] }
  | _ => none }
def fnExactDarkSumRow : OpenClaim := { program := "ytagebpmciimcgabdoor", sum := "e63b0e9039d1b99296d2eef311b39626997a7aaf41860a04471e653b13732d78", func := "loop.example/g00953/laws.FnExactDarkSum", spec := "fnExactDarkSum", unfollowed := true, recurses := true, named := ["loop.example/g00953/impl.sines"], apart := false, laid := [("loop.example/g00953/impl.sines", laid_loop_example_g00953_impl_sines)] }
def FnExactDarkSumSaid : Prop := fnExactDarkSumRow.holds Tryd.pinned (OpenSpec.ofChange fnExactDarkSumSpec)

/-- ITS FALSE NEIGHBOUR: 'it returns false'. Refute it at one input. -/
def fnExactDarkSumWrong : ChangeSpec := { name := "fnExactDarkSum", vars := ["loop.example/g00953/impl.sines"], fn := fun _ => fun
  | [d1, d2, d3, g1] => { results := [.lit (.bool false)], args := [d1, d2, d3], vars := [g1] }
  | _ => none }
def FnExactDarkSumWrongFalsely : Prop := fnExactDarkSumRow.holds Tryd.pinned (OpenSpec.ofChange fnExactDarkSumWrong)

/- THE SECOND FORM. 'bulk': how many values and letters a reading holds, each counted each time it is reached (what is shared counts as often as it is met; a slice's spare places count too). A statement '..UptoSaid' is the law's where the arguments, and the package variables that the reading takes, are together of bulk at most 1048576: NARROWER than '..Said'. Prove '..Said' where nothing that the law and all that it calls make is longer than what came in: it says more and counts as full. Else prove '..UptoSaid'. A law counts once. -/
mutual
def uptoBulk {H : Type} : DataW H → Nat
  | .lit (.string bytes) => bytes.length + 1
  | .lit _ => 1
  | .nil => 1
  | .ptr d => uptoBulk d + 1
  | .slice elems spare => uptoBulkAll elems + uptoBulkAll spare + 1
  | .agg parts => uptoBulkAll parts + 1
  | .iface _ d => uptoBulk d + 1
  | .map entries => uptoBulkEntries entries + 1
  | .held _ => 1
def uptoBulkAll {H : Type} : List (DataW H) → Nat
  | [] => 0
  | d :: r => uptoBulk d + uptoBulkAll r
def uptoBulkEntries {H : Type} : List (Lit × DataW H) → Nat
  | [] => 0
  | x :: r => uptoBulkEntry x + uptoBulkEntries r
def uptoBulkEntry {H : Type} : Lit × DataW H → Nat
  | (.string bytes, d) => bytes.length + uptoBulk d + 1
  | (_, d) => uptoBulk d + 1
 end
def uptoSmall : (H : Type) → List (DataW H) → Bool := fun _ ds => decide (uptoBulkAll ds ≤ 1048576)
def OpenSpec.upto (s : _root_.Go.ChangeSpec) : _root_.Go.OpenSpec := { _root_.Go.OpenSpec.ofChange s with cond := some uptoSmall }

/-- 'laws.FnMorse', WHERE WHAT IT READS IS OF BULK AT MOST 1048576: true; the input reads as it did. -/
def fnMorseUptoRow : OpenClaim := { program := "ytagebpmciimcgabdoor", sum := "e63b0e9039d1b99296d2eef311b39626997a7aaf41860a04471e653b13732d78", func := "loop.example/g00953/laws.FnMorse", spec := "fnMorse", inPlace := ["internal/bytealg.IndexByteString", "internal/bytealg.IndexString", "internal/bytealg.CountString", "internal/abi.NoEscape"], unfollowed := true, recurses := true, named := ["loop.example/g00953/impl.morseSigns", "unicode/utf8.first", "unicode/utf8.acceptRanges", "internal/bytealg.MaxLen"], apart := false, laid := [("unicode/utf8.acceptRanges", laid_unicode_utf8_acceptRanges), ("loop.example/g00953/impl.morseSigns", laid_loop_example_g00953_impl_morseSigns), ("unicode/utf8.first", laid_unicode_utf8_first)], narrowed := true }
def FnMorseUptoSaid : Prop := fnMorseUptoRow.holds Tryd.pinned (OpenSpec.upto fnMorseSpec)

/-- 'laws.FnNights', WHERE WHAT IT READS IS OF BULK AT MOST 1048576: true; the input reads as it did. -/
def fnNightsUptoRow : OpenClaim := { program := "ytagebpmciimcgabdoor", sum := "e63b0e9039d1b99296d2eef311b39626997a7aaf41860a04471e653b13732d78", func := "loop.example/g00953/laws.FnNights", spec := "fnNights", unfollowed := true, recurses := true, named := ["loop.example/g00953/impl.sines"], apart := false, laid := [("loop.example/g00953/impl.sines", laid_loop_example_g00953_impl_sines)], narrowed := true }
def FnNightsUptoSaid : Prop := fnNightsUptoRow.holds Tryd.pinned (OpenSpec.upto fnNightsSpec)

/-- 'laws.FnExactSunrise', WHERE WHAT IT READS IS OF BULK AT MOST 1048576: true; the input reads as it did. -/
def fnExactSunriseUptoRow : OpenClaim := { program := "ytagebpmciimcgabdoor", sum := "e63b0e9039d1b99296d2eef311b39626997a7aaf41860a04471e653b13732d78", func := "loop.example/g00953/laws.FnExactSunrise", spec := "fnExactSunrise", unfollowed := true, recurses := true, named := ["loop.example/g00953/impl.sines"], apart := false, laid := [("loop.example/g00953/impl.sines", laid_loop_example_g00953_impl_sines)], narrowed := true }
def FnExactSunriseUptoSaid : Prop := fnExactSunriseUptoRow.holds Tryd.pinned (OpenSpec.upto fnExactSunriseSpec)

/-- 'laws.FnExactSunset', WHERE WHAT IT READS IS OF BULK AT MOST 1048576: true; the input reads as it did. -/
def fnExactSunsetUptoRow : OpenClaim := { program := "ytagebpmciimcgabdoor", sum := "e63b0e9039d1b99296d2eef311b39626997a7aaf41860a04471e653b13732d78", func := "loop.example/g00953/laws.FnExactSunset", spec := "fnExactSunset", unfollowed := true, recurses := true, named := ["loop.example/g00953/impl.sines"], apart := false, laid := [("loop.example/g00953/impl.sines", laid_loop_example_g00953_impl_sines)], narrowed := true }
def FnExactSunsetUptoSaid : Prop := fnExactSunsetUptoRow.holds Tryd.pinned (OpenSpec.upto fnExactSunsetSpec)

/-- 'laws.FnExactDarkMinutes', WHERE WHAT IT READS IS OF BULK AT MOST 1048576: true; the input reads as it did. -/
def fnExactDarkMinutesUptoRow : OpenClaim := { program := "ytagebpmciimcgabdoor", sum := "e63b0e9039d1b99296d2eef311b39626997a7aaf41860a04471e653b13732d78", func := "loop.example/g00953/laws.FnExactDarkMinutes", spec := "fnExactDarkMinutes", unfollowed := true, recurses := true, named := ["loop.example/g00953/impl.sines"], apart := false, laid := [("loop.example/g00953/impl.sines", laid_loop_example_g00953_impl_sines)], narrowed := true }
def FnExactDarkMinutesUptoSaid : Prop := fnExactDarkMinutesUptoRow.holds Tryd.pinned (OpenSpec.upto fnExactDarkMinutesSpec)

/-- 'laws.FnExactLongestDark', WHERE WHAT IT READS IS OF BULK AT MOST 1048576: true; the input reads as it did. -/
def fnExactLongestDarkUptoRow : OpenClaim := { program := "ytagebpmciimcgabdoor", sum := "e63b0e9039d1b99296d2eef311b39626997a7aaf41860a04471e653b13732d78", func := "loop.example/g00953/laws.FnExactLongestDark", spec := "fnExactLongestDark", unfollowed := true, recurses := true, named := ["loop.example/g00953/impl.sines"], apart := false, laid := [("loop.example/g00953/impl.sines", laid_loop_example_g00953_impl_sines)], narrowed := true }
def FnExactLongestDarkUptoSaid : Prop := fnExactLongestDarkUptoRow.holds Tryd.pinned (OpenSpec.upto fnExactLongestDarkSpec)

/-- 'laws.FnExactDarkSum', WHERE WHAT IT READS IS OF BULK AT MOST 1048576: true; the input reads as it did. -/
def fnExactDarkSumUptoRow : OpenClaim := { program := "ytagebpmciimcgabdoor", sum := "e63b0e9039d1b99296d2eef311b39626997a7aaf41860a04471e653b13732d78", func := "loop.example/g00953/laws.FnExactDarkSum", spec := "fnExactDarkSum", unfollowed := true, recurses := true, named := ["loop.example/g00953/impl.sines"], apart := false, laid := [("loop.example/g00953/impl.sines", laid_loop_example_g00953_impl_sines)], narrowed := true }
def FnExactDarkSumUptoSaid : Prop := fnExactDarkSumUptoRow.holds Tryd.pinned (OpenSpec.upto fnExactDarkSumSpec)

end Rows
end Go.Proofs.YtagebpmciimcgabDoor
