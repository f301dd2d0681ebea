/-
  NARROWER THAN 'FOR EVERY INPUT', by the rows' own cells (each row's printed sentence says how): FnExactShiftPhases: laid · FnExactNormalPattern: laid · FnExactFlashesIn: laid · FnExactLongestDarkOf: laid.
  DERIVED. THE GIVEN ROWS OF THIS SEAT. 4 by the template 'for every input the law returns true; each argument reads behind the call as it read before'; 0 by the template 'total and deterministic' (their statements: YtgcaipjknpcepabDoorTotals.lean).
  GIVEN WITH THE SEED: the statements are not yours to turn. If you find one false, say at which input.
  Laid BY PROGRAM, IN A SANDBOX (cutbox-rows.mjs): the forced cells as the released guide's own fill.sh prints them over the translation 1242466427c43635… (all of the seat's roots in one cut). By AI agents, Wed Nov 11 2026. No macro, syntax, notation, axiom, sorry.
-/
import Derived.Test.YtgcaipjknpcepabDoorChecked
import GoSem.PinnedTables
import GoSem.Claim
import GoSem.ClaimJoined
import GoSem.ClaimMapViews
import Derived.JoinedTies
import Derived.KernelRfl
namespace Go.Proofs.YtgcaipjknpcepabDoor
/- THE CELL 'sum', in the pinned program and in every row, IS THE sha256 OF THE DUMP (.gsa) THAT YtgcaipjknpcepabDoorProg.lean LOADS. Nothing in Lean hashes anything: it is a label: what it is worth is what the hold of that sum in a sandbox is worth. -/
noncomputable def Tryd.pinned : Pinned := { name := "ytgcaipjknpcepabdoor", sum := "1242466427c43635ed80cbdb4303b1e05397ff879cee25f4f7c56768e03cba44", checked := Tryd.checked }
namespace Rows
def none {H : Type} : Left H := { results := [], args := [] }

/- WHAT THE LISTED PACKAGE-LEVEL VARIABLES READ AS WHEN THE CALL BEGINS. Each datum BY PROGRAM (the guide's laid-datum.mjs) off the statement by which the dump's own 'gosem.cut.vars' lays the variable. In a bare row this is a premise. The card (YtgcaipjknpcepabDoorCards.lean) ties it to the program's text. -/
def laid_unicode_utf8_acceptRanges {H : Type} : DataW H := .agg [.agg [.lit (.int .u8 128), .lit (.int .u8 191)], .agg [.lit (.int .u8 160), .lit (.int .u8 191)], .agg [.lit (.int .u8 128), .lit (.int .u8 159)], .agg [.lit (.int .u8 144), .lit (.int .u8 191)], .agg [.lit (.int .u8 128), .lit (.int .u8 143)], .agg [.lit (.int .u8 0), .lit (.int .u8 0)], .agg [.lit (.int .u8 0), .lit (.int .u8 0)], .agg [.lit (.int .u8 0), .lit (.int .u8 0)], .agg [.lit (.int .u8 0), .lit (.int .u8 0)], .agg [.lit (.int .u8 0), .lit (.int .u8 0)], .agg [.lit (.int .u8 0), .lit (.int .u8 0)], .agg [.lit (.int .u8 0), .lit (.int .u8 0)], .agg [.lit (.int .u8 0), .lit (.int .u8 0)], .agg [.lit (.int .u8 0), .lit (.int .u8 0)], .agg [.lit (.int .u8 0), .lit (.int .u8 0)], .agg [.lit (.int .u8 0), .lit (.int .u8 0)]]
/-- One of Go's own tables, pinned by name: the form's constant. -/
def laid_unicode_utf8_first : DataW Unit := Go.Pinned.utf8First

/-- 'laws.FnExactShiftPhases': WHATEVER THE INPUT: true; the input reads as it did. -/
def fnExactShiftPhasesSpec : ChangeSpec := { name := "fnExactShiftPhases", fn := fun _ => fun
  | [d1, d2] => { results := [.lit (.bool true)], args := [d1, d2] }
  | _ => none }
def fnExactShiftPhasesRow : OpenClaim := { program := "ytgcaipjknpcepabdoor", sum := "1242466427c43635ed80cbdb4303b1e05397ff879cee25f4f7c56768e03cba44", func := "loop.example/g00953/laws.FnExactShiftPhases", spec := "fnExactShiftPhases", inPlace := ["internal/bytealg.IndexByteString", "internal/bytealg.IndexString", "internal/abi.NoEscape", "internal/bytealg.MakeNoZero"], named := ["internal/bytealg.MaxLen", "unicode/utf8.first", "unicode/utf8.acceptRanges"], apart := false, laid := [("unicode/utf8.acceptRanges", laid_unicode_utf8_acceptRanges), ("unicode/utf8.first", laid_unicode_utf8_first)] }
def FnExactShiftPhasesSaid : Prop := fnExactShiftPhasesRow.holds Tryd.pinned (OpenSpec.ofChange fnExactShiftPhasesSpec)

/-- ITS FALSE NEIGHBOUR: 'it returns false'. Refute it at one input. -/
def fnExactShiftPhasesWrong : ChangeSpec := { name := "fnExactShiftPhases", fn := fun _ => fun
  | [d1, d2] => { results := [.lit (.bool false)], args := [d1, d2] }
  | _ => none }
def FnExactShiftPhasesWrongFalsely : Prop := fnExactShiftPhasesRow.holds Tryd.pinned (OpenSpec.ofChange fnExactShiftPhasesWrong)

/-- 'laws.FnExactNormalPattern': WHATEVER THE INPUT: true; the input reads as it did. -/
def fnExactNormalPatternSpec : ChangeSpec := { name := "fnExactNormalPattern", fn := fun _ => fun
  | [d] => { results := [.lit (.bool true)], args := [d] }
  | _ => none }
def fnExactNormalPatternRow : OpenClaim := { program := "ytgcaipjknpcepabdoor", sum := "1242466427c43635ed80cbdb4303b1e05397ff879cee25f4f7c56768e03cba44", func := "loop.example/g00953/laws.FnExactNormalPattern", spec := "fnExactNormalPattern", inPlace := ["internal/bytealg.IndexByteString", "internal/bytealg.IndexString", "internal/abi.NoEscape", "internal/bytealg.MakeNoZero"], named := ["internal/bytealg.MaxLen", "unicode/utf8.first", "unicode/utf8.acceptRanges"], apart := false, laid := [("unicode/utf8.acceptRanges", laid_unicode_utf8_acceptRanges), ("unicode/utf8.first", laid_unicode_utf8_first)] }
def FnExactNormalPatternSaid : Prop := fnExactNormalPatternRow.holds Tryd.pinned (OpenSpec.ofChange fnExactNormalPatternSpec)

/-- ITS FALSE NEIGHBOUR: 'it returns false'. Refute it at one input. -/
def fnExactNormalPatternWrong : ChangeSpec := { name := "fnExactNormalPattern", fn := fun _ => fun
  | [d] => { results := [.lit (.bool false)], args := [d] }
  | _ => none }
def FnExactNormalPatternWrongFalsely : Prop := fnExactNormalPatternRow.holds Tryd.pinned (OpenSpec.ofChange fnExactNormalPatternWrong)

/-- 'laws.FnExactFlashesIn': WHATEVER THE INPUT: true; the input reads as it did. -/
def fnExactFlashesInSpec : ChangeSpec := { name := "fnExactFlashesIn", fn := fun _ => fun
  | [d] => { results := [.lit (.bool true)], args := [d] }
  | _ => none }
def fnExactFlashesInRow : OpenClaim := { program := "ytgcaipjknpcepabdoor", sum := "1242466427c43635ed80cbdb4303b1e05397ff879cee25f4f7c56768e03cba44", func := "loop.example/g00953/laws.FnExactFlashesIn", spec := "fnExactFlashesIn", inPlace := ["internal/bytealg.IndexByteString", "internal/bytealg.IndexString", "internal/abi.NoEscape", "internal/bytealg.MakeNoZero"], named := ["internal/bytealg.MaxLen", "unicode/utf8.first", "unicode/utf8.acceptRanges"], apart := false, laid := [("unicode/utf8.acceptRanges", laid_unicode_utf8_acceptRanges), ("unicode/utf8.first", laid_unicode_utf8_first)] }
def FnExactFlashesInSaid : Prop := fnExactFlashesInRow.holds Tryd.pinned (OpenSpec.ofChange fnExactFlashesInSpec)

/-- ITS FALSE NEIGHBOUR: 'it returns false'. Refute it at one input. -/
def fnExactFlashesInWrong : ChangeSpec := { name := "fnExactFlashesIn", fn := fun _ => fun
  | [d] => { results := [.lit (.bool false)], args := [d] }
  | _ => none }
def FnExactFlashesInWrongFalsely : Prop := fnExactFlashesInRow.holds Tryd.pinned (OpenSpec.ofChange fnExactFlashesInWrong)

/-- 'laws.FnExactLongestDarkOf': WHATEVER THE INPUT: true; the input reads as it did. -/
def fnExactLongestDarkOfSpec : ChangeSpec := { name := "fnExactLongestDarkOf", fn := fun _ => fun
  | [d] => { results := [.lit (.bool true)], args := [d] }
  | _ => none }
def fnExactLongestDarkOfRow : OpenClaim := { program := "ytgcaipjknpcepabdoor", sum := "1242466427c43635ed80cbdb4303b1e05397ff879cee25f4f7c56768e03cba44", func := "loop.example/g00953/laws.FnExactLongestDarkOf", spec := "fnExactLongestDarkOf", inPlace := ["internal/bytealg.IndexByteString", "internal/bytealg.IndexString", "internal/abi.NoEscape", "internal/bytealg.MakeNoZero"], named := ["internal/bytealg.MaxLen", "unicode/utf8.first", "unicode/utf8.acceptRanges"], apart := false, laid := [("unicode/utf8.acceptRanges", laid_unicode_utf8_acceptRanges), ("unicode/utf8.first", laid_unicode_utf8_first)] }
def FnExactLongestDarkOfSaid : Prop := fnExactLongestDarkOfRow.holds Tryd.pinned (OpenSpec.ofChange fnExactLongestDarkOfSpec)

/-- ITS FALSE NEIGHBOUR: 'it returns false'. Refute it at one input. -/
def fnExactLongestDarkOfWrong : ChangeSpec := { name := "fnExactLongestDarkOf", fn := fun _ => fun
  | [d] => { results := [.lit (.bool false)], args := [d] }
  | _ => none }
def FnExactLongestDarkOfWrongFalsely : Prop := fnExactLongestDarkOfRow.holds Tryd.pinned (OpenSpec.ofChange fnExactLongestDarkOfWrong)

/- THE SECOND FORM. 'bulk': how many values and letters a reading holds, each counted each time it is reached (what is shared counts as often as it is met; a slice's spare places count too). A statement '..UptoSaid' is the law's where the arguments, and the package variables that the reading takes, are together of bulk at most 1048576: NARROWER than '..Said'. Prove '..Said' where nothing that the law and all that it calls make is longer than what came in: it says more and counts as full. Else prove '..UptoSaid'. A law counts once. -/
mutual
def uptoBulk {H : Type} : DataW H → Nat
  | .lit (.string bytes) => bytes.length + 1
  | .lit _ => 1
  | .nil => 1
  | .ptr d => uptoBulk d + 1
  | .slice elems spare => uptoBulkAll elems + uptoBulkAll spare + 1
  | .agg parts => uptoBulkAll parts + 1
  | .iface _ d => uptoBulk d + 1
  | .map entries => uptoBulkEntries entries + 1
  | .held _ => 1
def uptoBulkAll {H : Type} : List (DataW H) → Nat
  | [] => 0
  | d :: r => uptoBulk d + uptoBulkAll r
def uptoBulkEntries {H : Type} : List (Lit × DataW H) → Nat
  | [] => 0
  | x :: r => uptoBulkEntry x + uptoBulkEntries r
def uptoBulkEntry {H : Type} : Lit × DataW H → Nat
  | (.string bytes, d) => bytes.length + uptoBulk d + 1
  | (_, d) => uptoBulk d + 1
 end
def uptoSmall : (H : Type) → List (DataW H) → Bool := fun _ ds => decide (uptoBulkAll ds ≤ 1048576)
def OpenSpec.upto (s : _root_.Go.ChangeSpec) : _root_.Go.OpenSpec := { _root_.Go.OpenSpec.ofChange s with cond := some uptoSmall }

/-- 'laws.FnExactShiftPhases', WHERE WHAT IT READS IS OF BULK AT MOST 1048576: true; the input reads as it did. -/
def fnExactShiftPhasesUptoRow : OpenClaim := { program := "ytgcaipjknpcepabdoor", sum := "1242466427c43635ed80cbdb4303b1e05397ff879cee25f4f7c56768e03cba44", func := "loop.example/g00953/laws.FnExactShiftPhases", spec := "fnExactShiftPhases", inPlace := ["internal/bytealg.IndexByteString", "internal/bytealg.IndexString", "internal/abi.NoEscape", "internal/bytealg.MakeNoZero"], named := ["internal/bytealg.MaxLen", "unicode/utf8.first", "unicode/utf8.acceptRanges"], apart := false, laid := [("unicode/utf8.acceptRanges", laid_unicode_utf8_acceptRanges), ("unicode/utf8.first", laid_unicode_utf8_first)], narrowed := true }
def FnExactShiftPhasesUptoSaid : Prop := fnExactShiftPhasesUptoRow.holds Tryd.pinned (OpenSpec.upto fnExactShiftPhasesSpec)

/-- 'laws.FnExactNormalPattern', WHERE WHAT IT READS IS OF BULK AT MOST 1048576: true; the input reads as it did. -/
def fnExactNormalPatternUptoRow : OpenClaim := { program := "ytgcaipjknpcepabdoor", sum := "1242466427c43635ed80cbdb4303b1e05397ff879cee25f4f7c56768e03cba44", func := "loop.example/g00953/laws.FnExactNormalPattern", spec := "fnExactNormalPattern", inPlace := ["internal/bytealg.IndexByteString", "internal/bytealg.IndexString", "internal/abi.NoEscape", "internal/bytealg.MakeNoZero"], named := ["internal/bytealg.MaxLen", "unicode/utf8.first", "unicode/utf8.acceptRanges"], apart := false, laid := [("unicode/utf8.acceptRanges", laid_unicode_utf8_acceptRanges), ("unicode/utf8.first", laid_unicode_utf8_first)], narrowed := true }
def FnExactNormalPatternUptoSaid : Prop := fnExactNormalPatternUptoRow.holds Tryd.pinned (OpenSpec.upto fnExactNormalPatternSpec)

/-- 'laws.FnExactFlashesIn', WHERE WHAT IT READS IS OF BULK AT MOST 1048576: true; the input reads as it did. -/
def fnExactFlashesInUptoRow : OpenClaim := { program := "ytgcaipjknpcepabdoor", sum := "1242466427c43635ed80cbdb4303b1e05397ff879cee25f4f7c56768e03cba44", func := "loop.example/g00953/laws.FnExactFlashesIn", spec := "fnExactFlashesIn", inPlace := ["internal/bytealg.IndexByteString", "internal/bytealg.IndexString", "internal/abi.NoEscape", "internal/bytealg.MakeNoZero"], named := ["internal/bytealg.MaxLen", "unicode/utf8.first", "unicode/utf8.acceptRanges"], apart := false, laid := [("unicode/utf8.acceptRanges", laid_unicode_utf8_acceptRanges), ("unicode/utf8.first", laid_unicode_utf8_first)], narrowed := true }
def FnExactFlashesInUptoSaid : Prop := fnExactFlashesInUptoRow.holds Tryd.pinned (OpenSpec.upto fnExactFlashesInSpec)

/-- 'laws.FnExactLongestDarkOf', WHERE WHAT IT READS IS OF BULK AT MOST 1048576: true; the input reads as it did. -/
def fnExactLongestDarkOfUptoRow : OpenClaim := { program := "ytgcaipjknpcepabdoor", sum := "1242466427c43635ed80cbdb4303b1e05397ff879cee25f4f7c56768e03cba44", func := "loop.example/g00953/laws.FnExactLongestDarkOf", spec := "fnExactLongestDarkOf", inPlace := ["internal/bytealg.IndexByteString", "internal/bytealg.IndexString", "internal/abi.NoEscape", "internal/bytealg.MakeNoZero"], named := ["internal/bytealg.MaxLen", "unicode/utf8.first", "unicode/utf8.acceptRanges"], apart := false, laid := [("unicode/utf8.acceptRanges", laid_unicode_utf8_acceptRanges), ("unicode/utf8.first", laid_unicode_utf8_first)], narrowed := true }
def FnExactLongestDarkOfUptoSaid : Prop := fnExactLongestDarkOfUptoRow.holds Tryd.pinned (OpenSpec.upto fnExactLongestDarkOfSpec)

end Rows
end Go.Proofs.YtgcaipjknpcepabDoor
