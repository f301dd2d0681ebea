/-
  No cell of these rows narrows 'for every input' (looked for: loops, veiled, ifaces, maps, wideKeys, modest, calm, conditions, laid).
  DERIVED. THE GIVEN ROWS OF THIS SEAT. 11 by the template 'for every input the law returns true; each argument reads behind the call as it read before'; 0 by the template 'total and deterministic' (their statements: YtagebpmciimcgaaTotals.lean).
  GIVEN WITH THE SEED: the statements are not yours to turn. If you find one false, say at which input.
  Laid BY PROGRAM, IN A SANDBOX (cutbox-rows.mjs): the forced cells as the released guide's own fill.sh prints them over the translation aac2785ee75a6ef3… (all of the seat's roots in one cut). By AI agents, Wed Nov 11 2026. No macro, syntax, notation, axiom, sorry.
-/
import Derived.Test.YtagebpmciimcgaaChecked
import GoSem.Claim
import GoSem.ClaimJoined
import GoSem.ClaimMapViews
import Derived.JoinedTies
import Derived.KernelRfl
namespace Go.Proofs.Ytagebpmciimcgaa
/- THE CELL 'sum', in the pinned program and in every row, IS THE sha256 OF THE DUMP (.gsa) THAT YtagebpmciimcgaaProg.lean LOADS. Nothing in Lean hashes anything: it is a label: what it is worth is what the hold of that sum in a sandbox is worth. -/
noncomputable def Try.pinned : Pinned := { name := "ytagebpmciimcgaa", sum := "aac2785ee75a6ef34207ec04f1a9165b8467fa14e140318cd78472cb1f2c8877", checked := Try.checked }
namespace Rows
def none {H : Type} : Left H := { results := [], args := [] }

/-- 'laws.FnGeo': WHATEVER THE INPUT: true; the input reads as it did. -/
def fnGeoSpec : ChangeSpec := { name := "fnGeo", fn := fun _ => fun
  | [d] => { results := [.lit (.bool true)], args := [d] }
  | _ => none }
def fnGeoRow : OpenClaim := { program := "ytagebpmciimcgaa", sum := "aac2785ee75a6ef34207ec04f1a9165b8467fa14e140318cd78472cb1f2c8877", func := "loop.example/g00953/laws.FnGeo", spec := "fnGeo", unfollowed := true, recurses := true, apart := false }
def FnGeoSaid : Prop := fnGeoRow.holds Try.pinned (OpenSpec.ofChange fnGeoSpec)

/-- ITS FALSE NEIGHBOUR: 'it returns false'. Refute it at one input. -/
def fnGeoWrong : ChangeSpec := { name := "fnGeo", fn := fun _ => fun
  | [d] => { results := [.lit (.bool false)], args := [d] }
  | _ => none }
def FnGeoWrongFalsely : Prop := fnGeoRow.holds Try.pinned (OpenSpec.ofChange fnGeoWrong)

/-- 'laws.FnLuminous': WHATEVER THE INPUT: true; the input reads as it did. -/
def fnLuminousSpec : ChangeSpec := { name := "fnLuminous", fn := fun _ => fun
  | [d] => { results := [.lit (.bool true)], args := [d] }
  | _ => none }
def fnLuminousRow : OpenClaim := { program := "ytagebpmciimcgaa", sum := "aac2785ee75a6ef34207ec04f1a9165b8467fa14e140318cd78472cb1f2c8877", func := "loop.example/g00953/laws.FnLuminous", spec := "fnLuminous", unfollowed := true, recurses := true, apart := false }
def FnLuminousSaid : Prop := fnLuminousRow.holds Try.pinned (OpenSpec.ofChange fnLuminousSpec)

/-- ITS FALSE NEIGHBOUR: 'it returns false'. Refute it at one input. -/
def fnLuminousWrong : ChangeSpec := { name := "fnLuminous", fn := fun _ => fun
  | [d] => { results := [.lit (.bool false)], args := [d] }
  | _ => none }
def FnLuminousWrongFalsely : Prop := fnLuminousRow.holds Try.pinned (OpenSpec.ofChange fnLuminousWrong)

/-- 'laws.FnExactTenLog': WHATEVER THE INPUT: true; the input reads as it did. -/
def fnExactTenLogSpec : ChangeSpec := { name := "fnExactTenLog", fn := fun _ => fun
  | [d] => { results := [.lit (.bool true)], args := [d] }
  | _ => none }
def fnExactTenLogRow : OpenClaim := { program := "ytagebpmciimcgaa", sum := "aac2785ee75a6ef34207ec04f1a9165b8467fa14e140318cd78472cb1f2c8877", func := "loop.example/g00953/laws.FnExactTenLog", spec := "fnExactTenLog", apart := false }
def FnExactTenLogSaid : Prop := fnExactTenLogRow.holds Try.pinned (OpenSpec.ofChange fnExactTenLogSpec)

/-- ITS FALSE NEIGHBOUR: 'it returns false'. Refute it at one input. -/
def fnExactTenLogWrong : ChangeSpec := { name := "fnExactTenLog", fn := fun _ => fun
  | [d] => { results := [.lit (.bool false)], args := [d] }
  | _ => none }
def FnExactTenLogWrongFalsely : Prop := fnExactTenLogRow.holds Try.pinned (OpenSpec.ofChange fnExactTenLogWrong)

/-- 'laws.FnExactHorizonOf': WHATEVER THE INPUT: true; the input reads as it did. -/
def fnExactHorizonOfSpec : ChangeSpec := { name := "fnExactHorizonOf", fn := fun _ => fun
  | [d] => { results := [.lit (.bool true)], args := [d] }
  | _ => none }
def fnExactHorizonOfRow : OpenClaim := { program := "ytagebpmciimcgaa", sum := "aac2785ee75a6ef34207ec04f1a9165b8467fa14e140318cd78472cb1f2c8877", func := "loop.example/g00953/laws.FnExactHorizonOf", spec := "fnExactHorizonOf", apart := false }
def FnExactHorizonOfSaid : Prop := fnExactHorizonOfRow.holds Try.pinned (OpenSpec.ofChange fnExactHorizonOfSpec)

/-- ITS FALSE NEIGHBOUR: 'it returns false'. Refute it at one input. -/
def fnExactHorizonOfWrong : ChangeSpec := { name := "fnExactHorizonOf", fn := fun _ => fun
  | [d] => { results := [.lit (.bool false)], args := [d] }
  | _ => none }
def FnExactHorizonOfWrongFalsely : Prop := fnExactHorizonOfRow.holds Try.pinned (OpenSpec.ofChange fnExactHorizonOfWrong)

/-- 'laws.FnExactGeoRange': WHATEVER THE INPUT: true; the input reads as it did. -/
def fnExactGeoRangeSpec : ChangeSpec := { name := "fnExactGeoRange", fn := fun _ => fun
  | [d1, d2] => { results := [.lit (.bool true)], args := [d1, d2] }
  | _ => none }
def fnExactGeoRangeRow : OpenClaim := { program := "ytagebpmciimcgaa", sum := "aac2785ee75a6ef34207ec04f1a9165b8467fa14e140318cd78472cb1f2c8877", func := "loop.example/g00953/laws.FnExactGeoRange", spec := "fnExactGeoRange", apart := false }
def FnExactGeoRangeSaid : Prop := fnExactGeoRangeRow.holds Try.pinned (OpenSpec.ofChange fnExactGeoRangeSpec)

/-- ITS FALSE NEIGHBOUR: 'it returns false'. Refute it at one input. -/
def fnExactGeoRangeWrong : ChangeSpec := { name := "fnExactGeoRange", fn := fun _ => fun
  | [d1, d2] => { results := [.lit (.bool false)], args := [d1, d2] }
  | _ => none }
def FnExactGeoRangeWrongFalsely : Prop := fnExactGeoRangeRow.holds Try.pinned (OpenSpec.ofChange fnExactGeoRangeWrong)

/-- 'laws.FnExactEyeFor': WHATEVER THE INPUT: true; the input reads as it did. -/
def fnExactEyeForSpec : ChangeSpec := { name := "fnExactEyeFor", fn := fun _ => fun
  | [d1, d2] => { results := [.lit (.bool true)], args := [d1, d2] }
  | _ => none }
def fnExactEyeForRow : OpenClaim := { program := "ytagebpmciimcgaa", sum := "aac2785ee75a6ef34207ec04f1a9165b8467fa14e140318cd78472cb1f2c8877", func := "loop.example/g00953/laws.FnExactEyeFor", spec := "fnExactEyeFor", unfollowed := true, recurses := true, apart := false }
def FnExactEyeForSaid : Prop := fnExactEyeForRow.holds Try.pinned (OpenSpec.ofChange fnExactEyeForSpec)

/-- ITS FALSE NEIGHBOUR: 'it returns false'. Refute it at one input. -/
def fnExactEyeForWrong : ChangeSpec := { name := "fnExactEyeFor", fn := fun _ => fun
  | [d1, d2] => { results := [.lit (.bool false)], args := [d1, d2] }
  | _ => none }
def FnExactEyeForWrongFalsely : Prop := fnExactEyeForRow.holds Try.pinned (OpenSpec.ofChange fnExactEyeForWrong)

/-- 'laws.FnExactLuminousRange': WHATEVER THE INPUT: true; the input reads as it did. -/
def fnExactLuminousRangeSpec : ChangeSpec := { name := "fnExactLuminousRange", fn := fun _ => fun
  | [d1, d2] => { results := [.lit (.bool true)], args := [d1, d2] }
  | _ => none }
def fnExactLuminousRangeRow : OpenClaim := { program := "ytagebpmciimcgaa", sum := "aac2785ee75a6ef34207ec04f1a9165b8467fa14e140318cd78472cb1f2c8877", func := "loop.example/g00953/laws.FnExactLuminousRange", spec := "fnExactLuminousRange", unfollowed := true, recurses := true, apart := false }
def FnExactLuminousRangeSaid : Prop := fnExactLuminousRangeRow.holds Try.pinned (OpenSpec.ofChange fnExactLuminousRangeSpec)

/-- ITS FALSE NEIGHBOUR: 'it returns false'. Refute it at one input. -/
def fnExactLuminousRangeWrong : ChangeSpec := { name := "fnExactLuminousRange", fn := fun _ => fun
  | [d1, d2] => { results := [.lit (.bool false)], args := [d1, d2] }
  | _ => none }
def FnExactLuminousRangeWrongFalsely : Prop := fnExactLuminousRangeRow.holds Try.pinned (OpenSpec.ofChange fnExactLuminousRangeWrong)

/-- 'laws.FnExactNominalRange': WHATEVER THE INPUT: true; the input reads as it did. -/
def fnExactNominalRangeSpec : ChangeSpec := { name := "fnExactNominalRange", fn := fun _ => fun
  | [d] => { results := [.lit (.bool true)], args := [d] }
  | _ => none }
def fnExactNominalRangeRow : OpenClaim := { program := "ytagebpmciimcgaa", sum := "aac2785ee75a6ef34207ec04f1a9165b8467fa14e140318cd78472cb1f2c8877", func := "loop.example/g00953/laws.FnExactNominalRange", spec := "fnExactNominalRange", unfollowed := true, recurses := true, apart := false }
def FnExactNominalRangeSaid : Prop := fnExactNominalRangeRow.holds Try.pinned (OpenSpec.ofChange fnExactNominalRangeSpec)

/-- ITS FALSE NEIGHBOUR: 'it returns false'. Refute it at one input. -/
def fnExactNominalRangeWrong : ChangeSpec := { name := "fnExactNominalRange", fn := fun _ => fun
  | [d] => { results := [.lit (.bool false)], args := [d] }
  | _ => none }
def FnExactNominalRangeWrongFalsely : Prop := fnExactNominalRangeRow.holds Try.pinned (OpenSpec.ofChange fnExactNominalRangeWrong)

/-- 'laws.FnExactIntensityFor': WHATEVER THE INPUT: true; the input reads as it did. -/
def fnExactIntensityForSpec : ChangeSpec := { name := "fnExactIntensityFor", fn := fun _ => fun
  | [d1, d2] => { results := [.lit (.bool true)], args := [d1, d2] }
  | _ => none }
def fnExactIntensityForRow : OpenClaim := { program := "ytagebpmciimcgaa", sum := "aac2785ee75a6ef34207ec04f1a9165b8467fa14e140318cd78472cb1f2c8877", func := "loop.example/g00953/laws.FnExactIntensityFor", spec := "fnExactIntensityFor", unfollowed := true, recurses := true, apart := false }
def FnExactIntensityForSaid : Prop := fnExactIntensityForRow.holds Try.pinned (OpenSpec.ofChange fnExactIntensityForSpec)

/-- ITS FALSE NEIGHBOUR: 'it returns false'. Refute it at one input. -/
def fnExactIntensityForWrong : ChangeSpec := { name := "fnExactIntensityFor", fn := fun _ => fun
  | [d1, d2] => { results := [.lit (.bool false)], args := [d1, d2] }
  | _ => none }
def FnExactIntensityForWrongFalsely : Prop := fnExactIntensityForRow.holds Try.pinned (OpenSpec.ofChange fnExactIntensityForWrong)

/-- 'laws.FnExactVisibilityFor': WHATEVER THE INPUT: true; the input reads as it did. -/
def fnExactVisibilityForSpec : ChangeSpec := { name := "fnExactVisibilityFor", fn := fun _ => fun
  | [d1, d2] => { results := [.lit (.bool true)], args := [d1, d2] }
  | _ => none }
def fnExactVisibilityForRow : OpenClaim := { program := "ytagebpmciimcgaa", sum := "aac2785ee75a6ef34207ec04f1a9165b8467fa14e140318cd78472cb1f2c8877", func := "loop.example/g00953/laws.FnExactVisibilityFor", spec := "fnExactVisibilityFor", unfollowed := true, recurses := true, apart := false }
def FnExactVisibilityForSaid : Prop := fnExactVisibilityForRow.holds Try.pinned (OpenSpec.ofChange fnExactVisibilityForSpec)

/-- ITS FALSE NEIGHBOUR: 'it returns false'. Refute it at one input. -/
def fnExactVisibilityForWrong : ChangeSpec := { name := "fnExactVisibilityFor", fn := fun _ => fun
  | [d1, d2] => { results := [.lit (.bool false)], args := [d1, d2] }
  | _ => none }
def FnExactVisibilityForWrongFalsely : Prop := fnExactVisibilityForRow.holds Try.pinned (OpenSpec.ofChange fnExactVisibilityForWrong)

/-- 'laws.FnExactRangeOf': WHATEVER THE INPUT: true; the input reads as it did. -/
def fnExactRangeOfSpec : ChangeSpec := { name := "fnExactRangeOf", fn := fun _ => fun
  | [d1, d2, d3, d4] => { results := [.lit (.bool true)], args := [d1, d2, d3, d4] }
  | _ => none }
def fnExactRangeOfRow : OpenClaim := { program := "ytagebpmciimcgaa", sum := "aac2785ee75a6ef34207ec04f1a9165b8467fa14e140318cd78472cb1f2c8877", func := "loop.example/g00953/laws.FnExactRangeOf", spec := "fnExactRangeOf", unfollowed := true, recurses := true, apart := false }
def FnExactRangeOfSaid : Prop := fnExactRangeOfRow.holds Try.pinned (OpenSpec.ofChange fnExactRangeOfSpec)

/-- ITS FALSE NEIGHBOUR: 'it returns false'. Refute it at one input. -/
def fnExactRangeOfWrong : ChangeSpec := { name := "fnExactRangeOf", fn := fun _ => fun
  | [d1, d2, d3, d4] => { results := [.lit (.bool false)], args := [d1, d2, d3, d4] }
  | _ => none }
def FnExactRangeOfWrongFalsely : Prop := fnExactRangeOfRow.holds Try.pinned (OpenSpec.ofChange fnExactRangeOfWrong)

/- THE SECOND FORM. 'bulk': how many values and letters a reading holds, each counted each time it is reached (what is shared counts as often as it is met; a slice's spare places count too). A statement '..UptoSaid' is the law's where the arguments, and the package variables that the reading takes, are together of bulk at most 1048576: NARROWER than '..Said'. Prove '..Said' where nothing that the law and all that it calls make is longer than what came in: it says more and counts as full. Else prove '..UptoSaid'. A law counts once. -/
mutual
def uptoBulk {H : Type} : DataW H → Nat
  | .lit (.string bytes) => bytes.length + 1
  | .lit _ => 1
  | .nil => 1
  | .ptr d => uptoBulk d + 1
  | .slice elems spare => uptoBulkAll elems + uptoBulkAll spare + 1
  | .agg parts => uptoBulkAll parts + 1
  | .iface _ d => uptoBulk d + 1
  | .map entries => uptoBulkEntries entries + 1
  | .held _ => 1
def uptoBulkAll {H : Type} : List (DataW H) → Nat
  | [] => 0
  | d :: r => uptoBulk d + uptoBulkAll r
def uptoBulkEntries {H : Type} : List (Lit × DataW H) → Nat
  | [] => 0
  | x :: r => uptoBulkEntry x + uptoBulkEntries r
def uptoBulkEntry {H : Type} : Lit × DataW H → Nat
  | (.string bytes, d) => bytes.length + uptoBulk d + 1
  | (_, d) => uptoBulk d + 1
 end
def uptoSmall : (H : Type) → List (DataW H) → Bool := fun _ ds => decide (uptoBulkAll ds ≤ 1048576)
def OpenSpec.upto (s : _root_.Go.ChangeSpec) : _root_.Go.OpenSpec := { _root_.Go.OpenSpec.ofChange s with cond := some uptoSmall }

/-- 'laws.FnGeo', WHERE WHAT IT READS IS OF BULK AT MOST 1048576: true; the input reads as it did. -/
def fnGeoUptoRow : OpenClaim := { program := "ytagebpmciimcgaa", sum := "aac2785ee75a6ef34207ec04f1a9165b8467fa14e140318cd78472cb1f2c8877", func := "loop.example/g00953/laws.FnGeo", spec := "fnGeo", unfollowed := true, recurses := true, apart := false, narrowed := true }
def FnGeoUptoSaid : Prop := fnGeoUptoRow.holds Try.pinned (OpenSpec.upto fnGeoSpec)

/-- 'laws.FnLuminous', WHERE WHAT IT READS IS OF BULK AT MOST 1048576: true; the input reads as it did. -/
def fnLuminousUptoRow : OpenClaim := { program := "ytagebpmciimcgaa", sum := "aac2785ee75a6ef34207ec04f1a9165b8467fa14e140318cd78472cb1f2c8877", func := "loop.example/g00953/laws.FnLuminous", spec := "fnLuminous", unfollowed := true, recurses := true, apart := false, narrowed := true }
def FnLuminousUptoSaid : Prop := fnLuminousUptoRow.holds Try.pinned (OpenSpec.upto fnLuminousSpec)

/-- 'laws.FnExactTenLog', WHERE WHAT IT READS IS OF BULK AT MOST 1048576: true; the input reads as it did. -/
def fnExactTenLogUptoRow : OpenClaim := { program := "ytagebpmciimcgaa", sum := "aac2785ee75a6ef34207ec04f1a9165b8467fa14e140318cd78472cb1f2c8877", func := "loop.example/g00953/laws.FnExactTenLog", spec := "fnExactTenLog", apart := false, narrowed := true }
def FnExactTenLogUptoSaid : Prop := fnExactTenLogUptoRow.holds Try.pinned (OpenSpec.upto fnExactTenLogSpec)

/-- 'laws.FnExactHorizonOf', WHERE WHAT IT READS IS OF BULK AT MOST 1048576: true; the input reads as it did. -/
def fnExactHorizonOfUptoRow : OpenClaim := { program := "ytagebpmciimcgaa", sum := "aac2785ee75a6ef34207ec04f1a9165b8467fa14e140318cd78472cb1f2c8877", func := "loop.example/g00953/laws.FnExactHorizonOf", spec := "fnExactHorizonOf", apart := false, narrowed := true }
def FnExactHorizonOfUptoSaid : Prop := fnExactHorizonOfUptoRow.holds Try.pinned (OpenSpec.upto fnExactHorizonOfSpec)

/-- 'laws.FnExactGeoRange', WHERE WHAT IT READS IS OF BULK AT MOST 1048576: true; the input reads as it did. -/
def fnExactGeoRangeUptoRow : OpenClaim := { program := "ytagebpmciimcgaa", sum := "aac2785ee75a6ef34207ec04f1a9165b8467fa14e140318cd78472cb1f2c8877", func := "loop.example/g00953/laws.FnExactGeoRange", spec := "fnExactGeoRange", apart := false, narrowed := true }
def FnExactGeoRangeUptoSaid : Prop := fnExactGeoRangeUptoRow.holds Try.pinned (OpenSpec.upto fnExactGeoRangeSpec)

/-- 'laws.FnExactEyeFor', WHERE WHAT IT READS IS OF BULK AT MOST 1048576: true; the input reads as it did. -/
def fnExactEyeForUptoRow : OpenClaim := { program := "ytagebpmciimcgaa", sum := "aac2785ee75a6ef34207ec04f1a9165b8467fa14e140318cd78472cb1f2c8877", func := "loop.example/g00953/laws.FnExactEyeFor", spec := "fnExactEyeFor", unfollowed := true, recurses := true, apart := false, narrowed := true }
def FnExactEyeForUptoSaid : Prop := fnExactEyeForUptoRow.holds Try.pinned (OpenSpec.upto fnExactEyeForSpec)

/-- 'laws.FnExactLuminousRange', WHERE WHAT IT READS IS OF BULK AT MOST 1048576: true; the input reads as it did. -/
def fnExactLuminousRangeUptoRow : OpenClaim := { program := "ytagebpmciimcgaa", sum := "aac2785ee75a6ef34207ec04f1a9165b8467fa14e140318cd78472cb1f2c8877", func := "loop.example/g00953/laws.FnExactLuminousRange", spec := "fnExactLuminousRange", unfollowed := true, recurses := true, apart := false, narrowed := true }
def FnExactLuminousRangeUptoSaid : Prop := fnExactLuminousRangeUptoRow.holds Try.pinned (OpenSpec.upto fnExactLuminousRangeSpec)

/-- 'laws.FnExactNominalRange', WHERE WHAT IT READS IS OF BULK AT MOST 1048576: true; the input reads as it did. -/
def fnExactNominalRangeUptoRow : OpenClaim := { program := "ytagebpmciimcgaa", sum := "aac2785ee75a6ef34207ec04f1a9165b8467fa14e140318cd78472cb1f2c8877", func := "loop.example/g00953/laws.FnExactNominalRange", spec := "fnExactNominalRange", unfollowed := true, recurses := true, apart := false, narrowed := true }
def FnExactNominalRangeUptoSaid : Prop := fnExactNominalRangeUptoRow.holds Try.pinned (OpenSpec.upto fnExactNominalRangeSpec)

/-- 'laws.FnExactIntensityFor', WHERE WHAT IT READS IS OF BULK AT MOST 1048576: true; the input reads as it did. -/
def fnExactIntensityForUptoRow : OpenClaim := { program := "ytagebpmciimcgaa", sum := "aac2785ee75a6ef34207ec04f1a9165b8467fa14e140318cd78472cb1f2c8877", func := "loop.example/g00953/laws.FnExactIntensityFor", spec := "fnExactIntensityFor", unfollowed := true, recurses := true, apart := false, narrowed := true }
def FnExactIntensityForUptoSaid : Prop := fnExactIntensityForUptoRow.holds Try.pinned (OpenSpec.upto fnExactIntensityForSpec)

/-- 'laws.FnExactVisibilityFor', WHERE WHAT IT READS IS OF BULK AT MOST 1048576: true; the input reads as it did. -/
def fnExactVisibilityForUptoRow : OpenClaim := { program := "ytagebpmciimcgaa", sum := "aac2785ee75a6ef34207ec04f1a9165b8467fa14e140318cd78472cb1f2c8877", func := "loop.example/g00953/laws.FnExactVisibilityFor", spec := "fnExactVisibilityFor", unfollowed := true, recurses := true, apart := false, narrowed := true }
def FnExactVisibilityForUptoSaid : Prop := fnExactVisibilityForUptoRow.holds Try.pinned (OpenSpec.upto fnExactVisibilityForSpec)

/-- 'laws.FnExactRangeOf', WHERE WHAT IT READS IS OF BULK AT MOST 1048576: true; the input reads as it did. -/
def fnExactRangeOfUptoRow : OpenClaim := { program := "ytagebpmciimcgaa", sum := "aac2785ee75a6ef34207ec04f1a9165b8467fa14e140318cd78472cb1f2c8877", func := "loop.example/g00953/laws.FnExactRangeOf", spec := "fnExactRangeOf", unfollowed := true, recurses := true, apart := false, narrowed := true }
def FnExactRangeOfUptoSaid : Prop := fnExactRangeOfUptoRow.holds Try.pinned (OpenSpec.upto fnExactRangeOfSpec)

end Rows
end Go.Proofs.Ytagebpmciimcgaa
