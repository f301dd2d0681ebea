/-
  No cell of these rows narrows 'for every input' (looked for: loops, veiled, ifaces, maps, wideKeys, modest, calm, conditions, laid).
  DERIVED. THE GIVEN ROWS OF THIS SEAT. 10 by the template 'for every input the law returns true; each argument reads behind the call as it read before'; 0 by the template 'total and deterministic' (their statements: YtclbpjjnhfllkaaTotals.lean).
  GIVEN WITH THE SEED: the statements are not yours to turn. If you find one false, say at which input.
  Laid BY PROGRAM, IN A SANDBOX (cutbox-rows.mjs): the forced cells as the released guide's own fill.sh prints them over the translation 4fcc38ab5dcf3140… (all of the seat's roots in one cut). By AI agents, Wed Nov 11 2026. No macro, syntax, notation, axiom, sorry.
-/
import Derived.Test.YtclbpjjnhfllkaaChecked
import GoSem.Claim
import GoSem.ClaimJoined
import GoSem.ClaimMapViews
import Derived.JoinedTies
import Derived.KernelRfl
namespace Go.Proofs.Ytclbpjjnhfllkaa
/- THE CELL 'sum', in the pinned program and in every row, IS THE sha256 OF THE DUMP (.gsa) THAT YtclbpjjnhfllkaaProg.lean LOADS. Nothing in Lean hashes anything: it is a label: what it is worth is what the hold of that sum in a sandbox is worth. -/
noncomputable def Try.pinned : Pinned := { name := "ytclbpjjnhfllkaa", sum := "4fcc38ab5dcf3140ca8cf52d8a855e8ff05d0a805a66b22464a4432f5eb40ebd", checked := Try.checked }
namespace Rows
def none {H : Type} : Left H := { results := [], args := [] }

/-- 'laws.FnExactValidSector': WHATEVER THE INPUT: true; the input reads as it did. -/
def fnExactValidSectorSpec : ChangeSpec := { name := "fnExactValidSector", fn := fun _ => fun
  | [d] => { results := [.lit (.bool true)], args := [d] }
  | _ => none }
def fnExactValidSectorRow : OpenClaim := { program := "ytclbpjjnhfllkaa", sum := "4fcc38ab5dcf3140ca8cf52d8a855e8ff05d0a805a66b22464a4432f5eb40ebd", func := "loop.example/g00953/laws.FnExactValidSector", spec := "fnExactValidSector", inPlace := ["internal/bytealg.IndexByteString", "internal/bytealg.IndexString"], named := ["internal/bytealg.MaxLen"], apart := false }
def FnExactValidSectorSaid : Prop := fnExactValidSectorRow.holds Try.pinned (OpenSpec.ofChange fnExactValidSectorSpec)

/-- ITS FALSE NEIGHBOUR: 'it returns false'. Refute it at one input. -/
def fnExactValidSectorWrong : ChangeSpec := { name := "fnExactValidSector", fn := fun _ => fun
  | [d] => { results := [.lit (.bool false)], args := [d] }
  | _ => none }
def FnExactValidSectorWrongFalsely : Prop := fnExactValidSectorRow.holds Try.pinned (OpenSpec.ofChange fnExactValidSectorWrong)

/-- 'laws.FnExactValidSectors': WHATEVER THE INPUT: true; the input reads as it did. -/
def fnExactValidSectorsSpec : ChangeSpec := { name := "fnExactValidSectors", fn := fun _ => fun
  | [d] => { results := [.lit (.bool true)], args := [d] }
  | _ => none }
def fnExactValidSectorsRow : OpenClaim := { program := "ytclbpjjnhfllkaa", sum := "4fcc38ab5dcf3140ca8cf52d8a855e8ff05d0a805a66b22464a4432f5eb40ebd", func := "loop.example/g00953/laws.FnExactValidSectors", spec := "fnExactValidSectors", inPlace := ["internal/bytealg.IndexByteString", "internal/bytealg.IndexString"], named := ["internal/bytealg.MaxLen"], apart := false }
def FnExactValidSectorsSaid : Prop := fnExactValidSectorsRow.holds Try.pinned (OpenSpec.ofChange fnExactValidSectorsSpec)

/-- ITS FALSE NEIGHBOUR: 'it returns false'. Refute it at one input. -/
def fnExactValidSectorsWrong : ChangeSpec := { name := "fnExactValidSectors", fn := fun _ => fun
  | [d] => { results := [.lit (.bool false)], args := [d] }
  | _ => none }
def FnExactValidSectorsWrongFalsely : Prop := fnExactValidSectorsRow.holds Try.pinned (OpenSpec.ofChange fnExactValidSectorsWrong)

/-- 'laws.FnExactSameSectors': WHATEVER THE INPUT: true; the input reads as it did. -/
def fnExactSameSectorsSpec : ChangeSpec := { name := "fnExactSameSectors", fn := fun _ => fun
  | [d1, d2] => { results := [.lit (.bool true)], args := [d1, d2] }
  | _ => none }
def fnExactSameSectorsRow : OpenClaim := { program := "ytclbpjjnhfllkaa", sum := "4fcc38ab5dcf3140ca8cf52d8a855e8ff05d0a805a66b22464a4432f5eb40ebd", func := "loop.example/g00953/laws.FnExactSameSectors", spec := "fnExactSameSectors", apart := false }
def FnExactSameSectorsSaid : Prop := fnExactSameSectorsRow.holds Try.pinned (OpenSpec.ofChange fnExactSameSectorsSpec)

/-- ITS FALSE NEIGHBOUR: 'it returns false'. Refute it at one input. -/
def fnExactSameSectorsWrong : ChangeSpec := { name := "fnExactSameSectors", fn := fun _ => fun
  | [d1, d2] => { results := [.lit (.bool false)], args := [d1, d2] }
  | _ => none }
def FnExactSameSectorsWrongFalsely : Prop := fnExactSameSectorsRow.holds Try.pinned (OpenSpec.ofChange fnExactSameSectorsWrong)

/-- 'laws.FnExactArcOf': WHATEVER THE INPUT: true; the input reads as it did. -/
def fnExactArcOfSpec : ChangeSpec := { name := "fnExactArcOf", fn := fun _ => fun
  | [d] => { results := [.lit (.bool true)], args := [d] }
  | _ => none }
def fnExactArcOfRow : OpenClaim := { program := "ytclbpjjnhfllkaa", sum := "4fcc38ab5dcf3140ca8cf52d8a855e8ff05d0a805a66b22464a4432f5eb40ebd", func := "loop.example/g00953/laws.FnExactArcOf", spec := "fnExactArcOf", apart := false }
def FnExactArcOfSaid : Prop := fnExactArcOfRow.holds Try.pinned (OpenSpec.ofChange fnExactArcOfSpec)

/-- ITS FALSE NEIGHBOUR: 'it returns false'. Refute it at one input. -/
def fnExactArcOfWrong : ChangeSpec := { name := "fnExactArcOf", fn := fun _ => fun
  | [d] => { results := [.lit (.bool false)], args := [d] }
  | _ => none }
def FnExactArcOfWrongFalsely : Prop := fnExactArcOfRow.holds Try.pinned (OpenSpec.ofChange fnExactArcOfWrong)

/-- 'laws.FnExactColorAt': WHATEVER THE INPUT: true; the input reads as it did. -/
def fnExactColorAtSpec : ChangeSpec := { name := "fnExactColorAt", fn := fun _ => fun
  | [d1, d2] => { results := [.lit (.bool true)], args := [d1, d2] }
  | _ => none }
def fnExactColorAtRow : OpenClaim := { program := "ytclbpjjnhfllkaa", sum := "4fcc38ab5dcf3140ca8cf52d8a855e8ff05d0a805a66b22464a4432f5eb40ebd", func := "loop.example/g00953/laws.FnExactColorAt", spec := "fnExactColorAt", inPlace := ["internal/bytealg.IndexByteString", "internal/bytealg.IndexString"], named := ["internal/bytealg.MaxLen"], apart := false }
def FnExactColorAtSaid : Prop := fnExactColorAtRow.holds Try.pinned (OpenSpec.ofChange fnExactColorAtSpec)

/-- ITS FALSE NEIGHBOUR: 'it returns false'. Refute it at one input. -/
def fnExactColorAtWrong : ChangeSpec := { name := "fnExactColorAt", fn := fun _ => fun
  | [d1, d2] => { results := [.lit (.bool false)], args := [d1, d2] }
  | _ => none }
def FnExactColorAtWrongFalsely : Prop := fnExactColorAtRow.holds Try.pinned (OpenSpec.ofChange fnExactColorAtWrong)

/-- 'laws.FnExactLitArc': WHATEVER THE INPUT: true; the input reads as it did. -/
def fnExactLitArcSpec : ChangeSpec := { name := "fnExactLitArc", fn := fun _ => fun
  | [d] => { results := [.lit (.bool true)], args := [d] }
  | _ => none }
def fnExactLitArcRow : OpenClaim := { program := "ytclbpjjnhfllkaa", sum := "4fcc38ab5dcf3140ca8cf52d8a855e8ff05d0a805a66b22464a4432f5eb40ebd", func := "loop.example/g00953/laws.FnExactLitArc", spec := "fnExactLitArc", inPlace := ["internal/bytealg.IndexByteString", "internal/bytealg.IndexString"], named := ["internal/bytealg.MaxLen"], apart := false }
def FnExactLitArcSaid : Prop := fnExactLitArcRow.holds Try.pinned (OpenSpec.ofChange fnExactLitArcSpec)

/-- ITS FALSE NEIGHBOUR: 'it returns false'. Refute it at one input. -/
def fnExactLitArcWrong : ChangeSpec := { name := "fnExactLitArc", fn := fun _ => fun
  | [d] => { results := [.lit (.bool false)], args := [d] }
  | _ => none }
def FnExactLitArcWrongFalsely : Prop := fnExactLitArcRow.holds Try.pinned (OpenSpec.ofChange fnExactLitArcWrong)

/-- 'laws.FnExactDarkArcs': WHATEVER THE INPUT: true; the input reads as it did. -/
def fnExactDarkArcsSpec : ChangeSpec := { name := "fnExactDarkArcs", fn := fun _ => fun
  | [d] => { results := [.lit (.bool true)], args := [d] }
  | _ => none }
def fnExactDarkArcsRow : OpenClaim := { program := "ytclbpjjnhfllkaa", sum := "4fcc38ab5dcf3140ca8cf52d8a855e8ff05d0a805a66b22464a4432f5eb40ebd", func := "loop.example/g00953/laws.FnExactDarkArcs", spec := "fnExactDarkArcs", inPlace := ["internal/bytealg.IndexByteString", "internal/bytealg.IndexString"], unfollowed := true, recurses := true, named := ["internal/bytealg.MaxLen"], apart := false }
def FnExactDarkArcsSaid : Prop := fnExactDarkArcsRow.holds Try.pinned (OpenSpec.ofChange fnExactDarkArcsSpec)

/-- ITS FALSE NEIGHBOUR: 'it returns false'. Refute it at one input. -/
def fnExactDarkArcsWrong : ChangeSpec := { name := "fnExactDarkArcs", fn := fun _ => fun
  | [d] => { results := [.lit (.bool false)], args := [d] }
  | _ => none }
def FnExactDarkArcsWrongFalsely : Prop := fnExactDarkArcsRow.holds Try.pinned (OpenSpec.ofChange fnExactDarkArcsWrong)

/-- 'laws.FnExactMergeSectors': WHATEVER THE INPUT: true; the input reads as it did. -/
def fnExactMergeSectorsSpec : ChangeSpec := { name := "fnExactMergeSectors", fn := fun _ => fun
  | [d] => { results := [.lit (.bool true)], args := [d] }
  | _ => none }
def fnExactMergeSectorsRow : OpenClaim := { program := "ytclbpjjnhfllkaa", sum := "4fcc38ab5dcf3140ca8cf52d8a855e8ff05d0a805a66b22464a4432f5eb40ebd", func := "loop.example/g00953/laws.FnExactMergeSectors", spec := "fnExactMergeSectors", inPlace := ["internal/bytealg.IndexByteString", "internal/bytealg.IndexString"], unfollowed := true, recurses := true, named := ["internal/bytealg.MaxLen"], apart := false }
def FnExactMergeSectorsSaid : Prop := fnExactMergeSectorsRow.holds Try.pinned (OpenSpec.ofChange fnExactMergeSectorsSpec)

/-- ITS FALSE NEIGHBOUR: 'it returns false'. Refute it at one input. -/
def fnExactMergeSectorsWrong : ChangeSpec := { name := "fnExactMergeSectors", fn := fun _ => fun
  | [d] => { results := [.lit (.bool false)], args := [d] }
  | _ => none }
def FnExactMergeSectorsWrongFalsely : Prop := fnExactMergeSectorsRow.holds Try.pinned (OpenSpec.ofChange fnExactMergeSectorsWrong)

/-- 'laws.FnExactPaintSector': WHATEVER THE INPUT: true; the input reads as it did. -/
def fnExactPaintSectorSpec : ChangeSpec := { name := "fnExactPaintSector", fn := fun _ => fun
  | [d1, d2] => { results := [.lit (.bool true)], args := [d1, d2] }
  | _ => none }
def fnExactPaintSectorRow : OpenClaim := { program := "ytclbpjjnhfllkaa", sum := "4fcc38ab5dcf3140ca8cf52d8a855e8ff05d0a805a66b22464a4432f5eb40ebd", func := "loop.example/g00953/laws.FnExactPaintSector", spec := "fnExactPaintSector", inPlace := ["internal/bytealg.IndexByteString", "internal/bytealg.IndexString"], unfollowed := true, recurses := true, named := ["internal/bytealg.MaxLen"], apart := false }
def FnExactPaintSectorSaid : Prop := fnExactPaintSectorRow.holds Try.pinned (OpenSpec.ofChange fnExactPaintSectorSpec)

/-- ITS FALSE NEIGHBOUR: 'it returns false'. Refute it at one input. -/
def fnExactPaintSectorWrong : ChangeSpec := { name := "fnExactPaintSector", fn := fun _ => fun
  | [d1, d2] => { results := [.lit (.bool false)], args := [d1, d2] }
  | _ => none }
def FnExactPaintSectorWrongFalsely : Prop := fnExactPaintSectorRow.holds Try.pinned (OpenSpec.ofChange fnExactPaintSectorWrong)

/-- 'laws.FnExactTurnSectors': WHATEVER THE INPUT: true; the input reads as it did. -/
def fnExactTurnSectorsSpec : ChangeSpec := { name := "fnExactTurnSectors", fn := fun _ => fun
  | [d1, d2] => { results := [.lit (.bool true)], args := [d1, d2] }
  | _ => none }
def fnExactTurnSectorsRow : OpenClaim := { program := "ytclbpjjnhfllkaa", sum := "4fcc38ab5dcf3140ca8cf52d8a855e8ff05d0a805a66b22464a4432f5eb40ebd", func := "loop.example/g00953/laws.FnExactTurnSectors", spec := "fnExactTurnSectors", inPlace := ["internal/bytealg.IndexByteString", "internal/bytealg.IndexString"], unfollowed := true, recurses := true, named := ["internal/bytealg.MaxLen"], apart := false }
def FnExactTurnSectorsSaid : Prop := fnExactTurnSectorsRow.holds Try.pinned (OpenSpec.ofChange fnExactTurnSectorsSpec)

/-- ITS FALSE NEIGHBOUR: 'it returns false'. Refute it at one input. -/
def fnExactTurnSectorsWrong : ChangeSpec := { name := "fnExactTurnSectors", fn := fun _ => fun
  | [d1, d2] => { results := [.lit (.bool false)], args := [d1, d2] }
  | _ => none }
def FnExactTurnSectorsWrongFalsely : Prop := fnExactTurnSectorsRow.holds Try.pinned (OpenSpec.ofChange fnExactTurnSectorsWrong)

/- THE SECOND FORM. 'bulk': how many values and letters a reading holds, each counted each time it is reached (what is shared counts as often as it is met; a slice's spare places count too). A statement '..UptoSaid' is the law's where the arguments, and the package variables that the reading takes, are together of bulk at most 1048576: NARROWER than '..Said'. Prove '..Said' where nothing that the law and all that it calls make is longer than what came in: it says more and counts as full. Else prove '..UptoSaid'. A law counts once. -/
mutual
def uptoBulk {H : Type} : DataW H → Nat
  | .lit (.string bytes) => bytes.length + 1
  | .lit _ => 1
  | .nil => 1
  | .ptr d => uptoBulk d + 1
  | .slice elems spare => uptoBulkAll elems + uptoBulkAll spare + 1
  | .agg parts => uptoBulkAll parts + 1
  | .iface _ d => uptoBulk d + 1
  | .map entries => uptoBulkEntries entries + 1
  | .held _ => 1
def uptoBulkAll {H : Type} : List (DataW H) → Nat
  | [] => 0
  | d :: r => uptoBulk d + uptoBulkAll r
def uptoBulkEntries {H : Type} : List (Lit × DataW H) → Nat
  | [] => 0
  | x :: r => uptoBulkEntry x + uptoBulkEntries r
def uptoBulkEntry {H : Type} : Lit × DataW H → Nat
  | (.string bytes, d) => bytes.length + uptoBulk d + 1
  | (_, d) => uptoBulk d + 1
 end
def uptoSmall : (H : Type) → List (DataW H) → Bool := fun _ ds => decide (uptoBulkAll ds ≤ 1048576)
def OpenSpec.upto (s : _root_.Go.ChangeSpec) : _root_.Go.OpenSpec := { _root_.Go.OpenSpec.ofChange s with cond := some uptoSmall }

/-- 'laws.FnExactValidSector', WHERE WHAT IT READS IS OF BULK AT MOST 1048576: true; the input reads as it did. -/
def fnExactValidSectorUptoRow : OpenClaim := { program := "ytclbpjjnhfllkaa", sum := "4fcc38ab5dcf3140ca8cf52d8a855e8ff05d0a805a66b22464a4432f5eb40ebd", func := "loop.example/g00953/laws.FnExactValidSector", spec := "fnExactValidSector", inPlace := ["internal/bytealg.IndexByteString", "internal/bytealg.IndexString"], named := ["internal/bytealg.MaxLen"], apart := false, narrowed := true }
def FnExactValidSectorUptoSaid : Prop := fnExactValidSectorUptoRow.holds Try.pinned (OpenSpec.upto fnExactValidSectorSpec)

/-- 'laws.FnExactValidSectors', WHERE WHAT IT READS IS OF BULK AT MOST 1048576: true; the input reads as it did. -/
def fnExactValidSectorsUptoRow : OpenClaim := { program := "ytclbpjjnhfllkaa", sum := "4fcc38ab5dcf3140ca8cf52d8a855e8ff05d0a805a66b22464a4432f5eb40ebd", func := "loop.example/g00953/laws.FnExactValidSectors", spec := "fnExactValidSectors", inPlace := ["internal/bytealg.IndexByteString", "internal/bytealg.IndexString"], named := ["internal/bytealg.MaxLen"], apart := false, narrowed := true }
def FnExactValidSectorsUptoSaid : Prop := fnExactValidSectorsUptoRow.holds Try.pinned (OpenSpec.upto fnExactValidSectorsSpec)

/-- 'laws.FnExactSameSectors', WHERE WHAT IT READS IS OF BULK AT MOST 1048576: true; the input reads as it did. -/
def fnExactSameSectorsUptoRow : OpenClaim := { program := "ytclbpjjnhfllkaa", sum := "4fcc38ab5dcf3140ca8cf52d8a855e8ff05d0a805a66b22464a4432f5eb40ebd", func := "loop.example/g00953/laws.FnExactSameSectors", spec := "fnExactSameSectors", apart := false, narrowed := true }
def FnExactSameSectorsUptoSaid : Prop := fnExactSameSectorsUptoRow.holds Try.pinned (OpenSpec.upto fnExactSameSectorsSpec)

/-- 'laws.FnExactArcOf', WHERE WHAT IT READS IS OF BULK AT MOST 1048576: true; the input reads as it did. -/
def fnExactArcOfUptoRow : OpenClaim := { program := "ytclbpjjnhfllkaa", sum := "4fcc38ab5dcf3140ca8cf52d8a855e8ff05d0a805a66b22464a4432f5eb40ebd", func := "loop.example/g00953/laws.FnExactArcOf", spec := "fnExactArcOf", apart := false, narrowed := true }
def FnExactArcOfUptoSaid : Prop := fnExactArcOfUptoRow.holds Try.pinned (OpenSpec.upto fnExactArcOfSpec)

/-- 'laws.FnExactColorAt', WHERE WHAT IT READS IS OF BULK AT MOST 1048576: true; the input reads as it did. -/
def fnExactColorAtUptoRow : OpenClaim := { program := "ytclbpjjnhfllkaa", sum := "4fcc38ab5dcf3140ca8cf52d8a855e8ff05d0a805a66b22464a4432f5eb40ebd", func := "loop.example/g00953/laws.FnExactColorAt", spec := "fnExactColorAt", inPlace := ["internal/bytealg.IndexByteString", "internal/bytealg.IndexString"], named := ["internal/bytealg.MaxLen"], apart := false, narrowed := true }
def FnExactColorAtUptoSaid : Prop := fnExactColorAtUptoRow.holds Try.pinned (OpenSpec.upto fnExactColorAtSpec)

/-- 'laws.FnExactLitArc', WHERE WHAT IT READS IS OF BULK AT MOST 1048576: true; the input reads as it did. -/
def fnExactLitArcUptoRow : OpenClaim := { program := "ytclbpjjnhfllkaa", sum := "4fcc38ab5dcf3140ca8cf52d8a855e8ff05d0a805a66b22464a4432f5eb40ebd", func := "loop.example/g00953/laws.FnExactLitArc", spec := "fnExactLitArc", inPlace := ["internal/bytealg.IndexByteString", "internal/bytealg.IndexString"], named := ["internal/bytealg.MaxLen"], apart := false, narrowed := true }
def FnExactLitArcUptoSaid : Prop := fnExactLitArcUptoRow.holds Try.pinned (OpenSpec.upto fnExactLitArcSpec)

/-- 'laws.FnExactDarkArcs', WHERE WHAT IT READS IS OF BULK AT MOST 1048576: true; the input reads as it did. -/
def fnExactDarkArcsUptoRow : OpenClaim := { program := "ytclbpjjnhfllkaa", sum := "4fcc38ab5dcf3140ca8cf52d8a855e8ff05d0a805a66b22464a4432f5eb40ebd", func := "loop.example/g00953/laws.FnExactDarkArcs", spec := "fnExactDarkArcs", inPlace := ["internal/bytealg.IndexByteString", "internal/bytealg.IndexString"], unfollowed := true, recurses := true, named := ["internal/bytealg.MaxLen"], apart := false, narrowed := true }
def FnExactDarkArcsUptoSaid : Prop := fnExactDarkArcsUptoRow.holds Try.pinned (OpenSpec.upto fnExactDarkArcsSpec)

/-- 'laws.FnExactMergeSectors', WHERE WHAT IT READS IS OF BULK AT MOST 1048576: true; the input reads as it did. -/
def fnExactMergeSectorsUptoRow : OpenClaim := { program := "ytclbpjjnhfllkaa", sum := "4fcc38ab5dcf3140ca8cf52d8a855e8ff05d0a805a66b22464a4432f5eb40ebd", func := "loop.example/g00953/laws.FnExactMergeSectors", spec := "fnExactMergeSectors", inPlace := ["internal/bytealg.IndexByteString", "internal/bytealg.IndexString"], unfollowed := true, recurses := true, named := ["internal/bytealg.MaxLen"], apart := false, narrowed := true }
def FnExactMergeSectorsUptoSaid : Prop := fnExactMergeSectorsUptoRow.holds Try.pinned (OpenSpec.upto fnExactMergeSectorsSpec)

/-- 'laws.FnExactPaintSector', WHERE WHAT IT READS IS OF BULK AT MOST 1048576: true; the input reads as it did. -/
def fnExactPaintSectorUptoRow : OpenClaim := { program := "ytclbpjjnhfllkaa", sum := "4fcc38ab5dcf3140ca8cf52d8a855e8ff05d0a805a66b22464a4432f5eb40ebd", func := "loop.example/g00953/laws.FnExactPaintSector", spec := "fnExactPaintSector", inPlace := ["internal/bytealg.IndexByteString", "internal/bytealg.IndexString"], unfollowed := true, recurses := true, named := ["internal/bytealg.MaxLen"], apart := false, narrowed := true }
def FnExactPaintSectorUptoSaid : Prop := fnExactPaintSectorUptoRow.holds Try.pinned (OpenSpec.upto fnExactPaintSectorSpec)

/-- 'laws.FnExactTurnSectors', WHERE WHAT IT READS IS OF BULK AT MOST 1048576: true; the input reads as it did. -/
def fnExactTurnSectorsUptoRow : OpenClaim := { program := "ytclbpjjnhfllkaa", sum := "4fcc38ab5dcf3140ca8cf52d8a855e8ff05d0a805a66b22464a4432f5eb40ebd", func := "loop.example/g00953/laws.FnExactTurnSectors", spec := "fnExactTurnSectors", inPlace := ["internal/bytealg.IndexByteString", "internal/bytealg.IndexString"], unfollowed := true, recurses := true, named := ["internal/bytealg.MaxLen"], apart := false, narrowed := true }
def FnExactTurnSectorsUptoSaid : Prop := fnExactTurnSectorsUptoRow.holds Try.pinned (OpenSpec.upto fnExactTurnSectorsSpec)

end Rows
end Go.Proofs.Ytclbpjjnhfllkaa
