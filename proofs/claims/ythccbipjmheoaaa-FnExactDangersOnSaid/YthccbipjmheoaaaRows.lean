/-
  No cell of these rows narrows 'for every input' (looked for: loops, veiled, ifaces, maps, wideKeys, modest, calm, conditions, laid).
  DERIVED. THE GIVEN ROWS OF THIS SEAT. 8 by the template 'for every input the law returns true; each argument reads behind the call as it read before'; 0 by the template 'total and deterministic' (their statements: YthccbipjmheoaaaTotals.lean).
  GIVEN WITH THE SEED: the statements are not yours to turn. If you find one false, say at which input.
  Laid BY PROGRAM, IN A SANDBOX (cutbox-rows.mjs): the forced cells as the released guide's own fill.sh prints them over the translation 4e82ac1bc5ccee14… (all of the seat's roots in one cut). By AI agents, Wed Nov 11 2026. No macro, syntax, notation, axiom, sorry.
-/
import Derived.Test.YthccbipjmheoaaaChecked
import GoSem.Claim
import GoSem.ClaimJoined
import GoSem.ClaimMapViews
import Derived.JoinedTies
import Derived.KernelRfl
namespace Go.Proofs.Ythccbipjmheoaaa
/- THE CELL 'sum', in the pinned program and in every row, IS THE sha256 OF THE DUMP (.gsa) THAT YthccbipjmheoaaaProg.lean LOADS. Nothing in Lean hashes anything: it is a label: what it is worth is what the hold of that sum in a sandbox is worth. -/
noncomputable def Try.pinned : Pinned := { name := "ythccbipjmheoaaa", sum := "4e82ac1bc5ccee149cc3c984618c4b2d5ecb7b16a6b2cf832900c9b61c19a9f5", checked := Try.checked }
namespace Rows
def none {H : Type} : Left H := { results := [], args := [] }

/-- 'laws.FnExactInChannel': WHATEVER THE INPUT: true; the input reads as it did. -/
def fnExactInChannelSpec : ChangeSpec := { name := "fnExactInChannel", fn := fun _ => fun
  | [d1, d2] => { results := [.lit (.bool true)], args := [d1, d2] }
  | _ => none }
def fnExactInChannelRow : OpenClaim := { program := "ythccbipjmheoaaa", sum := "4e82ac1bc5ccee149cc3c984618c4b2d5ecb7b16a6b2cf832900c9b61c19a9f5", func := "loop.example/g00953/laws.FnExactInChannel", spec := "fnExactInChannel", unfollowed := true, recurses := true, named := ["math/bits.divideError", "math/bits.overflowError"], apart := false }
def FnExactInChannelSaid : Prop := fnExactInChannelRow.holds Try.pinned (OpenSpec.ofChange fnExactInChannelSpec)

/-- ITS FALSE NEIGHBOUR: 'it returns false'. Refute it at one input. -/
def fnExactInChannelWrong : ChangeSpec := { name := "fnExactInChannel", fn := fun _ => fun
  | [d1, d2] => { results := [.lit (.bool false)], args := [d1, d2] }
  | _ => none }
def FnExactInChannelWrongFalsely : Prop := fnExactInChannelRow.holds Try.pinned (OpenSpec.ofChange fnExactInChannelWrong)

/-- 'laws.FnExactSideOfChannel': WHATEVER THE INPUT: true; the input reads as it did. -/
def fnExactSideOfChannelSpec : ChangeSpec := { name := "fnExactSideOfChannel", fn := fun _ => fun
  | [d1, d2] => { results := [.lit (.bool true)], args := [d1, d2] }
  | _ => none }
def fnExactSideOfChannelRow : OpenClaim := { program := "ythccbipjmheoaaa", sum := "4e82ac1bc5ccee149cc3c984618c4b2d5ecb7b16a6b2cf832900c9b61c19a9f5", func := "loop.example/g00953/laws.FnExactSideOfChannel", spec := "fnExactSideOfChannel", unfollowed := true, recurses := true, named := ["math/bits.divideError", "math/bits.overflowError"], apart := false }
def FnExactSideOfChannelSaid : Prop := fnExactSideOfChannelRow.holds Try.pinned (OpenSpec.ofChange fnExactSideOfChannelSpec)

/-- ITS FALSE NEIGHBOUR: 'it returns false'. Refute it at one input. -/
def fnExactSideOfChannelWrong : ChangeSpec := { name := "fnExactSideOfChannel", fn := fun _ => fun
  | [d1, d2] => { results := [.lit (.bool false)], args := [d1, d2] }
  | _ => none }
def FnExactSideOfChannelWrongFalsely : Prop := fnExactSideOfChannelRow.holds Try.pinned (OpenSpec.ofChange fnExactSideOfChannelWrong)

/-- 'laws.FnExactValidDanger': WHATEVER THE INPUT: true; the input reads as it did. -/
def fnExactValidDangerSpec : ChangeSpec := { name := "fnExactValidDanger", fn := fun _ => fun
  | [d] => { results := [.lit (.bool true)], args := [d] }
  | _ => none }
def fnExactValidDangerRow : OpenClaim := { program := "ythccbipjmheoaaa", sum := "4e82ac1bc5ccee149cc3c984618c4b2d5ecb7b16a6b2cf832900c9b61c19a9f5", func := "loop.example/g00953/laws.FnExactValidDanger", spec := "fnExactValidDanger", apart := false }
def FnExactValidDangerSaid : Prop := fnExactValidDangerRow.holds Try.pinned (OpenSpec.ofChange fnExactValidDangerSpec)

/-- ITS FALSE NEIGHBOUR: 'it returns false'. Refute it at one input. -/
def fnExactValidDangerWrong : ChangeSpec := { name := "fnExactValidDanger", fn := fun _ => fun
  | [d] => { results := [.lit (.bool false)], args := [d] }
  | _ => none }
def FnExactValidDangerWrongFalsely : Prop := fnExactValidDangerRow.holds Try.pinned (OpenSpec.ofChange fnExactValidDangerWrong)

/-- 'laws.FnExactValidDangers': WHATEVER THE INPUT: true; the input reads as it did. -/
def fnExactValidDangersSpec : ChangeSpec := { name := "fnExactValidDangers", fn := fun _ => fun
  | [d] => { results := [.lit (.bool true)], args := [d] }
  | _ => none }
def fnExactValidDangersRow : OpenClaim := { program := "ythccbipjmheoaaa", sum := "4e82ac1bc5ccee149cc3c984618c4b2d5ecb7b16a6b2cf832900c9b61c19a9f5", func := "loop.example/g00953/laws.FnExactValidDangers", spec := "fnExactValidDangers", unfollowed := true, recurses := true, apart := false }
def FnExactValidDangersSaid : Prop := fnExactValidDangersRow.holds Try.pinned (OpenSpec.ofChange fnExactValidDangersSpec)

/-- ITS FALSE NEIGHBOUR: 'it returns false'. Refute it at one input. -/
def fnExactValidDangersWrong : ChangeSpec := { name := "fnExactValidDangers", fn := fun _ => fun
  | [d] => { results := [.lit (.bool false)], args := [d] }
  | _ => none }
def FnExactValidDangersWrongFalsely : Prop := fnExactValidDangersRow.holds Try.pinned (OpenSpec.ofChange fnExactValidDangersWrong)

/-- 'laws.FnExactAddDanger': WHATEVER THE INPUT: true; the input reads as it did. -/
def fnExactAddDangerSpec : ChangeSpec := { name := "fnExactAddDanger", fn := fun _ => fun
  | [d1, d2] => { results := [.lit (.bool true)], args := [d1, d2] }
  | _ => none }
def fnExactAddDangerRow : OpenClaim := { program := "ythccbipjmheoaaa", sum := "4e82ac1bc5ccee149cc3c984618c4b2d5ecb7b16a6b2cf832900c9b61c19a9f5", func := "loop.example/g00953/laws.FnExactAddDanger", spec := "fnExactAddDanger", inPlace := ["internal/bytealg.abigen_runtime_cmpstring"], unfollowed := true, recurses := true, apart := false }
def FnExactAddDangerSaid : Prop := fnExactAddDangerRow.holds Try.pinned (OpenSpec.ofChange fnExactAddDangerSpec)

/-- ITS FALSE NEIGHBOUR: 'it returns false'. Refute it at one input. -/
def fnExactAddDangerWrong : ChangeSpec := { name := "fnExactAddDanger", fn := fun _ => fun
  | [d1, d2] => { results := [.lit (.bool false)], args := [d1, d2] }
  | _ => none }
def FnExactAddDangerWrongFalsely : Prop := fnExactAddDangerRow.holds Try.pinned (OpenSpec.ofChange fnExactAddDangerWrong)

/-- 'laws.FnExactDangersAt': WHATEVER THE INPUT: true; the input reads as it did. -/
def fnExactDangersAtSpec : ChangeSpec := { name := "fnExactDangersAt", fn := fun _ => fun
  | [d1, d2] => { results := [.lit (.bool true)], args := [d1, d2] }
  | _ => none }
def fnExactDangersAtRow : OpenClaim := { program := "ythccbipjmheoaaa", sum := "4e82ac1bc5ccee149cc3c984618c4b2d5ecb7b16a6b2cf832900c9b61c19a9f5", func := "loop.example/g00953/laws.FnExactDangersAt", spec := "fnExactDangersAt", unfollowed := true, recurses := true, apart := false }
def FnExactDangersAtSaid : Prop := fnExactDangersAtRow.holds Try.pinned (OpenSpec.ofChange fnExactDangersAtSpec)

/-- ITS FALSE NEIGHBOUR: 'it returns false'. Refute it at one input. -/
def fnExactDangersAtWrong : ChangeSpec := { name := "fnExactDangersAt", fn := fun _ => fun
  | [d1, d2] => { results := [.lit (.bool false)], args := [d1, d2] }
  | _ => none }
def FnExactDangersAtWrongFalsely : Prop := fnExactDangersAtRow.holds Try.pinned (OpenSpec.ofChange fnExactDangersAtWrong)

/-- 'laws.FnExactClearanceOf': WHATEVER THE INPUT: true; the input reads as it did. -/
def fnExactClearanceOfSpec : ChangeSpec := { name := "fnExactClearanceOf", fn := fun _ => fun
  | [d1, d2] => { results := [.lit (.bool true)], args := [d1, d2] }
  | _ => none }
def fnExactClearanceOfRow : OpenClaim := { program := "ythccbipjmheoaaa", sum := "4e82ac1bc5ccee149cc3c984618c4b2d5ecb7b16a6b2cf832900c9b61c19a9f5", func := "loop.example/g00953/laws.FnExactClearanceOf", spec := "fnExactClearanceOf", unfollowed := true, recurses := true, named := ["math/bits.divideError", "math/bits.overflowError"], apart := false }
def FnExactClearanceOfSaid : Prop := fnExactClearanceOfRow.holds Try.pinned (OpenSpec.ofChange fnExactClearanceOfSpec)

/-- ITS FALSE NEIGHBOUR: 'it returns false'. Refute it at one input. -/
def fnExactClearanceOfWrong : ChangeSpec := { name := "fnExactClearanceOf", fn := fun _ => fun
  | [d1, d2] => { results := [.lit (.bool false)], args := [d1, d2] }
  | _ => none }
def FnExactClearanceOfWrongFalsely : Prop := fnExactClearanceOfRow.holds Try.pinned (OpenSpec.ofChange fnExactClearanceOfWrong)

/-- 'laws.FnExactDangersOn': WHATEVER THE INPUT: true; the input reads as it did. -/
def fnExactDangersOnSpec : ChangeSpec := { name := "fnExactDangersOn", fn := fun _ => fun
  | [d1, d2, d3] => { results := [.lit (.bool true)], args := [d1, d2, d3] }
  | _ => none }
def fnExactDangersOnRow : OpenClaim := { program := "ythccbipjmheoaaa", sum := "4e82ac1bc5ccee149cc3c984618c4b2d5ecb7b16a6b2cf832900c9b61c19a9f5", func := "loop.example/g00953/laws.FnExactDangersOn", spec := "fnExactDangersOn", unfollowed := true, recurses := true, named := ["math/bits.divideError", "math/bits.overflowError"], apart := false }
def FnExactDangersOnSaid : Prop := fnExactDangersOnRow.holds Try.pinned (OpenSpec.ofChange fnExactDangersOnSpec)

/-- ITS FALSE NEIGHBOUR: 'it returns false'. Refute it at one input. -/
def fnExactDangersOnWrong : ChangeSpec := { name := "fnExactDangersOn", fn := fun _ => fun
  | [d1, d2, d3] => { results := [.lit (.bool false)], args := [d1, d2, d3] }
  | _ => none }
def FnExactDangersOnWrongFalsely : Prop := fnExactDangersOnRow.holds Try.pinned (OpenSpec.ofChange fnExactDangersOnWrong)

/- THE SECOND FORM. 'bulk': how many values and letters a reading holds, each counted each time it is reached (what is shared counts as often as it is met; a slice's spare places count too). A statement '..UptoSaid' is the law's where the arguments, and the package variables that the reading takes, are together of bulk at most 1048576: NARROWER than '..Said'. Prove '..Said' where nothing that the law and all that it calls make is longer than what came in: it says more and counts as full. Else prove '..UptoSaid'. A law counts once. -/
mutual
def uptoBulk {H : Type} : DataW H → Nat
  | .lit (.string bytes) => bytes.length + 1
  | .lit _ => 1
  | .nil => 1
  | .ptr d => uptoBulk d + 1
  | .slice elems spare => uptoBulkAll elems + uptoBulkAll spare + 1
  | .agg parts => uptoBulkAll parts + 1
  | .iface _ d => uptoBulk d + 1
  | .map entries => uptoBulkEntries entries + 1
  | .held _ => 1
def uptoBulkAll {H : Type} : List (DataW H) → Nat
  | [] => 0
  | d :: r => uptoBulk d + uptoBulkAll r
def uptoBulkEntries {H : Type} : List (Lit × DataW H) → Nat
  | [] => 0
  | x :: r => uptoBulkEntry x + uptoBulkEntries r
def uptoBulkEntry {H : Type} : Lit × DataW H → Nat
  | (.string bytes, d) => bytes.length + uptoBulk d + 1
  | (_, d) => uptoBulk d + 1
 end
def uptoSmall : (H : Type) → List (DataW H) → Bool := fun _ ds => decide (uptoBulkAll ds ≤ 1048576)
def OpenSpec.upto (s : _root_.Go.ChangeSpec) : _root_.Go.OpenSpec := { _root_.Go.OpenSpec.ofChange s with cond := some uptoSmall }

/-- 'laws.FnExactInChannel', WHERE WHAT IT READS IS OF BULK AT MOST 1048576: true; the input reads as it did. -/
def fnExactInChannelUptoRow : OpenClaim := { program := "ythccbipjmheoaaa", sum := "4e82ac1bc5ccee149cc3c984618c4b2d5ecb7b16a6b2cf832900c9b61c19a9f5", func := "loop.example/g00953/laws.FnExactInChannel", spec := "fnExactInChannel", unfollowed := true, recurses := true, named := ["math/bits.divideError", "math/bits.overflowError"], apart := false, narrowed := true }
def FnExactInChannelUptoSaid : Prop := fnExactInChannelUptoRow.holds Try.pinned (OpenSpec.upto fnExactInChannelSpec)

/-- 'laws.FnExactSideOfChannel', WHERE WHAT IT READS IS OF BULK AT MOST 1048576: true; the input reads as it did. -/
def fnExactSideOfChannelUptoRow : OpenClaim := { program := "ythccbipjmheoaaa", sum := "4e82ac1bc5ccee149cc3c984618c4b2d5ecb7b16a6b2cf832900c9b61c19a9f5", func := "loop.example/g00953/laws.FnExactSideOfChannel", spec := "fnExactSideOfChannel", unfollowed := true, recurses := true, named := ["math/bits.divideError", "math/bits.overflowError"], apart := false, narrowed := true }
def FnExactSideOfChannelUptoSaid : Prop := fnExactSideOfChannelUptoRow.holds Try.pinned (OpenSpec.upto fnExactSideOfChannelSpec)

/-- 'laws.FnExactValidDanger', WHERE WHAT IT READS IS OF BULK AT MOST 1048576: true; the input reads as it did. -/
def fnExactValidDangerUptoRow : OpenClaim := { program := "ythccbipjmheoaaa", sum := "4e82ac1bc5ccee149cc3c984618c4b2d5ecb7b16a6b2cf832900c9b61c19a9f5", func := "loop.example/g00953/laws.FnExactValidDanger", spec := "fnExactValidDanger", apart := false, narrowed := true }
def FnExactValidDangerUptoSaid : Prop := fnExactValidDangerUptoRow.holds Try.pinned (OpenSpec.upto fnExactValidDangerSpec)

/-- 'laws.FnExactValidDangers', WHERE WHAT IT READS IS OF BULK AT MOST 1048576: true; the input reads as it did. -/
def fnExactValidDangersUptoRow : OpenClaim := { program := "ythccbipjmheoaaa", sum := "4e82ac1bc5ccee149cc3c984618c4b2d5ecb7b16a6b2cf832900c9b61c19a9f5", func := "loop.example/g00953/laws.FnExactValidDangers", spec := "fnExactValidDangers", unfollowed := true, recurses := true, apart := false, narrowed := true }
def FnExactValidDangersUptoSaid : Prop := fnExactValidDangersUptoRow.holds Try.pinned (OpenSpec.upto fnExactValidDangersSpec)

/-- 'laws.FnExactAddDanger', WHERE WHAT IT READS IS OF BULK AT MOST 1048576: true; the input reads as it did. -/
def fnExactAddDangerUptoRow : OpenClaim := { program := "ythccbipjmheoaaa", sum := "4e82ac1bc5ccee149cc3c984618c4b2d5ecb7b16a6b2cf832900c9b61c19a9f5", func := "loop.example/g00953/laws.FnExactAddDanger", spec := "fnExactAddDanger", inPlace := ["internal/bytealg.abigen_runtime_cmpstring"], unfollowed := true, recurses := true, apart := false, narrowed := true }
def FnExactAddDangerUptoSaid : Prop := fnExactAddDangerUptoRow.holds Try.pinned (OpenSpec.upto fnExactAddDangerSpec)

/-- 'laws.FnExactDangersAt', WHERE WHAT IT READS IS OF BULK AT MOST 1048576: true; the input reads as it did. -/
def fnExactDangersAtUptoRow : OpenClaim := { program := "ythccbipjmheoaaa", sum := "4e82ac1bc5ccee149cc3c984618c4b2d5ecb7b16a6b2cf832900c9b61c19a9f5", func := "loop.example/g00953/laws.FnExactDangersAt", spec := "fnExactDangersAt", unfollowed := true, recurses := true, apart := false, narrowed := true }
def FnExactDangersAtUptoSaid : Prop := fnExactDangersAtUptoRow.holds Try.pinned (OpenSpec.upto fnExactDangersAtSpec)

/-- 'laws.FnExactClearanceOf', WHERE WHAT IT READS IS OF BULK AT MOST 1048576: true; the input reads as it did. -/
def fnExactClearanceOfUptoRow : OpenClaim := { program := "ythccbipjmheoaaa", sum := "4e82ac1bc5ccee149cc3c984618c4b2d5ecb7b16a6b2cf832900c9b61c19a9f5", func := "loop.example/g00953/laws.FnExactClearanceOf", spec := "fnExactClearanceOf", unfollowed := true, recurses := true, named := ["math/bits.divideError", "math/bits.overflowError"], apart := false, narrowed := true }
def FnExactClearanceOfUptoSaid : Prop := fnExactClearanceOfUptoRow.holds Try.pinned (OpenSpec.upto fnExactClearanceOfSpec)

/-- 'laws.FnExactDangersOn', WHERE WHAT IT READS IS OF BULK AT MOST 1048576: true; the input reads as it did. -/
def fnExactDangersOnUptoRow : OpenClaim := { program := "ythccbipjmheoaaa", sum := "4e82ac1bc5ccee149cc3c984618c4b2d5ecb7b16a6b2cf832900c9b61c19a9f5", func := "loop.example/g00953/laws.FnExactDangersOn", spec := "fnExactDangersOn", unfollowed := true, recurses := true, named := ["math/bits.divideError", "math/bits.overflowError"], apart := false, narrowed := true }
def FnExactDangersOnUptoSaid : Prop := fnExactDangersOnUptoRow.holds Try.pinned (OpenSpec.upto fnExactDangersOnSpec)

end Rows
end Go.Proofs.Ythccbipjmheoaaa
