/-
  No cell of these rows narrows 'for every input' (looked for: loops, veiled, ifaces, maps, wideKeys, modest, calm, conditions, laid).
  DERIVED. THE GIVEN ROWS OF THIS SEAT. 8 by the template 'for every input the law returns true; each argument reads behind the call as it read before'; 0 by the template 'total and deterministic' (their statements: YtcoldhdghcdaeaaTotals.lean).
  GIVEN WITH THE SEED: the statements are not yours to turn. If you find one false, say at which input.
  Laid BY PROGRAM, IN A SANDBOX (cutbox-rows.mjs): the forced cells as the released guide's own fill.sh prints them over the translation 084aa1327efbcc42… (all of the seat's roots in one cut). By AI agents, Wed Nov 11 2026. No macro, syntax, notation, axiom, sorry.
-/
import Derived.Test.YtcoldhdghcdaeaaChecked
import GoSem.Claim
import GoSem.ClaimJoined
import GoSem.ClaimMapViews
import Derived.JoinedTies
import Derived.KernelRfl
namespace Go.Proofs.Ytcoldhdghcdaeaa
/- THE CELL 'sum', in the pinned program and in every row, IS THE sha256 OF THE DUMP (.gsa) THAT YtcoldhdghcdaeaaProg.lean LOADS. Nothing in Lean hashes anything: it is a label: what it is worth is what the hold of that sum in a sandbox is worth. -/
noncomputable def Try.pinned : Pinned := { name := "ytcoldhdghcdaeaa", sum := "084aa1327efbcc421068cd4b84696e455d951f99c80534b7d9c82aec8205df2c", checked := Try.checked }
namespace Rows
def none {H : Type} : Left H := { results := [], args := [] }

/-- 'laws.FnExactValidChannel': WHATEVER THE INPUT: true; the input reads as it did. -/
def fnExactValidChannelSpec : ChangeSpec := { name := "fnExactValidChannel", fn := fun _ => fun
  | [d] => { results := [.lit (.bool true)], args := [d] }
  | _ => none }
def fnExactValidChannelRow : OpenClaim := { program := "ytcoldhdghcdaeaa", sum := "084aa1327efbcc421068cd4b84696e455d951f99c80534b7d9c82aec8205df2c", func := "loop.example/g00953/laws.FnExactValidChannel", spec := "fnExactValidChannel", unfollowed := true, recurses := true, apart := false }
def FnExactValidChannelSaid : Prop := fnExactValidChannelRow.holds Try.pinned (OpenSpec.ofChange fnExactValidChannelSpec)

/-- ITS FALSE NEIGHBOUR: 'it returns false'. Refute it at one input. -/
def fnExactValidChannelWrong : ChangeSpec := { name := "fnExactValidChannel", fn := fun _ => fun
  | [d] => { results := [.lit (.bool false)], args := [d] }
  | _ => none }
def FnExactValidChannelWrongFalsely : Prop := fnExactValidChannelRow.holds Try.pinned (OpenSpec.ofChange fnExactValidChannelWrong)

/-- 'laws.FnExactSameChannel': WHATEVER THE INPUT: true; the input reads as it did. -/
def fnExactSameChannelSpec : ChangeSpec := { name := "fnExactSameChannel", fn := fun _ => fun
  | [d1, d2] => { results := [.lit (.bool true)], args := [d1, d2] }
  | _ => none }
def fnExactSameChannelRow : OpenClaim := { program := "ytcoldhdghcdaeaa", sum := "084aa1327efbcc421068cd4b84696e455d951f99c80534b7d9c82aec8205df2c", func := "loop.example/g00953/laws.FnExactSameChannel", spec := "fnExactSameChannel", apart := false }
def FnExactSameChannelSaid : Prop := fnExactSameChannelRow.holds Try.pinned (OpenSpec.ofChange fnExactSameChannelSpec)

/-- ITS FALSE NEIGHBOUR: 'it returns false'. Refute it at one input. -/
def fnExactSameChannelWrong : ChangeSpec := { name := "fnExactSameChannel", fn := fun _ => fun
  | [d1, d2] => { results := [.lit (.bool false)], args := [d1, d2] }
  | _ => none }
def FnExactSameChannelWrongFalsely : Prop := fnExactSameChannelRow.holds Try.pinned (OpenSpec.ofChange fnExactSameChannelWrong)

/-- 'laws.FnExactChannelLength': WHATEVER THE INPUT: true; the input reads as it did. -/
def fnExactChannelLengthSpec : ChangeSpec := { name := "fnExactChannelLength", fn := fun _ => fun
  | [d] => { results := [.lit (.bool true)], args := [d] }
  | _ => none }
def fnExactChannelLengthRow : OpenClaim := { program := "ytcoldhdghcdaeaa", sum := "084aa1327efbcc421068cd4b84696e455d951f99c80534b7d9c82aec8205df2c", func := "loop.example/g00953/laws.FnExactChannelLength", spec := "fnExactChannelLength", unfollowed := true, recurses := true, apart := false }
def FnExactChannelLengthSaid : Prop := fnExactChannelLengthRow.holds Try.pinned (OpenSpec.ofChange fnExactChannelLengthSpec)

/-- ITS FALSE NEIGHBOUR: 'it returns false'. Refute it at one input. -/
def fnExactChannelLengthWrong : ChangeSpec := { name := "fnExactChannelLength", fn := fun _ => fun
  | [d] => { results := [.lit (.bool false)], args := [d] }
  | _ => none }
def FnExactChannelLengthWrongFalsely : Prop := fnExactChannelLengthRow.holds Try.pinned (OpenSpec.ofChange fnExactChannelLengthWrong)

/-- 'laws.FnExactPlaceAlong': WHATEVER THE INPUT: true; the input reads as it did. -/
def fnExactPlaceAlongSpec : ChangeSpec := { name := "fnExactPlaceAlong", fn := fun _ => fun
  | [d1, d2] => { results := [.lit (.bool true)], args := [d1, d2] }
  | _ => none }
def fnExactPlaceAlongRow : OpenClaim := { program := "ytcoldhdghcdaeaa", sum := "084aa1327efbcc421068cd4b84696e455d951f99c80534b7d9c82aec8205df2c", func := "loop.example/g00953/laws.FnExactPlaceAlong", spec := "fnExactPlaceAlong", unfollowed := true, recurses := true, apart := false }
def FnExactPlaceAlongSaid : Prop := fnExactPlaceAlongRow.holds Try.pinned (OpenSpec.ofChange fnExactPlaceAlongSpec)

/-- ITS FALSE NEIGHBOUR: 'it returns false'. Refute it at one input. -/
def fnExactPlaceAlongWrong : ChangeSpec := { name := "fnExactPlaceAlong", fn := fun _ => fun
  | [d1, d2] => { results := [.lit (.bool false)], args := [d1, d2] }
  | _ => none }
def FnExactPlaceAlongWrongFalsely : Prop := fnExactPlaceAlongRow.holds Try.pinned (OpenSpec.ofChange fnExactPlaceAlongWrong)

/-- 'laws.FnExactInChannel': WHATEVER THE INPUT: true; the input reads as it did. -/
def fnExactInChannelSpec : ChangeSpec := { name := "fnExactInChannel", fn := fun _ => fun
  | [d1, d2] => { results := [.lit (.bool true)], args := [d1, d2] }
  | _ => none }
def fnExactInChannelRow : OpenClaim := { program := "ytcoldhdghcdaeaa", sum := "084aa1327efbcc421068cd4b84696e455d951f99c80534b7d9c82aec8205df2c", func := "loop.example/g00953/laws.FnExactInChannel", spec := "fnExactInChannel", unfollowed := true, recurses := true, named := ["math/bits.divideError", "math/bits.overflowError"], apart := false }
def FnExactInChannelSaid : Prop := fnExactInChannelRow.holds Try.pinned (OpenSpec.ofChange fnExactInChannelSpec)

/-- ITS FALSE NEIGHBOUR: 'it returns false'. Refute it at one input. -/
def fnExactInChannelWrong : ChangeSpec := { name := "fnExactInChannel", fn := fun _ => fun
  | [d1, d2] => { results := [.lit (.bool false)], args := [d1, d2] }
  | _ => none }
def FnExactInChannelWrongFalsely : Prop := fnExactInChannelRow.holds Try.pinned (OpenSpec.ofChange fnExactInChannelWrong)

/-- 'laws.FnExactSideOfChannel': WHATEVER THE INPUT: true; the input reads as it did. -/
def fnExactSideOfChannelSpec : ChangeSpec := { name := "fnExactSideOfChannel", fn := fun _ => fun
  | [d1, d2] => { results := [.lit (.bool true)], args := [d1, d2] }
  | _ => none }
def fnExactSideOfChannelRow : OpenClaim := { program := "ytcoldhdghcdaeaa", sum := "084aa1327efbcc421068cd4b84696e455d951f99c80534b7d9c82aec8205df2c", func := "loop.example/g00953/laws.FnExactSideOfChannel", spec := "fnExactSideOfChannel", unfollowed := true, recurses := true, named := ["math/bits.divideError", "math/bits.overflowError"], apart := false }
def FnExactSideOfChannelSaid : Prop := fnExactSideOfChannelRow.holds Try.pinned (OpenSpec.ofChange fnExactSideOfChannelSpec)

/-- ITS FALSE NEIGHBOUR: 'it returns false'. Refute it at one input. -/
def fnExactSideOfChannelWrong : ChangeSpec := { name := "fnExactSideOfChannel", fn := fun _ => fun
  | [d1, d2] => { results := [.lit (.bool false)], args := [d1, d2] }
  | _ => none }
def FnExactSideOfChannelWrongFalsely : Prop := fnExactSideOfChannelRow.holds Try.pinned (OpenSpec.ofChange fnExactSideOfChannelWrong)

/-- 'laws.FnExactValidBuoys': WHATEVER THE INPUT: true; the input reads as it did. -/
def fnExactValidBuoysSpec : ChangeSpec := { name := "fnExactValidBuoys", fn := fun _ => fun
  | [d] => { results := [.lit (.bool true)], args := [d] }
  | _ => none }
def fnExactValidBuoysRow : OpenClaim := { program := "ytcoldhdghcdaeaa", sum := "084aa1327efbcc421068cd4b84696e455d951f99c80534b7d9c82aec8205df2c", func := "loop.example/g00953/laws.FnExactValidBuoys", spec := "fnExactValidBuoys", unfollowed := true, recurses := true, apart := false }
def FnExactValidBuoysSaid : Prop := fnExactValidBuoysRow.holds Try.pinned (OpenSpec.ofChange fnExactValidBuoysSpec)

/-- ITS FALSE NEIGHBOUR: 'it returns false'. Refute it at one input. -/
def fnExactValidBuoysWrong : ChangeSpec := { name := "fnExactValidBuoys", fn := fun _ => fun
  | [d] => { results := [.lit (.bool false)], args := [d] }
  | _ => none }
def FnExactValidBuoysWrongFalsely : Prop := fnExactValidBuoysRow.holds Try.pinned (OpenSpec.ofChange fnExactValidBuoysWrong)

/-- 'laws.FnExactReverseChannel': WHATEVER THE INPUT: true; the input reads as it did. -/
def fnExactReverseChannelSpec : ChangeSpec := { name := "fnExactReverseChannel", fn := fun _ => fun
  | [d] => { results := [.lit (.bool true)], args := [d] }
  | _ => none }
def fnExactReverseChannelRow : OpenClaim := { program := "ytcoldhdghcdaeaa", sum := "084aa1327efbcc421068cd4b84696e455d951f99c80534b7d9c82aec8205df2c", func := "loop.example/g00953/laws.FnExactReverseChannel", spec := "fnExactReverseChannel", unfollowed := true, recurses := true, apart := false }
def FnExactReverseChannelSaid : Prop := fnExactReverseChannelRow.holds Try.pinned (OpenSpec.ofChange fnExactReverseChannelSpec)

/-- ITS FALSE NEIGHBOUR: 'it returns false'. Refute it at one input. -/
def fnExactReverseChannelWrong : ChangeSpec := { name := "fnExactReverseChannel", fn := fun _ => fun
  | [d] => { results := [.lit (.bool false)], args := [d] }
  | _ => none }
def FnExactReverseChannelWrongFalsely : Prop := fnExactReverseChannelRow.holds Try.pinned (OpenSpec.ofChange fnExactReverseChannelWrong)

/- THE SECOND FORM. 'bulk': how many values and letters a reading holds, each counted each time it is reached (what is shared counts as often as it is met; a slice's spare places count too). A statement '..UptoSaid' is the law's where the arguments, and the package variables that the reading takes, are together of bulk at most 1048576: NARROWER than '..Said'. Prove '..Said' where nothing that the law and all that it calls make is longer than what came in: it says more and counts as full. Else prove '..UptoSaid'. A law counts once. -/
mutual
def uptoBulk {H : Type} : DataW H → Nat
  | .lit (.string bytes) => bytes.length + 1
  | .lit _ => 1
  | .nil => 1
  | .ptr d => uptoBulk d + 1
  | .slice elems spare => uptoBulkAll elems + uptoBulkAll spare + 1
  | .agg parts => uptoBulkAll parts + 1
  | .iface _ d => uptoBulk d + 1
  | .map entries => uptoBulkEntries entries + 1
  | .held _ => 1
def uptoBulkAll {H : Type} : List (DataW H) → Nat
  | [] => 0
  | d :: r => uptoBulk d + uptoBulkAll r
def uptoBulkEntries {H : Type} : List (Lit × DataW H) → Nat
  | [] => 0
  | x :: r => uptoBulkEntry x + uptoBulkEntries r
def uptoBulkEntry {H : Type} : Lit × DataW H → Nat
  | (.string bytes, d) => bytes.length + uptoBulk d + 1
  | (_, d) => uptoBulk d + 1
 end
def uptoSmall : (H : Type) → List (DataW H) → Bool := fun _ ds => decide (uptoBulkAll ds ≤ 1048576)
def OpenSpec.upto (s : _root_.Go.ChangeSpec) : _root_.Go.OpenSpec := { _root_.Go.OpenSpec.ofChange s with cond := some uptoSmall }

/-- 'laws.FnExactValidChannel', WHERE WHAT IT READS IS OF BULK AT MOST 1048576: true; the input reads as it did. -/
def fnExactValidChannelUptoRow : OpenClaim := { program := "ytcoldhdghcdaeaa", sum := "084aa1327efbcc421068cd4b84696e455d951f99c80534b7d9c82aec8205df2c", func := "loop.example/g00953/laws.FnExactValidChannel", spec := "fnExactValidChannel", unfollowed := true, recurses := true, apart := false, narrowed := true }
def FnExactValidChannelUptoSaid : Prop := fnExactValidChannelUptoRow.holds Try.pinned (OpenSpec.upto fnExactValidChannelSpec)

/-- 'laws.FnExactSameChannel', WHERE WHAT IT READS IS OF BULK AT MOST 1048576: true; the input reads as it did. -/
def fnExactSameChannelUptoRow : OpenClaim := { program := "ytcoldhdghcdaeaa", sum := "084aa1327efbcc421068cd4b84696e455d951f99c80534b7d9c82aec8205df2c", func := "loop.example/g00953/laws.FnExactSameChannel", spec := "fnExactSameChannel", apart := false, narrowed := true }
def FnExactSameChannelUptoSaid : Prop := fnExactSameChannelUptoRow.holds Try.pinned (OpenSpec.upto fnExactSameChannelSpec)

/-- 'laws.FnExactChannelLength', WHERE WHAT IT READS IS OF BULK AT MOST 1048576: true; the input reads as it did. -/
def fnExactChannelLengthUptoRow : OpenClaim := { program := "ytcoldhdghcdaeaa", sum := "084aa1327efbcc421068cd4b84696e455d951f99c80534b7d9c82aec8205df2c", func := "loop.example/g00953/laws.FnExactChannelLength", spec := "fnExactChannelLength", unfollowed := true, recurses := true, apart := false, narrowed := true }
def FnExactChannelLengthUptoSaid : Prop := fnExactChannelLengthUptoRow.holds Try.pinned (OpenSpec.upto fnExactChannelLengthSpec)

/-- 'laws.FnExactPlaceAlong', WHERE WHAT IT READS IS OF BULK AT MOST 1048576: true; the input reads as it did. -/
def fnExactPlaceAlongUptoRow : OpenClaim := { program := "ytcoldhdghcdaeaa", sum := "084aa1327efbcc421068cd4b84696e455d951f99c80534b7d9c82aec8205df2c", func := "loop.example/g00953/laws.FnExactPlaceAlong", spec := "fnExactPlaceAlong", unfollowed := true, recurses := true, apart := false, narrowed := true }
def FnExactPlaceAlongUptoSaid : Prop := fnExactPlaceAlongUptoRow.holds Try.pinned (OpenSpec.upto fnExactPlaceAlongSpec)

/-- 'laws.FnExactInChannel', WHERE WHAT IT READS IS OF BULK AT MOST 1048576: true; the input reads as it did. -/
def fnExactInChannelUptoRow : OpenClaim := { program := "ytcoldhdghcdaeaa", sum := "084aa1327efbcc421068cd4b84696e455d951f99c80534b7d9c82aec8205df2c", func := "loop.example/g00953/laws.FnExactInChannel", spec := "fnExactInChannel", unfollowed := true, recurses := true, named := ["math/bits.divideError", "math/bits.overflowError"], apart := false, narrowed := true }
def FnExactInChannelUptoSaid : Prop := fnExactInChannelUptoRow.holds Try.pinned (OpenSpec.upto fnExactInChannelSpec)

/-- 'laws.FnExactSideOfChannel', WHERE WHAT IT READS IS OF BULK AT MOST 1048576: true; the input reads as it did. -/
def fnExactSideOfChannelUptoRow : OpenClaim := { program := "ytcoldhdghcdaeaa", sum := "084aa1327efbcc421068cd4b84696e455d951f99c80534b7d9c82aec8205df2c", func := "loop.example/g00953/laws.FnExactSideOfChannel", spec := "fnExactSideOfChannel", unfollowed := true, recurses := true, named := ["math/bits.divideError", "math/bits.overflowError"], apart := false, narrowed := true }
def FnExactSideOfChannelUptoSaid : Prop := fnExactSideOfChannelUptoRow.holds Try.pinned (OpenSpec.upto fnExactSideOfChannelSpec)

/-- 'laws.FnExactValidBuoys', WHERE WHAT IT READS IS OF BULK AT MOST 1048576: true; the input reads as it did. -/
def fnExactValidBuoysUptoRow : OpenClaim := { program := "ytcoldhdghcdaeaa", sum := "084aa1327efbcc421068cd4b84696e455d951f99c80534b7d9c82aec8205df2c", func := "loop.example/g00953/laws.FnExactValidBuoys", spec := "fnExactValidBuoys", unfollowed := true, recurses := true, apart := false, narrowed := true }
def FnExactValidBuoysUptoSaid : Prop := fnExactValidBuoysUptoRow.holds Try.pinned (OpenSpec.upto fnExactValidBuoysSpec)

/-- 'laws.FnExactReverseChannel', WHERE WHAT IT READS IS OF BULK AT MOST 1048576: true; the input reads as it did. -/
def fnExactReverseChannelUptoRow : OpenClaim := { program := "ytcoldhdghcdaeaa", sum := "084aa1327efbcc421068cd4b84696e455d951f99c80534b7d9c82aec8205df2c", func := "loop.example/g00953/laws.FnExactReverseChannel", spec := "fnExactReverseChannel", unfollowed := true, recurses := true, apart := false, narrowed := true }
def FnExactReverseChannelUptoSaid : Prop := fnExactReverseChannelUptoRow.holds Try.pinned (OpenSpec.upto fnExactReverseChannelSpec)

end Rows
end Go.Proofs.Ytcoldhdghcdaeaa
