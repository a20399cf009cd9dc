/-
  No cell of these rows narrows 'for every input' (looked for: loops, veiled, ifaces, maps, wideKeys, modest, calm, conditions, laid).
  DERIVED. THE GIVEN ROWS OF THIS SEAT. 9 by the template 'for every input the law returns true; each argument reads behind the call as it read before'; 0 by the template 'total and deterministic' (their statements: YtfehjjaebdgjlaaTotals.lean).
  GIVEN WITH THE SEED: the statements are not yours to turn. If you find one false, say at which input.
  Laid BY PROGRAM, IN A SANDBOX (cutbox-rows.mjs): the forced cells as the released guide's own fill.sh prints them over the translation 2d15b41fadf0da80… (all of the seat's roots in one cut). By AI agents, Wed Nov 11 2026. No macro, syntax, notation, axiom, sorry.
-/
import Derived.Test.YtfehjjaebdgjlaaChecked
import GoSem.Claim
import GoSem.ClaimJoined
import GoSem.ClaimMapViews
import Derived.JoinedTies
import Derived.KernelRfl
namespace Go.Proofs.Ytfehjjaebdgjlaa
/- THE CELL 'sum', in the pinned program and in every row, IS THE sha256 OF THE DUMP (.gsa) THAT YtfehjjaebdgjlaaProg.lean LOADS. Nothing in Lean hashes anything: it is a label: what it is worth is what the hold of that sum in a sandbox is worth. -/
noncomputable def Try.pinned : Pinned := { name := "ytfehjjaebdgjlaa", sum := "2d15b41fadf0da809277808afe4a362f2283f8e564e5dc1db3ccb2e08b6d4193", checked := Try.checked }
namespace Rows
def none {H : Type} : Left H := { results := [], args := [] }

/-- 'laws.FnCutEdges': WHATEVER THE INPUT: true; the input reads as it did. -/
def fnCutEdgesSpec : ChangeSpec := { name := "fnCutEdges", fn := fun _ => fun
  | [d] => { results := [.lit (.bool true)], args := [d] }
  | _ => none }
def fnCutEdgesRow : OpenClaim := { program := "ytfehjjaebdgjlaa", sum := "2d15b41fadf0da809277808afe4a362f2283f8e564e5dc1db3ccb2e08b6d4193", func := "loop.example/g01100/laws.FnCutEdges", spec := "fnCutEdges", inPlace := ["internal/abi.NoEscape"], unfollowed := true, recurses := true, apart := false }
def FnCutEdgesSaid : Prop := fnCutEdgesRow.holds Try.pinned (OpenSpec.ofChange fnCutEdgesSpec)

/-- ITS FALSE NEIGHBOUR: 'it returns false'. Refute it at one input. -/
def fnCutEdgesWrong : ChangeSpec := { name := "fnCutEdges", fn := fun _ => fun
  | [d] => { results := [.lit (.bool false)], args := [d] }
  | _ => none }
def FnCutEdgesWrongFalsely : Prop := fnCutEdgesRow.holds Try.pinned (OpenSpec.ofChange fnCutEdgesWrong)

/-- 'laws.FnExactGraftSum': WHATEVER THE INPUT: true; the input reads as it did. -/
def fnExactGraftSumSpec : ChangeSpec := { name := "fnExactGraftSum", fn := fun _ => fun
  | [d1, d2] => { results := [.lit (.bool true)], args := [d1, d2] }
  | _ => none }
def fnExactGraftSumRow : OpenClaim := { program := "ytfehjjaebdgjlaa", sum := "2d15b41fadf0da809277808afe4a362f2283f8e564e5dc1db3ccb2e08b6d4193", func := "loop.example/g01100/laws.FnExactGraftSum", spec := "fnExactGraftSum", inPlace := ["internal/abi.NoEscape"], unfollowed := true, recurses := true, apart := false }
def FnExactGraftSumSaid : Prop := fnExactGraftSumRow.holds Try.pinned (OpenSpec.ofChange fnExactGraftSumSpec)

/-- ITS FALSE NEIGHBOUR: 'it returns false'. Refute it at one input. -/
def fnExactGraftSumWrong : ChangeSpec := { name := "fnExactGraftSum", fn := fun _ => fun
  | [d1, d2] => { results := [.lit (.bool false)], args := [d1, d2] }
  | _ => none }
def FnExactGraftSumWrongFalsely : Prop := fnExactGraftSumRow.holds Try.pinned (OpenSpec.ofChange fnExactGraftSumWrong)

/-- 'laws.FnExactRootsOf': WHATEVER THE INPUT: true; the input reads as it did. -/
def fnExactRootsOfSpec : ChangeSpec := { name := "fnExactRootsOf", fn := fun _ => fun
  | [d] => { results := [.lit (.bool true)], args := [d] }
  | _ => none }
def fnExactRootsOfRow : OpenClaim := { program := "ytfehjjaebdgjlaa", sum := "2d15b41fadf0da809277808afe4a362f2283f8e564e5dc1db3ccb2e08b6d4193", func := "loop.example/g01100/laws.FnExactRootsOf", spec := "fnExactRootsOf", inPlace := ["internal/abi.NoEscape"], unfollowed := true, recurses := true, apart := false }
def FnExactRootsOfSaid : Prop := fnExactRootsOfRow.holds Try.pinned (OpenSpec.ofChange fnExactRootsOfSpec)

/-- ITS FALSE NEIGHBOUR: 'it returns false'. Refute it at one input. -/
def fnExactRootsOfWrong : ChangeSpec := { name := "fnExactRootsOf", fn := fun _ => fun
  | [d] => { results := [.lit (.bool false)], args := [d] }
  | _ => none }
def FnExactRootsOfWrongFalsely : Prop := fnExactRootsOfRow.holds Try.pinned (OpenSpec.ofChange fnExactRootsOfWrong)

/-- 'laws.FnExactFreeForm': WHATEVER THE INPUT: true; the input reads as it did. -/
def fnExactFreeFormSpec : ChangeSpec := { name := "fnExactFreeForm", fn := fun _ => fun
  | [d] => { results := [.lit (.bool true)], args := [d] }
  | _ => none }
def fnExactFreeFormRow : OpenClaim := { program := "ytfehjjaebdgjlaa", sum := "2d15b41fadf0da809277808afe4a362f2283f8e564e5dc1db3ccb2e08b6d4193", func := "loop.example/g01100/laws.FnExactFreeForm", spec := "fnExactFreeForm", inPlace := ["internal/abi.NoEscape"], unfollowed := true, recurses := true, apart := false }
def FnExactFreeFormSaid : Prop := fnExactFreeFormRow.holds Try.pinned (OpenSpec.ofChange fnExactFreeFormSpec)

/-- ITS FALSE NEIGHBOUR: 'it returns false'. Refute it at one input. -/
def fnExactFreeFormWrong : ChangeSpec := { name := "fnExactFreeForm", fn := fun _ => fun
  | [d] => { results := [.lit (.bool false)], args := [d] }
  | _ => none }
def FnExactFreeFormWrongFalsely : Prop := fnExactFreeFormRow.holds Try.pinned (OpenSpec.ofChange fnExactFreeFormWrong)

/-- 'laws.FnExactAreSameFree': WHATEVER THE INPUT: true; the input reads as it did. -/
def fnExactAreSameFreeSpec : ChangeSpec := { name := "fnExactAreSameFree", fn := fun _ => fun
  | [d1, d2] => { results := [.lit (.bool true)], args := [d1, d2] }
  | _ => none }
def fnExactAreSameFreeRow : OpenClaim := { program := "ytfehjjaebdgjlaa", sum := "2d15b41fadf0da809277808afe4a362f2283f8e564e5dc1db3ccb2e08b6d4193", func := "loop.example/g01100/laws.FnExactAreSameFree", spec := "fnExactAreSameFree", inPlace := ["internal/abi.NoEscape"], unfollowed := true, recurses := true, apart := false }
def FnExactAreSameFreeSaid : Prop := fnExactAreSameFreeRow.holds Try.pinned (OpenSpec.ofChange fnExactAreSameFreeSpec)

/-- ITS FALSE NEIGHBOUR: 'it returns false'. Refute it at one input. -/
def fnExactAreSameFreeWrong : ChangeSpec := { name := "fnExactAreSameFree", fn := fun _ => fun
  | [d1, d2] => { results := [.lit (.bool false)], args := [d1, d2] }
  | _ => none }
def FnExactAreSameFreeWrongFalsely : Prop := fnExactAreSameFreeRow.holds Try.pinned (OpenSpec.ofChange fnExactAreSameFreeWrong)

/-- 'laws.FnExactFreeTreesOf': WHATEVER THE INPUT: true; the input reads as it did. -/
def fnExactFreeTreesOfSpec : ChangeSpec := { name := "fnExactFreeTreesOf", fn := fun _ => fun
  | [d] => { results := [.lit (.bool true)], args := [d] }
  | _ => none }
def fnExactFreeTreesOfRow : OpenClaim := { program := "ytfehjjaebdgjlaa", sum := "2d15b41fadf0da809277808afe4a362f2283f8e564e5dc1db3ccb2e08b6d4193", func := "loop.example/g01100/laws.FnExactFreeTreesOf", spec := "fnExactFreeTreesOf", inPlace := ["internal/abi.NoEscape"], unfollowed := true, recurses := true, apart := false }
def FnExactFreeTreesOfSaid : Prop := fnExactFreeTreesOfRow.holds Try.pinned (OpenSpec.ofChange fnExactFreeTreesOfSpec)

/-- ITS FALSE NEIGHBOUR: 'it returns false'. Refute it at one input. -/
def fnExactFreeTreesOfWrong : ChangeSpec := { name := "fnExactFreeTreesOf", fn := fun _ => fun
  | [d] => { results := [.lit (.bool false)], args := [d] }
  | _ => none }
def FnExactFreeTreesOfWrongFalsely : Prop := fnExactFreeTreesOfRow.holds Try.pinned (OpenSpec.ofChange fnExactFreeTreesOfWrong)

/-- 'laws.FnExactCountCuts': WHATEVER THE INPUT: true; the input reads as it did. -/
def fnExactCountCutsSpec : ChangeSpec := { name := "fnExactCountCuts", fn := fun _ => fun
  | [d] => { results := [.lit (.bool true)], args := [d] }
  | _ => none }
def fnExactCountCutsRow : OpenClaim := { program := "ytfehjjaebdgjlaa", sum := "2d15b41fadf0da809277808afe4a362f2283f8e564e5dc1db3ccb2e08b6d4193", func := "loop.example/g01100/laws.FnExactCountCuts", spec := "fnExactCountCuts", inPlace := ["internal/abi.NoEscape"], unfollowed := true, recurses := true, apart := false }
def FnExactCountCutsSaid : Prop := fnExactCountCutsRow.holds Try.pinned (OpenSpec.ofChange fnExactCountCutsSpec)

/-- ITS FALSE NEIGHBOUR: 'it returns false'. Refute it at one input. -/
def fnExactCountCutsWrong : ChangeSpec := { name := "fnExactCountCuts", fn := fun _ => fun
  | [d] => { results := [.lit (.bool false)], args := [d] }
  | _ => none }
def FnExactCountCutsWrongFalsely : Prop := fnExactCountCutsRow.holds Try.pinned (OpenSpec.ofChange fnExactCountCutsWrong)

/-- 'laws.FnExactCountRising': WHATEVER THE INPUT: true; the input reads as it did. -/
def fnExactCountRisingSpec : ChangeSpec := { name := "fnExactCountRising", fn := fun _ => fun
  | [d1, d2] => { results := [.lit (.bool true)], args := [d1, d2] }
  | _ => none }
def fnExactCountRisingRow : OpenClaim := { program := "ytfehjjaebdgjlaa", sum := "2d15b41fadf0da809277808afe4a362f2283f8e564e5dc1db3ccb2e08b6d4193", func := "loop.example/g01100/laws.FnExactCountRising", spec := "fnExactCountRising", inPlace := ["internal/abi.NoEscape"], recurses := true, apart := false }
def FnExactCountRisingSaid : Prop := fnExactCountRisingRow.holds Try.pinned (OpenSpec.ofChange fnExactCountRisingSpec)

/-- ITS FALSE NEIGHBOUR: 'it returns false'. Refute it at one input. -/
def fnExactCountRisingWrong : ChangeSpec := { name := "fnExactCountRising", fn := fun _ => fun
  | [d1, d2] => { results := [.lit (.bool false)], args := [d1, d2] }
  | _ => none }
def FnExactCountRisingWrongFalsely : Prop := fnExactCountRisingRow.holds Try.pinned (OpenSpec.ofChange fnExactCountRisingWrong)

/-- 'laws.FnExactCountStrict': WHATEVER THE INPUT: true; the input reads as it did. -/
def fnExactCountStrictSpec : ChangeSpec := { name := "fnExactCountStrict", fn := fun _ => fun
  | [d1, d2] => { results := [.lit (.bool true)], args := [d1, d2] }
  | _ => none }
def fnExactCountStrictRow : OpenClaim := { program := "ytfehjjaebdgjlaa", sum := "2d15b41fadf0da809277808afe4a362f2283f8e564e5dc1db3ccb2e08b6d4193", func := "loop.example/g01100/laws.FnExactCountStrict", spec := "fnExactCountStrict", inPlace := ["internal/abi.NoEscape"], recurses := true, apart := false }
def FnExactCountStrictSaid : Prop := fnExactCountStrictRow.holds Try.pinned (OpenSpec.ofChange fnExactCountStrictSpec)

/-- ITS FALSE NEIGHBOUR: 'it returns false'. Refute it at one input. -/
def fnExactCountStrictWrong : ChangeSpec := { name := "fnExactCountStrict", fn := fun _ => fun
  | [d1, d2] => { results := [.lit (.bool false)], args := [d1, d2] }
  | _ => none }
def FnExactCountStrictWrongFalsely : Prop := fnExactCountStrictRow.holds Try.pinned (OpenSpec.ofChange fnExactCountStrictWrong)

/- THE SECOND FORM. 'bulk': how many values and letters a reading holds, each counted each time it is reached (what is shared counts as often as it is met; a slice's spare places count too). A statement '..UptoSaid' is the law's where the arguments, and the package variables that the reading takes, are together of bulk at most 1048576: NARROWER than '..Said'. Prove '..Said' where nothing that the law and all that it calls make is longer than what came in: it says more and counts as full. Else prove '..UptoSaid'. A law counts once. -/
mutual
def uptoBulk {H : Type} : DataW H → Nat
  | .lit (.string bytes) => bytes.length + 1
  | .lit _ => 1
  | .nil => 1
  | .ptr d => uptoBulk d + 1
  | .slice elems spare => uptoBulkAll elems + uptoBulkAll spare + 1
  | .agg parts => uptoBulkAll parts + 1
  | .iface _ d => uptoBulk d + 1
  | .map entries => uptoBulkEntries entries + 1
  | .held _ => 1
def uptoBulkAll {H : Type} : List (DataW H) → Nat
  | [] => 0
  | d :: r => uptoBulk d + uptoBulkAll r
def uptoBulkEntries {H : Type} : List (Lit × DataW H) → Nat
  | [] => 0
  | x :: r => uptoBulkEntry x + uptoBulkEntries r
def uptoBulkEntry {H : Type} : Lit × DataW H → Nat
  | (.string bytes, d) => bytes.length + uptoBulk d + 1
  | (_, d) => uptoBulk d + 1
 end
def uptoSmall : (H : Type) → List (DataW H) → Bool := fun _ ds => decide (uptoBulkAll ds ≤ 1048576)
def OpenSpec.upto (s : _root_.Go.ChangeSpec) : _root_.Go.OpenSpec := { _root_.Go.OpenSpec.ofChange s with cond := some uptoSmall }

/-- 'laws.FnCutEdges', WHERE WHAT IT READS IS OF BULK AT MOST 1048576: true; the input reads as it did. -/
def fnCutEdgesUptoRow : OpenClaim := { program := "ytfehjjaebdgjlaa", sum := "2d15b41fadf0da809277808afe4a362f2283f8e564e5dc1db3ccb2e08b6d4193", func := "loop.example/g01100/laws.FnCutEdges", spec := "fnCutEdges", inPlace := ["internal/abi.NoEscape"], unfollowed := true, recurses := true, apart := false, narrowed := true }
def FnCutEdgesUptoSaid : Prop := fnCutEdgesUptoRow.holds Try.pinned (OpenSpec.upto fnCutEdgesSpec)

/-- 'laws.FnExactGraftSum', WHERE WHAT IT READS IS OF BULK AT MOST 1048576: true; the input reads as it did. -/
def fnExactGraftSumUptoRow : OpenClaim := { program := "ytfehjjaebdgjlaa", sum := "2d15b41fadf0da809277808afe4a362f2283f8e564e5dc1db3ccb2e08b6d4193", func := "loop.example/g01100/laws.FnExactGraftSum", spec := "fnExactGraftSum", inPlace := ["internal/abi.NoEscape"], unfollowed := true, recurses := true, apart := false, narrowed := true }
def FnExactGraftSumUptoSaid : Prop := fnExactGraftSumUptoRow.holds Try.pinned (OpenSpec.upto fnExactGraftSumSpec)

/-- 'laws.FnExactRootsOf', WHERE WHAT IT READS IS OF BULK AT MOST 1048576: true; the input reads as it did. -/
def fnExactRootsOfUptoRow : OpenClaim := { program := "ytfehjjaebdgjlaa", sum := "2d15b41fadf0da809277808afe4a362f2283f8e564e5dc1db3ccb2e08b6d4193", func := "loop.example/g01100/laws.FnExactRootsOf", spec := "fnExactRootsOf", inPlace := ["internal/abi.NoEscape"], unfollowed := true, recurses := true, apart := false, narrowed := true }
def FnExactRootsOfUptoSaid : Prop := fnExactRootsOfUptoRow.holds Try.pinned (OpenSpec.upto fnExactRootsOfSpec)

/-- 'laws.FnExactFreeForm', WHERE WHAT IT READS IS OF BULK AT MOST 1048576: true; the input reads as it did. -/
def fnExactFreeFormUptoRow : OpenClaim := { program := "ytfehjjaebdgjlaa", sum := "2d15b41fadf0da809277808afe4a362f2283f8e564e5dc1db3ccb2e08b6d4193", func := "loop.example/g01100/laws.FnExactFreeForm", spec := "fnExactFreeForm", inPlace := ["internal/abi.NoEscape"], unfollowed := true, recurses := true, apart := false, narrowed := true }
def FnExactFreeFormUptoSaid : Prop := fnExactFreeFormUptoRow.holds Try.pinned (OpenSpec.upto fnExactFreeFormSpec)

/-- 'laws.FnExactAreSameFree', WHERE WHAT IT READS IS OF BULK AT MOST 1048576: true; the input reads as it did. -/
def fnExactAreSameFreeUptoRow : OpenClaim := { program := "ytfehjjaebdgjlaa", sum := "2d15b41fadf0da809277808afe4a362f2283f8e564e5dc1db3ccb2e08b6d4193", func := "loop.example/g01100/laws.FnExactAreSameFree", spec := "fnExactAreSameFree", inPlace := ["internal/abi.NoEscape"], unfollowed := true, recurses := true, apart := false, narrowed := true }
def FnExactAreSameFreeUptoSaid : Prop := fnExactAreSameFreeUptoRow.holds Try.pinned (OpenSpec.upto fnExactAreSameFreeSpec)

/-- 'laws.FnExactFreeTreesOf', WHERE WHAT IT READS IS OF BULK AT MOST 1048576: true; the input reads as it did. -/
def fnExactFreeTreesOfUptoRow : OpenClaim := { program := "ytfehjjaebdgjlaa", sum := "2d15b41fadf0da809277808afe4a362f2283f8e564e5dc1db3ccb2e08b6d4193", func := "loop.example/g01100/laws.FnExactFreeTreesOf", spec := "fnExactFreeTreesOf", inPlace := ["internal/abi.NoEscape"], unfollowed := true, recurses := true, apart := false, narrowed := true }
def FnExactFreeTreesOfUptoSaid : Prop := fnExactFreeTreesOfUptoRow.holds Try.pinned (OpenSpec.upto fnExactFreeTreesOfSpec)

/-- 'laws.FnExactCountCuts', WHERE WHAT IT READS IS OF BULK AT MOST 1048576: true; the input reads as it did. -/
def fnExactCountCutsUptoRow : OpenClaim := { program := "ytfehjjaebdgjlaa", sum := "2d15b41fadf0da809277808afe4a362f2283f8e564e5dc1db3ccb2e08b6d4193", func := "loop.example/g01100/laws.FnExactCountCuts", spec := "fnExactCountCuts", inPlace := ["internal/abi.NoEscape"], unfollowed := true, recurses := true, apart := false, narrowed := true }
def FnExactCountCutsUptoSaid : Prop := fnExactCountCutsUptoRow.holds Try.pinned (OpenSpec.upto fnExactCountCutsSpec)

/-- 'laws.FnExactCountRising', WHERE WHAT IT READS IS OF BULK AT MOST 1048576: true; the input reads as it did. -/
def fnExactCountRisingUptoRow : OpenClaim := { program := "ytfehjjaebdgjlaa", sum := "2d15b41fadf0da809277808afe4a362f2283f8e564e5dc1db3ccb2e08b6d4193", func := "loop.example/g01100/laws.FnExactCountRising", spec := "fnExactCountRising", inPlace := ["internal/abi.NoEscape"], recurses := true, apart := false, narrowed := true }
def FnExactCountRisingUptoSaid : Prop := fnExactCountRisingUptoRow.holds Try.pinned (OpenSpec.upto fnExactCountRisingSpec)

/-- 'laws.FnExactCountStrict', WHERE WHAT IT READS IS OF BULK AT MOST 1048576: true; the input reads as it did. -/
def fnExactCountStrictUptoRow : OpenClaim := { program := "ytfehjjaebdgjlaa", sum := "2d15b41fadf0da809277808afe4a362f2283f8e564e5dc1db3ccb2e08b6d4193", func := "loop.example/g01100/laws.FnExactCountStrict", spec := "fnExactCountStrict", inPlace := ["internal/abi.NoEscape"], recurses := true, apart := false, narrowed := true }
def FnExactCountStrictUptoSaid : Prop := fnExactCountStrictUptoRow.holds Try.pinned (OpenSpec.upto fnExactCountStrictSpec)

end Rows
end Go.Proofs.Ytfehjjaebdgjlaa
