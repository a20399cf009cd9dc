/-
  No cell of these rows narrows 'for every input' (looked for: loops, veiled, ifaces, maps, wideKeys, modest, calm, conditions, laid).
  DERIVED. THE GIVEN ROWS OF THIS SEAT. 11 by the template 'for every input the law returns true; each argument reads behind the call as it read before'; 0 by the template 'total and deterministic' (their statements: YtgicbmfcojfjcabTotals.lean).
  GIVEN WITH THE SEED: the statements are not yours to turn. If you find one false, say at which input.
  Laid BY PROGRAM, IN A SANDBOX (cutbox-rows.mjs): the forced cells as the released guide's own fill.sh prints them over the translation 9f5df8f864133bf0… (all of the seat's roots in one cut). By AI agents, Wed Nov 11 2026. No macro, syntax, notation, axiom, sorry.
-/
import Derived.Test.YtgicbmfcojfjcabChecked
import GoSem.Claim
import GoSem.ClaimJoined
import GoSem.ClaimMapViews
import Derived.JoinedTies
import Derived.KernelRfl
namespace Go.Proofs.Ytgicbmfcojfjcab
/- THE CELL 'sum', in the pinned program and in every row, IS THE sha256 OF THE DUMP (.gsa) THAT YtgicbmfcojfjcabProg.lean LOADS. Nothing in Lean hashes anything: it is a label: what it is worth is what the hold of that sum in a sandbox is worth. -/
noncomputable def Try.pinned : Pinned := { name := "ytgicbmfcojfjcab", sum := "9f5df8f864133bf05e771d1ee64992f80b4ab3c8fbfee4cdba3c6f3614307b67", checked := Try.checked }
namespace Rows
def none {H : Type} : Left H := { results := [], args := [] }

/-- 'laws.FnExactGraftSum': WHATEVER THE INPUT: true; the input reads as it did. -/
def fnExactGraftSumSpec : ChangeSpec := { name := "fnExactGraftSum", fn := fun _ => fun
  | [d1, d2] => { results := [.lit (.bool true)], args := [d1, d2] }
  | _ => none }
def fnExactGraftSumRow : OpenClaim := { program := "ytgicbmfcojfjcab", sum := "9f5df8f864133bf05e771d1ee64992f80b4ab3c8fbfee4cdba3c6f3614307b67", func := "loop.example/g01100/laws.FnExactGraftSum", spec := "fnExactGraftSum", inPlace := ["internal/abi.NoEscape"], unfollowed := true, recurses := true, apart := false }
def FnExactGraftSumSaid : Prop := fnExactGraftSumRow.holds Try.pinned (OpenSpec.ofChange fnExactGraftSumSpec)

/-- ITS FALSE NEIGHBOUR: 'it returns false'. Refute it at one input. -/
def fnExactGraftSumWrong : ChangeSpec := { name := "fnExactGraftSum", fn := fun _ => fun
  | [d1, d2] => { results := [.lit (.bool false)], args := [d1, d2] }
  | _ => none }
def FnExactGraftSumWrongFalsely : Prop := fnExactGraftSumRow.holds Try.pinned (OpenSpec.ofChange fnExactGraftSumWrong)

/-- 'laws.FnExactCountCutsTo': WHATEVER THE INPUT: true; the input reads as it did. -/
def fnExactCountCutsToSpec : ChangeSpec := { name := "fnExactCountCutsTo", fn := fun _ => fun
  | [d1, d2, d3] => { results := [.lit (.bool true)], args := [d1, d2, d3] }
  | _ => none }
def fnExactCountCutsToRow : OpenClaim := { program := "ytgicbmfcojfjcab", sum := "9f5df8f864133bf05e771d1ee64992f80b4ab3c8fbfee4cdba3c6f3614307b67", func := "loop.example/g01100/laws.FnExactCountCutsTo", spec := "fnExactCountCutsTo", inPlace := ["internal/abi.NoEscape"], recurses := true, apart := false }
def FnExactCountCutsToSaid : Prop := fnExactCountCutsToRow.holds Try.pinned (OpenSpec.ofChange fnExactCountCutsToSpec)

/-- ITS FALSE NEIGHBOUR: 'it returns false'. Refute it at one input. -/
def fnExactCountCutsToWrong : ChangeSpec := { name := "fnExactCountCutsTo", fn := fun _ => fun
  | [d1, d2, d3] => { results := [.lit (.bool false)], args := [d1, d2, d3] }
  | _ => none }
def FnExactCountCutsToWrongFalsely : Prop := fnExactCountCutsToRow.holds Try.pinned (OpenSpec.ofChange fnExactCountCutsToWrong)

/-- 'laws.FnExactRootsOf': WHATEVER THE INPUT: true; the input reads as it did. -/
def fnExactRootsOfSpec : ChangeSpec := { name := "fnExactRootsOf", fn := fun _ => fun
  | [d] => { results := [.lit (.bool true)], args := [d] }
  | _ => none }
def fnExactRootsOfRow : OpenClaim := { program := "ytgicbmfcojfjcab", sum := "9f5df8f864133bf05e771d1ee64992f80b4ab3c8fbfee4cdba3c6f3614307b67", func := "loop.example/g01100/laws.FnExactRootsOf", spec := "fnExactRootsOf", inPlace := ["internal/abi.NoEscape"], unfollowed := true, recurses := true, apart := false }
def FnExactRootsOfSaid : Prop := fnExactRootsOfRow.holds Try.pinned (OpenSpec.ofChange fnExactRootsOfSpec)

/-- ITS FALSE NEIGHBOUR: 'it returns false'. Refute it at one input. -/
def fnExactRootsOfWrong : ChangeSpec := { name := "fnExactRootsOf", fn := fun _ => fun
  | [d] => { results := [.lit (.bool false)], args := [d] }
  | _ => none }
def FnExactRootsOfWrongFalsely : Prop := fnExactRootsOfRow.holds Try.pinned (OpenSpec.ofChange fnExactRootsOfWrong)

/-- 'laws.FnExactFreeTreesOf': WHATEVER THE INPUT: true; the input reads as it did. -/
def fnExactFreeTreesOfSpec : ChangeSpec := { name := "fnExactFreeTreesOf", fn := fun _ => fun
  | [d] => { results := [.lit (.bool true)], args := [d] }
  | _ => none }
def fnExactFreeTreesOfRow : OpenClaim := { program := "ytgicbmfcojfjcab", sum := "9f5df8f864133bf05e771d1ee64992f80b4ab3c8fbfee4cdba3c6f3614307b67", func := "loop.example/g01100/laws.FnExactFreeTreesOf", spec := "fnExactFreeTreesOf", inPlace := ["internal/abi.NoEscape"], unfollowed := true, recurses := true, apart := false }
def FnExactFreeTreesOfSaid : Prop := fnExactFreeTreesOfRow.holds Try.pinned (OpenSpec.ofChange fnExactFreeTreesOfSpec)

/-- ITS FALSE NEIGHBOUR: 'it returns false'. Refute it at one input. -/
def fnExactFreeTreesOfWrong : ChangeSpec := { name := "fnExactFreeTreesOf", fn := fun _ => fun
  | [d] => { results := [.lit (.bool false)], args := [d] }
  | _ => none }
def FnExactFreeTreesOfWrongFalsely : Prop := fnExactFreeTreesOfRow.holds Try.pinned (OpenSpec.ofChange fnExactFreeTreesOfWrong)

/-- 'laws.FnExactIsSuperfluous': WHATEVER THE INPUT: true; the input reads as it did. -/
def fnExactIsSuperfluousSpec : ChangeSpec := { name := "fnExactIsSuperfluous", fn := fun _ => fun
  | [d] => { results := [.lit (.bool true)], args := [d] }
  | _ => none }
def fnExactIsSuperfluousRow : OpenClaim := { program := "ytgicbmfcojfjcab", sum := "9f5df8f864133bf05e771d1ee64992f80b4ab3c8fbfee4cdba3c6f3614307b67", func := "loop.example/g01100/laws.FnExactIsSuperfluous", spec := "fnExactIsSuperfluous", inPlace := ["internal/abi.NoEscape"], unfollowed := true, recurses := true, apart := false }
def FnExactIsSuperfluousSaid : Prop := fnExactIsSuperfluousRow.holds Try.pinned (OpenSpec.ofChange fnExactIsSuperfluousSpec)

/-- ITS FALSE NEIGHBOUR: 'it returns false'. Refute it at one input. -/
def fnExactIsSuperfluousWrong : ChangeSpec := { name := "fnExactIsSuperfluous", fn := fun _ => fun
  | [d] => { results := [.lit (.bool false)], args := [d] }
  | _ => none }
def FnExactIsSuperfluousWrongFalsely : Prop := fnExactIsSuperfluousRow.holds Try.pinned (OpenSpec.ofChange fnExactIsSuperfluousWrong)

/-- 'laws.FnGraftCounts': WHATEVER THE INPUT: true; the input reads as it did. -/
def fnGraftCountsSpec : ChangeSpec := { name := "fnGraftCounts", fn := fun _ => fun
  | [d] => { results := [.lit (.bool true)], args := [d] }
  | _ => none }
def fnGraftCountsRow : OpenClaim := { program := "ytgicbmfcojfjcab", sum := "9f5df8f864133bf05e771d1ee64992f80b4ab3c8fbfee4cdba3c6f3614307b67", func := "loop.example/g01100/laws.FnGraftCounts", spec := "fnGraftCounts", inPlace := ["internal/abi.NoEscape"], unfollowed := true, recurses := true, apart := false }
def FnGraftCountsSaid : Prop := fnGraftCountsRow.holds Try.pinned (OpenSpec.ofChange fnGraftCountsSpec)

/-- ITS FALSE NEIGHBOUR: 'it returns false'. Refute it at one input. -/
def fnGraftCountsWrong : ChangeSpec := { name := "fnGraftCounts", fn := fun _ => fun
  | [d] => { results := [.lit (.bool false)], args := [d] }
  | _ => none }
def FnGraftCountsWrongFalsely : Prop := fnGraftCountsRow.holds Try.pinned (OpenSpec.ofChange fnGraftCountsWrong)

/-- 'laws.FnCutEdges': WHATEVER THE INPUT: true; the input reads as it did. -/
def fnCutEdgesSpec : ChangeSpec := { name := "fnCutEdges", fn := fun _ => fun
  | [d] => { results := [.lit (.bool true)], args := [d] }
  | _ => none }
def fnCutEdgesRow : OpenClaim := { program := "ytgicbmfcojfjcab", sum := "9f5df8f864133bf05e771d1ee64992f80b4ab3c8fbfee4cdba3c6f3614307b67", func := "loop.example/g01100/laws.FnCutEdges", spec := "fnCutEdges", inPlace := ["internal/abi.NoEscape"], unfollowed := true, recurses := true, apart := false }
def FnCutEdgesSaid : Prop := fnCutEdgesRow.holds Try.pinned (OpenSpec.ofChange fnCutEdgesSpec)

/-- ITS FALSE NEIGHBOUR: 'it returns false'. Refute it at one input. -/
def fnCutEdgesWrong : ChangeSpec := { name := "fnCutEdges", fn := fun _ => fun
  | [d] => { results := [.lit (.bool false)], args := [d] }
  | _ => none }
def FnCutEdgesWrongFalsely : Prop := fnCutEdgesRow.holds Try.pinned (OpenSpec.ofChange fnCutEdgesWrong)

/-- 'laws.FnExactInverseMatrix': WHATEVER THE INPUT: true; the input reads as it did. -/
def fnExactInverseMatrixSpec : ChangeSpec := { name := "fnExactInverseMatrix", fn := fun _ => fun
  | [d] => { results := [.lit (.bool true)], args := [d] }
  | _ => none }
def fnExactInverseMatrixRow : OpenClaim := { program := "ytgicbmfcojfjcab", sum := "9f5df8f864133bf05e771d1ee64992f80b4ab3c8fbfee4cdba3c6f3614307b67", func := "loop.example/g01100/laws.FnExactInverseMatrix", spec := "fnExactInverseMatrix", recurses := true, apart := false }
def FnExactInverseMatrixSaid : Prop := fnExactInverseMatrixRow.holds Try.pinned (OpenSpec.ofChange fnExactInverseMatrixSpec)

/-- ITS FALSE NEIGHBOUR: 'it returns false'. Refute it at one input. -/
def fnExactInverseMatrixWrong : ChangeSpec := { name := "fnExactInverseMatrix", fn := fun _ => fun
  | [d] => { results := [.lit (.bool false)], args := [d] }
  | _ => none }
def FnExactInverseMatrixWrongFalsely : Prop := fnExactInverseMatrixRow.holds Try.pinned (OpenSpec.ofChange fnExactInverseMatrixWrong)

/-- 'laws.FnExactSolveLinear': WHATEVER THE INPUT: true; the input reads as it did. -/
def fnExactSolveLinearSpec : ChangeSpec := { name := "fnExactSolveLinear", fn := fun _ => fun
  | [d1, d2] => { results := [.lit (.bool true)], args := [d1, d2] }
  | _ => none }
def fnExactSolveLinearRow : OpenClaim := { program := "ytgicbmfcojfjcab", sum := "9f5df8f864133bf05e771d1ee64992f80b4ab3c8fbfee4cdba3c6f3614307b67", func := "loop.example/g01100/laws.FnExactSolveLinear", spec := "fnExactSolveLinear", recurses := true, apart := false }
def FnExactSolveLinearSaid : Prop := fnExactSolveLinearRow.holds Try.pinned (OpenSpec.ofChange fnExactSolveLinearSpec)

/-- ITS FALSE NEIGHBOUR: 'it returns false'. Refute it at one input. -/
def fnExactSolveLinearWrong : ChangeSpec := { name := "fnExactSolveLinear", fn := fun _ => fun
  | [d1, d2] => { results := [.lit (.bool false)], args := [d1, d2] }
  | _ => none }
def FnExactSolveLinearWrongFalsely : Prop := fnExactSolveLinearRow.holds Try.pinned (OpenSpec.ofChange fnExactSolveLinearWrong)

/-- 'laws.FnDeterminants': WHATEVER THE INPUT: true; the input reads as it did. -/
def fnDeterminantsSpec : ChangeSpec := { name := "fnDeterminants", fn := fun _ => fun
  | [d] => { results := [.lit (.bool true)], args := [d] }
  | _ => none }
def fnDeterminantsRow : OpenClaim := { program := "ytgicbmfcojfjcab", sum := "9f5df8f864133bf05e771d1ee64992f80b4ab3c8fbfee4cdba3c6f3614307b67", func := "loop.example/g01100/laws.FnDeterminants", spec := "fnDeterminants", recurses := true, apart := false }
def FnDeterminantsSaid : Prop := fnDeterminantsRow.holds Try.pinned (OpenSpec.ofChange fnDeterminantsSpec)

/-- ITS FALSE NEIGHBOUR: 'it returns false'. Refute it at one input. -/
def fnDeterminantsWrong : ChangeSpec := { name := "fnDeterminants", fn := fun _ => fun
  | [d] => { results := [.lit (.bool false)], args := [d] }
  | _ => none }
def FnDeterminantsWrongFalsely : Prop := fnDeterminantsRow.holds Try.pinned (OpenSpec.ofChange fnDeterminantsWrong)

/-- 'laws.FnLinearSystems': WHATEVER THE INPUT: true; the input reads as it did. -/
def fnLinearSystemsSpec : ChangeSpec := { name := "fnLinearSystems", fn := fun _ => fun
  | [d] => { results := [.lit (.bool true)], args := [d] }
  | _ => none }
def fnLinearSystemsRow : OpenClaim := { program := "ytgicbmfcojfjcab", sum := "9f5df8f864133bf05e771d1ee64992f80b4ab3c8fbfee4cdba3c6f3614307b67", func := "loop.example/g01100/laws.FnLinearSystems", spec := "fnLinearSystems", recurses := true, apart := false }
def FnLinearSystemsSaid : Prop := fnLinearSystemsRow.holds Try.pinned (OpenSpec.ofChange fnLinearSystemsSpec)

/-- ITS FALSE NEIGHBOUR: 'it returns false'. Refute it at one input. -/
def fnLinearSystemsWrong : ChangeSpec := { name := "fnLinearSystems", fn := fun _ => fun
  | [d] => { results := [.lit (.bool false)], args := [d] }
  | _ => none }
def FnLinearSystemsWrongFalsely : Prop := fnLinearSystemsRow.holds Try.pinned (OpenSpec.ofChange fnLinearSystemsWrong)

/- THE SECOND FORM. 'bulk': how many values and letters a reading holds, each counted each time it is reached (what is shared counts as often as it is met; a slice's spare places count too). A statement '..UptoSaid' is the law's where the arguments, and the package variables that the reading takes, are together of bulk at most 1048576: NARROWER than '..Said'. Prove '..Said' where nothing that the law and all that it calls make is longer than what came in: it says more and counts as full. Else prove '..UptoSaid'. A law counts once. -/
mutual
def uptoBulk {H : Type} : DataW H → Nat
  | .lit (.string bytes) => bytes.length + 1
  | .lit _ => 1
  | .nil => 1
  | .ptr d => uptoBulk d + 1
  | .slice elems spare => uptoBulkAll elems + uptoBulkAll spare + 1
  | .agg parts => uptoBulkAll parts + 1
  | .iface _ d => uptoBulk d + 1
  | .map entries => uptoBulkEntries entries + 1
  | .held _ => 1
def uptoBulkAll {H : Type} : List (DataW H) → Nat
  | [] => 0
  | d :: r => uptoBulk d + uptoBulkAll r
def uptoBulkEntries {H : Type} : List (Lit × DataW H) → Nat
  | [] => 0
  | x :: r => uptoBulkEntry x + uptoBulkEntries r
def uptoBulkEntry {H : Type} : Lit × DataW H → Nat
  | (.string bytes, d) => bytes.length + uptoBulk d + 1
  | (_, d) => uptoBulk d + 1
 end
def uptoSmall : (H : Type) → List (DataW H) → Bool := fun _ ds => decide (uptoBulkAll ds ≤ 1048576)
def OpenSpec.upto (s : _root_.Go.ChangeSpec) : _root_.Go.OpenSpec := { _root_.Go.OpenSpec.ofChange s with cond := some uptoSmall }

/-- 'laws.FnExactGraftSum', WHERE WHAT IT READS IS OF BULK AT MOST 1048576: true; the input reads as it did. -/
def fnExactGraftSumUptoRow : OpenClaim := { program := "ytgicbmfcojfjcab", sum := "9f5df8f864133bf05e771d1ee64992f80b4ab3c8fbfee4cdba3c6f3614307b67", func := "loop.example/g01100/laws.FnExactGraftSum", spec := "fnExactGraftSum", inPlace := ["internal/abi.NoEscape"], unfollowed := true, recurses := true, apart := false, narrowed := true }
def FnExactGraftSumUptoSaid : Prop := fnExactGraftSumUptoRow.holds Try.pinned (OpenSpec.upto fnExactGraftSumSpec)

/-- 'laws.FnExactCountCutsTo', WHERE WHAT IT READS IS OF BULK AT MOST 1048576: true; the input reads as it did. -/
def fnExactCountCutsToUptoRow : OpenClaim := { program := "ytgicbmfcojfjcab", sum := "9f5df8f864133bf05e771d1ee64992f80b4ab3c8fbfee4cdba3c6f3614307b67", func := "loop.example/g01100/laws.FnExactCountCutsTo", spec := "fnExactCountCutsTo", inPlace := ["internal/abi.NoEscape"], recurses := true, apart := false, narrowed := true }
def FnExactCountCutsToUptoSaid : Prop := fnExactCountCutsToUptoRow.holds Try.pinned (OpenSpec.upto fnExactCountCutsToSpec)

/-- 'laws.FnExactRootsOf', WHERE WHAT IT READS IS OF BULK AT MOST 1048576: true; the input reads as it did. -/
def fnExactRootsOfUptoRow : OpenClaim := { program := "ytgicbmfcojfjcab", sum := "9f5df8f864133bf05e771d1ee64992f80b4ab3c8fbfee4cdba3c6f3614307b67", func := "loop.example/g01100/laws.FnExactRootsOf", spec := "fnExactRootsOf", inPlace := ["internal/abi.NoEscape"], unfollowed := true, recurses := true, apart := false, narrowed := true }
def FnExactRootsOfUptoSaid : Prop := fnExactRootsOfUptoRow.holds Try.pinned (OpenSpec.upto fnExactRootsOfSpec)

/-- 'laws.FnExactFreeTreesOf', WHERE WHAT IT READS IS OF BULK AT MOST 1048576: true; the input reads as it did. -/
def fnExactFreeTreesOfUptoRow : OpenClaim := { program := "ytgicbmfcojfjcab", sum := "9f5df8f864133bf05e771d1ee64992f80b4ab3c8fbfee4cdba3c6f3614307b67", func := "loop.example/g01100/laws.FnExactFreeTreesOf", spec := "fnExactFreeTreesOf", inPlace := ["internal/abi.NoEscape"], unfollowed := true, recurses := true, apart := false, narrowed := true }
def FnExactFreeTreesOfUptoSaid : Prop := fnExactFreeTreesOfUptoRow.holds Try.pinned (OpenSpec.upto fnExactFreeTreesOfSpec)

/-- 'laws.FnExactIsSuperfluous', WHERE WHAT IT READS IS OF BULK AT MOST 1048576: true; the input reads as it did. -/
def fnExactIsSuperfluousUptoRow : OpenClaim := { program := "ytgicbmfcojfjcab", sum := "9f5df8f864133bf05e771d1ee64992f80b4ab3c8fbfee4cdba3c6f3614307b67", func := "loop.example/g01100/laws.FnExactIsSuperfluous", spec := "fnExactIsSuperfluous", inPlace := ["internal/abi.NoEscape"], unfollowed := true, recurses := true, apart := false, narrowed := true }
def FnExactIsSuperfluousUptoSaid : Prop := fnExactIsSuperfluousUptoRow.holds Try.pinned (OpenSpec.upto fnExactIsSuperfluousSpec)

/-- 'laws.FnGraftCounts', WHERE WHAT IT READS IS OF BULK AT MOST 1048576: true; the input reads as it did. -/
def fnGraftCountsUptoRow : OpenClaim := { program := "ytgicbmfcojfjcab", sum := "9f5df8f864133bf05e771d1ee64992f80b4ab3c8fbfee4cdba3c6f3614307b67", func := "loop.example/g01100/laws.FnGraftCounts", spec := "fnGraftCounts", inPlace := ["internal/abi.NoEscape"], unfollowed := true, recurses := true, apart := false, narrowed := true }
def FnGraftCountsUptoSaid : Prop := fnGraftCountsUptoRow.holds Try.pinned (OpenSpec.upto fnGraftCountsSpec)

/-- 'laws.FnCutEdges', WHERE WHAT IT READS IS OF BULK AT MOST 1048576: true; the input reads as it did. -/
def fnCutEdgesUptoRow : OpenClaim := { program := "ytgicbmfcojfjcab", sum := "9f5df8f864133bf05e771d1ee64992f80b4ab3c8fbfee4cdba3c6f3614307b67", func := "loop.example/g01100/laws.FnCutEdges", spec := "fnCutEdges", inPlace := ["internal/abi.NoEscape"], unfollowed := true, recurses := true, apart := false, narrowed := true }
def FnCutEdgesUptoSaid : Prop := fnCutEdgesUptoRow.holds Try.pinned (OpenSpec.upto fnCutEdgesSpec)

/-- 'laws.FnExactInverseMatrix', WHERE WHAT IT READS IS OF BULK AT MOST 1048576: true; the input reads as it did. -/
def fnExactInverseMatrixUptoRow : OpenClaim := { program := "ytgicbmfcojfjcab", sum := "9f5df8f864133bf05e771d1ee64992f80b4ab3c8fbfee4cdba3c6f3614307b67", func := "loop.example/g01100/laws.FnExactInverseMatrix", spec := "fnExactInverseMatrix", recurses := true, apart := false, narrowed := true }
def FnExactInverseMatrixUptoSaid : Prop := fnExactInverseMatrixUptoRow.holds Try.pinned (OpenSpec.upto fnExactInverseMatrixSpec)

/-- 'laws.FnExactSolveLinear', WHERE WHAT IT READS IS OF BULK AT MOST 1048576: true; the input reads as it did. -/
def fnExactSolveLinearUptoRow : OpenClaim := { program := "ytgicbmfcojfjcab", sum := "9f5df8f864133bf05e771d1ee64992f80b4ab3c8fbfee4cdba3c6f3614307b67", func := "loop.example/g01100/laws.FnExactSolveLinear", spec := "fnExactSolveLinear", recurses := true, apart := false, narrowed := true }
def FnExactSolveLinearUptoSaid : Prop := fnExactSolveLinearUptoRow.holds Try.pinned (OpenSpec.upto fnExactSolveLinearSpec)

/-- 'laws.FnDeterminants', WHERE WHAT IT READS IS OF BULK AT MOST 1048576: true; the input reads as it did. -/
def fnDeterminantsUptoRow : OpenClaim := { program := "ytgicbmfcojfjcab", sum := "9f5df8f864133bf05e771d1ee64992f80b4ab3c8fbfee4cdba3c6f3614307b67", func := "loop.example/g01100/laws.FnDeterminants", spec := "fnDeterminants", recurses := true, apart := false, narrowed := true }
def FnDeterminantsUptoSaid : Prop := fnDeterminantsUptoRow.holds Try.pinned (OpenSpec.upto fnDeterminantsSpec)

/-- 'laws.FnLinearSystems', WHERE WHAT IT READS IS OF BULK AT MOST 1048576: true; the input reads as it did. -/
def fnLinearSystemsUptoRow : OpenClaim := { program := "ytgicbmfcojfjcab", sum := "9f5df8f864133bf05e771d1ee64992f80b4ab3c8fbfee4cdba3c6f3614307b67", func := "loop.example/g01100/laws.FnLinearSystems", spec := "fnLinearSystems", recurses := true, apart := false, narrowed := true }
def FnLinearSystemsUptoSaid : Prop := fnLinearSystemsUptoRow.holds Try.pinned (OpenSpec.upto fnLinearSystemsSpec)

end Rows
end Go.Proofs.Ytgicbmfcojfjcab
