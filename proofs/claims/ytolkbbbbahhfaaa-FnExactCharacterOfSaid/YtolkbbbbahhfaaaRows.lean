/-
  No cell of these rows narrows 'for every input' (looked for: loops, veiled, ifaces, maps, wideKeys, modest, calm, conditions, laid).
  DERIVED. THE GIVEN ROWS OF THIS SEAT. 7 by the template 'for every input the law returns true; each argument reads behind the call as it read before'; 0 by the template 'total and deterministic' (their statements: YtolkbbbbahhfaaaTotals.lean).
  GIVEN WITH THE SEED: the statements are not yours to turn. If you find one false, say at which input.
  Laid BY PROGRAM, IN A SANDBOX (cutbox-rows.mjs): the forced cells as the released guide's own fill.sh prints them over the translation a0aac42e5a2fe567… (all of the seat's roots in one cut). By AI agents, Wed Nov 11 2026. No macro, syntax, notation, axiom, sorry.
-/
import Derived.Test.YtolkbbbbahhfaaaChecked
import GoSem.Claim
import GoSem.ClaimJoined
import GoSem.ClaimMapViews
import Derived.JoinedTies
import Derived.KernelRfl
namespace Go.Proofs.Ytolkbbbbahhfaaa
/- THE CELL 'sum', in the pinned program and in every row, IS THE sha256 OF THE DUMP (.gsa) THAT YtolkbbbbahhfaaaProg.lean LOADS. Nothing in Lean hashes anything: it is a label: what it is worth is what the hold of that sum in a sandbox is worth. -/
noncomputable def Try.pinned : Pinned := { name := "ytolkbbbbahhfaaa", sum := "a0aac42e5a2fe567ee46a548e90de496d3435c306330641e05034f5403d5c088", checked := Try.checked }
namespace Rows
def none {H : Type} : Left H := { results := [], args := [] }

/-- 'laws.FnExactIsTableau': WHATEVER THE INPUT: true; the input reads as it did. -/
def fnExactIsTableauSpec : ChangeSpec := { name := "fnExactIsTableau", fn := fun _ => fun
  | [d] => { results := [.lit (.bool true)], args := [d] }
  | _ => none }
def fnExactIsTableauRow : OpenClaim := { program := "ytolkbbbbahhfaaa", sum := "a0aac42e5a2fe567ee46a548e90de496d3435c306330641e05034f5403d5c088", func := "loop.example/g01100/laws.FnExactIsTableau", spec := "fnExactIsTableau", apart := false }
def FnExactIsTableauSaid : Prop := fnExactIsTableauRow.holds Try.pinned (OpenSpec.ofChange fnExactIsTableauSpec)

/-- ITS FALSE NEIGHBOUR: 'it returns false'. Refute it at one input. -/
def fnExactIsTableauWrong : ChangeSpec := { name := "fnExactIsTableau", fn := fun _ => fun
  | [d] => { results := [.lit (.bool false)], args := [d] }
  | _ => none }
def FnExactIsTableauWrongFalsely : Prop := fnExactIsTableauRow.holds Try.pinned (OpenSpec.ofChange fnExactIsTableauWrong)

/-- 'laws.FnExactNodesOf': WHATEVER THE INPUT: true; the input reads as it did. -/
def fnExactNodesOfSpec : ChangeSpec := { name := "fnExactNodesOf", fn := fun _ => fun
  | [d] => { results := [.lit (.bool true)], args := [d] }
  | _ => none }
def fnExactNodesOfRow : OpenClaim := { program := "ytolkbbbbahhfaaa", sum := "a0aac42e5a2fe567ee46a548e90de496d3435c306330641e05034f5403d5c088", func := "loop.example/g01100/laws.FnExactNodesOf", spec := "fnExactNodesOf", apart := false }
def FnExactNodesOfSaid : Prop := fnExactNodesOfRow.holds Try.pinned (OpenSpec.ofChange fnExactNodesOfSpec)

/-- ITS FALSE NEIGHBOUR: 'it returns false'. Refute it at one input. -/
def fnExactNodesOfWrong : ChangeSpec := { name := "fnExactNodesOf", fn := fun _ => fun
  | [d] => { results := [.lit (.bool false)], args := [d] }
  | _ => none }
def FnExactNodesOfWrongFalsely : Prop := fnExactNodesOfRow.holds Try.pinned (OpenSpec.ofChange fnExactNodesOfWrong)

/-- 'laws.FnExactIsExplicit': WHATEVER THE INPUT: true; the input reads as it did. -/
def fnExactIsExplicitSpec : ChangeSpec := { name := "fnExactIsExplicit", fn := fun _ => fun
  | [d] => { results := [.lit (.bool true)], args := [d] }
  | _ => none }
def fnExactIsExplicitRow : OpenClaim := { program := "ytolkbbbbahhfaaa", sum := "a0aac42e5a2fe567ee46a548e90de496d3435c306330641e05034f5403d5c088", func := "loop.example/g01100/laws.FnExactIsExplicit", spec := "fnExactIsExplicit", apart := false }
def FnExactIsExplicitSaid : Prop := fnExactIsExplicitRow.holds Try.pinned (OpenSpec.ofChange fnExactIsExplicitSpec)

/-- ITS FALSE NEIGHBOUR: 'it returns false'. Refute it at one input. -/
def fnExactIsExplicitWrong : ChangeSpec := { name := "fnExactIsExplicit", fn := fun _ => fun
  | [d] => { results := [.lit (.bool false)], args := [d] }
  | _ => none }
def FnExactIsExplicitWrongFalsely : Prop := fnExactIsExplicitRow.holds Try.pinned (OpenSpec.ofChange fnExactIsExplicitWrong)

/-- 'laws.FnExactIsDiagonal': WHATEVER THE INPUT: true; the input reads as it did. -/
def fnExactIsDiagonalSpec : ChangeSpec := { name := "fnExactIsDiagonal", fn := fun _ => fun
  | [d] => { results := [.lit (.bool true)], args := [d] }
  | _ => none }
def fnExactIsDiagonalRow : OpenClaim := { program := "ytolkbbbbahhfaaa", sum := "a0aac42e5a2fe567ee46a548e90de496d3435c306330641e05034f5403d5c088", func := "loop.example/g01100/laws.FnExactIsDiagonal", spec := "fnExactIsDiagonal", apart := false }
def FnExactIsDiagonalSaid : Prop := fnExactIsDiagonalRow.holds Try.pinned (OpenSpec.ofChange fnExactIsDiagonalSpec)

/-- ITS FALSE NEIGHBOUR: 'it returns false'. Refute it at one input. -/
def fnExactIsDiagonalWrong : ChangeSpec := { name := "fnExactIsDiagonal", fn := fun _ => fun
  | [d] => { results := [.lit (.bool false)], args := [d] }
  | _ => none }
def FnExactIsDiagonalWrongFalsely : Prop := fnExactIsDiagonalRow.holds Try.pinned (OpenSpec.ofChange fnExactIsDiagonalWrong)

/-- 'laws.FnExactStageWeights': WHATEVER THE INPUT: true; the input reads as it did. -/
def fnExactStageWeightsSpec : ChangeSpec := { name := "fnExactStageWeights", fn := fun _ => fun
  | [d1, d2] => { results := [.lit (.bool true)], args := [d1, d2] }
  | _ => none }
def fnExactStageWeightsRow : OpenClaim := { program := "ytolkbbbbahhfaaa", sum := "a0aac42e5a2fe567ee46a548e90de496d3435c306330641e05034f5403d5c088", func := "loop.example/g01100/laws.FnExactStageWeights", spec := "fnExactStageWeights", inPlace := ["internal/abi.NoEscape"], recurses := true, apart := false }
def FnExactStageWeightsSaid : Prop := fnExactStageWeightsRow.holds Try.pinned (OpenSpec.ofChange fnExactStageWeightsSpec)

/-- ITS FALSE NEIGHBOUR: 'it returns false'. Refute it at one input. -/
def fnExactStageWeightsWrong : ChangeSpec := { name := "fnExactStageWeights", fn := fun _ => fun
  | [d1, d2] => { results := [.lit (.bool false)], args := [d1, d2] }
  | _ => none }
def FnExactStageWeightsWrongFalsely : Prop := fnExactStageWeightsRow.holds Try.pinned (OpenSpec.ofChange fnExactStageWeightsWrong)

/-- 'laws.FnExactWeightOf': WHATEVER THE INPUT: true; the input reads as it did. -/
def fnExactWeightOfSpec : ChangeSpec := { name := "fnExactWeightOf", fn := fun _ => fun
  | [d1, d2] => { results := [.lit (.bool true)], args := [d1, d2] }
  | _ => none }
def fnExactWeightOfRow : OpenClaim := { program := "ytolkbbbbahhfaaa", sum := "a0aac42e5a2fe567ee46a548e90de496d3435c306330641e05034f5403d5c088", func := "loop.example/g01100/laws.FnExactWeightOf", spec := "fnExactWeightOf", inPlace := ["internal/abi.NoEscape"], recurses := true, apart := false }
def FnExactWeightOfSaid : Prop := fnExactWeightOfRow.holds Try.pinned (OpenSpec.ofChange fnExactWeightOfSpec)

/-- ITS FALSE NEIGHBOUR: 'it returns false'. Refute it at one input. -/
def fnExactWeightOfWrong : ChangeSpec := { name := "fnExactWeightOf", fn := fun _ => fun
  | [d1, d2] => { results := [.lit (.bool false)], args := [d1, d2] }
  | _ => none }
def FnExactWeightOfWrongFalsely : Prop := fnExactWeightOfRow.holds Try.pinned (OpenSpec.ofChange fnExactWeightOfWrong)

/-- 'laws.FnExactCharacterOf': WHATEVER THE INPUT: true; the input reads as it did. -/
def fnExactCharacterOfSpec : ChangeSpec := { name := "fnExactCharacterOf", fn := fun _ => fun
  | [d] => { results := [.lit (.bool true)], args := [d] }
  | _ => none }
def fnExactCharacterOfRow : OpenClaim := { program := "ytolkbbbbahhfaaa", sum := "a0aac42e5a2fe567ee46a548e90de496d3435c306330641e05034f5403d5c088", func := "loop.example/g01100/laws.FnExactCharacterOf", spec := "fnExactCharacterOf", inPlace := ["internal/abi.NoEscape"], recurses := true, apart := false }
def FnExactCharacterOfSaid : Prop := fnExactCharacterOfRow.holds Try.pinned (OpenSpec.ofChange fnExactCharacterOfSpec)

/-- ITS FALSE NEIGHBOUR: 'it returns false'. Refute it at one input. -/
def fnExactCharacterOfWrong : ChangeSpec := { name := "fnExactCharacterOf", fn := fun _ => fun
  | [d] => { results := [.lit (.bool false)], args := [d] }
  | _ => none }
def FnExactCharacterOfWrongFalsely : Prop := fnExactCharacterOfRow.holds Try.pinned (OpenSpec.ofChange fnExactCharacterOfWrong)

/- THE SECOND FORM. 'bulk': how many values and letters a reading holds, each counted each time it is reached (what is shared counts as often as it is met; a slice's spare places count too). A statement '..UptoSaid' is the law's where the arguments, and the package variables that the reading takes, are together of bulk at most 1048576: NARROWER than '..Said'. Prove '..Said' where nothing that the law and all that it calls make is longer than what came in: it says more and counts as full. Else prove '..UptoSaid'. A law counts once. -/
mutual
def uptoBulk {H : Type} : DataW H → Nat
  | .lit (.string bytes) => bytes.length + 1
  | .lit _ => 1
  | .nil => 1
  | .ptr d => uptoBulk d + 1
  | .slice elems spare => uptoBulkAll elems + uptoBulkAll spare + 1
  | .agg parts => uptoBulkAll parts + 1
  | .iface _ d => uptoBulk d + 1
  | .map entries => uptoBulkEntries entries + 1
  | .held _ => 1
def uptoBulkAll {H : Type} : List (DataW H) → Nat
  | [] => 0
  | d :: r => uptoBulk d + uptoBulkAll r
def uptoBulkEntries {H : Type} : List (Lit × DataW H) → Nat
  | [] => 0
  | x :: r => uptoBulkEntry x + uptoBulkEntries r
def uptoBulkEntry {H : Type} : Lit × DataW H → Nat
  | (.string bytes, d) => bytes.length + uptoBulk d + 1
  | (_, d) => uptoBulk d + 1
 end
def uptoSmall : (H : Type) → List (DataW H) → Bool := fun _ ds => decide (uptoBulkAll ds ≤ 1048576)
def OpenSpec.upto (s : _root_.Go.ChangeSpec) : _root_.Go.OpenSpec := { _root_.Go.OpenSpec.ofChange s with cond := some uptoSmall }

/-- 'laws.FnExactIsTableau', WHERE WHAT IT READS IS OF BULK AT MOST 1048576: true; the input reads as it did. -/
def fnExactIsTableauUptoRow : OpenClaim := { program := "ytolkbbbbahhfaaa", sum := "a0aac42e5a2fe567ee46a548e90de496d3435c306330641e05034f5403d5c088", func := "loop.example/g01100/laws.FnExactIsTableau", spec := "fnExactIsTableau", apart := false, narrowed := true }
def FnExactIsTableauUptoSaid : Prop := fnExactIsTableauUptoRow.holds Try.pinned (OpenSpec.upto fnExactIsTableauSpec)

/-- 'laws.FnExactNodesOf', WHERE WHAT IT READS IS OF BULK AT MOST 1048576: true; the input reads as it did. -/
def fnExactNodesOfUptoRow : OpenClaim := { program := "ytolkbbbbahhfaaa", sum := "a0aac42e5a2fe567ee46a548e90de496d3435c306330641e05034f5403d5c088", func := "loop.example/g01100/laws.FnExactNodesOf", spec := "fnExactNodesOf", apart := false, narrowed := true }
def FnExactNodesOfUptoSaid : Prop := fnExactNodesOfUptoRow.holds Try.pinned (OpenSpec.upto fnExactNodesOfSpec)

/-- 'laws.FnExactIsExplicit', WHERE WHAT IT READS IS OF BULK AT MOST 1048576: true; the input reads as it did. -/
def fnExactIsExplicitUptoRow : OpenClaim := { program := "ytolkbbbbahhfaaa", sum := "a0aac42e5a2fe567ee46a548e90de496d3435c306330641e05034f5403d5c088", func := "loop.example/g01100/laws.FnExactIsExplicit", spec := "fnExactIsExplicit", apart := false, narrowed := true }
def FnExactIsExplicitUptoSaid : Prop := fnExactIsExplicitUptoRow.holds Try.pinned (OpenSpec.upto fnExactIsExplicitSpec)

/-- 'laws.FnExactIsDiagonal', WHERE WHAT IT READS IS OF BULK AT MOST 1048576: true; the input reads as it did. -/
def fnExactIsDiagonalUptoRow : OpenClaim := { program := "ytolkbbbbahhfaaa", sum := "a0aac42e5a2fe567ee46a548e90de496d3435c306330641e05034f5403d5c088", func := "loop.example/g01100/laws.FnExactIsDiagonal", spec := "fnExactIsDiagonal", apart := false, narrowed := true }
def FnExactIsDiagonalUptoSaid : Prop := fnExactIsDiagonalUptoRow.holds Try.pinned (OpenSpec.upto fnExactIsDiagonalSpec)

/-- 'laws.FnExactStageWeights', WHERE WHAT IT READS IS OF BULK AT MOST 1048576: true; the input reads as it did. -/
def fnExactStageWeightsUptoRow : OpenClaim := { program := "ytolkbbbbahhfaaa", sum := "a0aac42e5a2fe567ee46a548e90de496d3435c306330641e05034f5403d5c088", func := "loop.example/g01100/laws.FnExactStageWeights", spec := "fnExactStageWeights", inPlace := ["internal/abi.NoEscape"], recurses := true, apart := false, narrowed := true }
def FnExactStageWeightsUptoSaid : Prop := fnExactStageWeightsUptoRow.holds Try.pinned (OpenSpec.upto fnExactStageWeightsSpec)

/-- 'laws.FnExactWeightOf', WHERE WHAT IT READS IS OF BULK AT MOST 1048576: true; the input reads as it did. -/
def fnExactWeightOfUptoRow : OpenClaim := { program := "ytolkbbbbahhfaaa", sum := "a0aac42e5a2fe567ee46a548e90de496d3435c306330641e05034f5403d5c088", func := "loop.example/g01100/laws.FnExactWeightOf", spec := "fnExactWeightOf", inPlace := ["internal/abi.NoEscape"], recurses := true, apart := false, narrowed := true }
def FnExactWeightOfUptoSaid : Prop := fnExactWeightOfUptoRow.holds Try.pinned (OpenSpec.upto fnExactWeightOfSpec)

/-- 'laws.FnExactCharacterOf', WHERE WHAT IT READS IS OF BULK AT MOST 1048576: true; the input reads as it did. -/
def fnExactCharacterOfUptoRow : OpenClaim := { program := "ytolkbbbbahhfaaa", sum := "a0aac42e5a2fe567ee46a548e90de496d3435c306330641e05034f5403d5c088", func := "loop.example/g01100/laws.FnExactCharacterOf", spec := "fnExactCharacterOf", inPlace := ["internal/abi.NoEscape"], recurses := true, apart := false, narrowed := true }
def FnExactCharacterOfUptoSaid : Prop := fnExactCharacterOfUptoRow.holds Try.pinned (OpenSpec.upto fnExactCharacterOfSpec)

end Rows
end Go.Proofs.Ytolkbbbbahhfaaa
