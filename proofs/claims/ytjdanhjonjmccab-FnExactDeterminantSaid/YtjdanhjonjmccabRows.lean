/-
  No cell of these rows narrows 'for every input' (looked for: loops, veiled, ifaces, maps, wideKeys, modest, calm, conditions, laid).
  DERIVED. THE GIVEN ROWS OF THIS SEAT. 9 by the template 'for every input the law returns true; each argument reads behind the call as it read before'; 0 by the template 'total and deterministic' (their statements: YtjdanhjonjmccabTotals.lean).
  GIVEN WITH THE SEED: the statements are not yours to turn. If you find one false, say at which input.
  Laid BY PROGRAM, IN A SANDBOX (cutbox-rows.mjs): the forced cells as the released guide's own fill.sh prints them over the translation 25e8d3eda9fca5a9… (all of the seat's roots in one cut). By AI agents, Wed Nov 11 2026. No macro, syntax, notation, axiom, sorry.
-/
import Derived.Test.YtjdanhjonjmccabChecked
import GoSem.Claim
import GoSem.ClaimJoined
import GoSem.ClaimMapViews
import Derived.JoinedTies
import Derived.KernelRfl
namespace Go.Proofs.Ytjdanhjonjmccab
/- THE CELL 'sum', in the pinned program and in every row, IS THE sha256 OF THE DUMP (.gsa) THAT YtjdanhjonjmccabProg.lean LOADS. Nothing in Lean hashes anything: it is a label: what it is worth is what the hold of that sum in a sandbox is worth. -/
noncomputable def Try.pinned : Pinned := { name := "ytjdanhjonjmccab", sum := "25e8d3eda9fca5a9e597034ab9f59e5e0a9576f1b8279d7632077b1088524755", checked := Try.checked }
namespace Rows
def none {H : Type} : Left H := { results := [], args := [] }

/-- 'laws.FnSeriesProducts': WHATEVER THE INPUT: true; the input reads as it did. -/
def fnSeriesProductsSpec : ChangeSpec := { name := "fnSeriesProducts", fn := fun _ => fun
  | [d] => { results := [.lit (.bool true)], args := [d] }
  | _ => none }
def fnSeriesProductsRow : OpenClaim := { program := "ytjdanhjonjmccab", sum := "25e8d3eda9fca5a9e597034ab9f59e5e0a9576f1b8279d7632077b1088524755", func := "loop.example/g01100/laws.FnSeriesProducts", spec := "fnSeriesProducts", apart := false }
def FnSeriesProductsSaid : Prop := fnSeriesProductsRow.holds Try.pinned (OpenSpec.ofChange fnSeriesProductsSpec)

/-- ITS FALSE NEIGHBOUR: 'it returns false'. Refute it at one input. -/
def fnSeriesProductsWrong : ChangeSpec := { name := "fnSeriesProducts", fn := fun _ => fun
  | [d] => { results := [.lit (.bool false)], args := [d] }
  | _ => none }
def FnSeriesProductsWrongFalsely : Prop := fnSeriesProductsRow.holds Try.pinned (OpenSpec.ofChange fnSeriesProductsWrong)

/-- 'laws.FnExponentials': WHATEVER THE INPUT: true; the input reads as it did. -/
def fnExponentialsSpec : ChangeSpec := { name := "fnExponentials", fn := fun _ => fun
  | [d] => { results := [.lit (.bool true)], args := [d] }
  | _ => none }
def fnExponentialsRow : OpenClaim := { program := "ytjdanhjonjmccab", sum := "25e8d3eda9fca5a9e597034ab9f59e5e0a9576f1b8279d7632077b1088524755", func := "loop.example/g01100/laws.FnExponentials", spec := "fnExponentials", apart := false }
def FnExponentialsSaid : Prop := fnExponentialsRow.holds Try.pinned (OpenSpec.ofChange fnExponentialsSpec)

/-- ITS FALSE NEIGHBOUR: 'it returns false'. Refute it at one input. -/
def fnExponentialsWrong : ChangeSpec := { name := "fnExponentials", fn := fun _ => fun
  | [d] => { results := [.lit (.bool false)], args := [d] }
  | _ => none }
def FnExponentialsWrongFalsely : Prop := fnExponentialsRow.holds Try.pinned (OpenSpec.ofChange fnExponentialsWrong)

/-- 'laws.FnReversions': WHATEVER THE INPUT: true; the input reads as it did. -/
def fnReversionsSpec : ChangeSpec := { name := "fnReversions", fn := fun _ => fun
  | [d] => { results := [.lit (.bool true)], args := [d] }
  | _ => none }
def fnReversionsRow : OpenClaim := { program := "ytjdanhjonjmccab", sum := "25e8d3eda9fca5a9e597034ab9f59e5e0a9576f1b8279d7632077b1088524755", func := "loop.example/g01100/laws.FnReversions", spec := "fnReversions", apart := false }
def FnReversionsSaid : Prop := fnReversionsRow.holds Try.pinned (OpenSpec.ofChange fnReversionsSpec)

/-- ITS FALSE NEIGHBOUR: 'it returns false'. Refute it at one input. -/
def fnReversionsWrong : ChangeSpec := { name := "fnReversions", fn := fun _ => fun
  | [d] => { results := [.lit (.bool false)], args := [d] }
  | _ => none }
def FnReversionsWrongFalsely : Prop := fnReversionsRow.holds Try.pinned (OpenSpec.ofChange fnReversionsWrong)

/-- 'laws.FnCompositions': WHATEVER THE INPUT: true; the input reads as it did. -/
def fnCompositionsSpec : ChangeSpec := { name := "fnCompositions", fn := fun _ => fun
  | [d] => { results := [.lit (.bool true)], args := [d] }
  | _ => none }
def fnCompositionsRow : OpenClaim := { program := "ytjdanhjonjmccab", sum := "25e8d3eda9fca5a9e597034ab9f59e5e0a9576f1b8279d7632077b1088524755", func := "loop.example/g01100/laws.FnCompositions", spec := "fnCompositions", apart := false }
def FnCompositionsSaid : Prop := fnCompositionsRow.holds Try.pinned (OpenSpec.ofChange fnCompositionsSpec)

/-- ITS FALSE NEIGHBOUR: 'it returns false'. Refute it at one input. -/
def fnCompositionsWrong : ChangeSpec := { name := "fnCompositions", fn := fun _ => fun
  | [d] => { results := [.lit (.bool false)], args := [d] }
  | _ => none }
def FnCompositionsWrongFalsely : Prop := fnCompositionsRow.holds Try.pinned (OpenSpec.ofChange fnCompositionsWrong)

/-- 'laws.FnExactDeterminant': WHATEVER THE INPUT: true; the input reads as it did. -/
def fnExactDeterminantSpec : ChangeSpec := { name := "fnExactDeterminant", fn := fun _ => fun
  | [d] => { results := [.lit (.bool true)], args := [d] }
  | _ => none }
def fnExactDeterminantRow : OpenClaim := { program := "ytjdanhjonjmccab", sum := "25e8d3eda9fca5a9e597034ab9f59e5e0a9576f1b8279d7632077b1088524755", func := "loop.example/g01100/laws.FnExactDeterminant", spec := "fnExactDeterminant", recurses := true, apart := false }
def FnExactDeterminantSaid : Prop := fnExactDeterminantRow.holds Try.pinned (OpenSpec.ofChange fnExactDeterminantSpec)

/-- ITS FALSE NEIGHBOUR: 'it returns false'. Refute it at one input. -/
def fnExactDeterminantWrong : ChangeSpec := { name := "fnExactDeterminant", fn := fun _ => fun
  | [d] => { results := [.lit (.bool false)], args := [d] }
  | _ => none }
def FnExactDeterminantWrongFalsely : Prop := fnExactDeterminantRow.holds Try.pinned (OpenSpec.ofChange fnExactDeterminantWrong)

/-- 'laws.FnExactInverseMatrix': WHATEVER THE INPUT: true; the input reads as it did. -/
def fnExactInverseMatrixSpec : ChangeSpec := { name := "fnExactInverseMatrix", fn := fun _ => fun
  | [d] => { results := [.lit (.bool true)], args := [d] }
  | _ => none }
def fnExactInverseMatrixRow : OpenClaim := { program := "ytjdanhjonjmccab", sum := "25e8d3eda9fca5a9e597034ab9f59e5e0a9576f1b8279d7632077b1088524755", func := "loop.example/g01100/laws.FnExactInverseMatrix", spec := "fnExactInverseMatrix", recurses := true, apart := false }
def FnExactInverseMatrixSaid : Prop := fnExactInverseMatrixRow.holds Try.pinned (OpenSpec.ofChange fnExactInverseMatrixSpec)

/-- ITS FALSE NEIGHBOUR: 'it returns false'. Refute it at one input. -/
def fnExactInverseMatrixWrong : ChangeSpec := { name := "fnExactInverseMatrix", fn := fun _ => fun
  | [d] => { results := [.lit (.bool false)], args := [d] }
  | _ => none }
def FnExactInverseMatrixWrongFalsely : Prop := fnExactInverseMatrixRow.holds Try.pinned (OpenSpec.ofChange fnExactInverseMatrixWrong)

/-- 'laws.FnExactSolveLinear': WHATEVER THE INPUT: true; the input reads as it did. -/
def fnExactSolveLinearSpec : ChangeSpec := { name := "fnExactSolveLinear", fn := fun _ => fun
  | [d1, d2] => { results := [.lit (.bool true)], args := [d1, d2] }
  | _ => none }
def fnExactSolveLinearRow : OpenClaim := { program := "ytjdanhjonjmccab", sum := "25e8d3eda9fca5a9e597034ab9f59e5e0a9576f1b8279d7632077b1088524755", func := "loop.example/g01100/laws.FnExactSolveLinear", spec := "fnExactSolveLinear", recurses := true, apart := false }
def FnExactSolveLinearSaid : Prop := fnExactSolveLinearRow.holds Try.pinned (OpenSpec.ofChange fnExactSolveLinearSpec)

/-- ITS FALSE NEIGHBOUR: 'it returns false'. Refute it at one input. -/
def fnExactSolveLinearWrong : ChangeSpec := { name := "fnExactSolveLinear", fn := fun _ => fun
  | [d1, d2] => { results := [.lit (.bool false)], args := [d1, d2] }
  | _ => none }
def FnExactSolveLinearWrongFalsely : Prop := fnExactSolveLinearRow.holds Try.pinned (OpenSpec.ofChange fnExactSolveLinearWrong)

/-- 'laws.FnDeterminants': WHATEVER THE INPUT: true; the input reads as it did. -/
def fnDeterminantsSpec : ChangeSpec := { name := "fnDeterminants", fn := fun _ => fun
  | [d] => { results := [.lit (.bool true)], args := [d] }
  | _ => none }
def fnDeterminantsRow : OpenClaim := { program := "ytjdanhjonjmccab", sum := "25e8d3eda9fca5a9e597034ab9f59e5e0a9576f1b8279d7632077b1088524755", func := "loop.example/g01100/laws.FnDeterminants", spec := "fnDeterminants", recurses := true, apart := false }
def FnDeterminantsSaid : Prop := fnDeterminantsRow.holds Try.pinned (OpenSpec.ofChange fnDeterminantsSpec)

/-- ITS FALSE NEIGHBOUR: 'it returns false'. Refute it at one input. -/
def fnDeterminantsWrong : ChangeSpec := { name := "fnDeterminants", fn := fun _ => fun
  | [d] => { results := [.lit (.bool false)], args := [d] }
  | _ => none }
def FnDeterminantsWrongFalsely : Prop := fnDeterminantsRow.holds Try.pinned (OpenSpec.ofChange fnDeterminantsWrong)

/-- 'laws.FnLinearSystems': WHATEVER THE INPUT: true; the input reads as it did. -/
def fnLinearSystemsSpec : ChangeSpec := { name := "fnLinearSystems", fn := fun _ => fun
  | [d] => { results := [.lit (.bool true)], args := [d] }
  | _ => none }
def fnLinearSystemsRow : OpenClaim := { program := "ytjdanhjonjmccab", sum := "25e8d3eda9fca5a9e597034ab9f59e5e0a9576f1b8279d7632077b1088524755", func := "loop.example/g01100/laws.FnLinearSystems", spec := "fnLinearSystems", recurses := true, apart := false }
def FnLinearSystemsSaid : Prop := fnLinearSystemsRow.holds Try.pinned (OpenSpec.ofChange fnLinearSystemsSpec)

/-- ITS FALSE NEIGHBOUR: 'it returns false'. Refute it at one input. -/
def fnLinearSystemsWrong : ChangeSpec := { name := "fnLinearSystems", fn := fun _ => fun
  | [d] => { results := [.lit (.bool false)], args := [d] }
  | _ => none }
def FnLinearSystemsWrongFalsely : Prop := fnLinearSystemsRow.holds Try.pinned (OpenSpec.ofChange fnLinearSystemsWrong)

/- THE SECOND FORM. 'bulk': how many values and letters a reading holds, each counted each time it is reached (what is shared counts as often as it is met; a slice's spare places count too). A statement '..UptoSaid' is the law's where the arguments, and the package variables that the reading takes, are together of bulk at most 1048576: NARROWER than '..Said'. Prove '..Said' where nothing that the law and all that it calls make is longer than what came in: it says more and counts as full. Else prove '..UptoSaid'. A law counts once. -/
mutual
def uptoBulk {H : Type} : DataW H → Nat
  | .lit (.string bytes) => bytes.length + 1
  | .lit _ => 1
  | .nil => 1
  | .ptr d => uptoBulk d + 1
  | .slice elems spare => uptoBulkAll elems + uptoBulkAll spare + 1
  | .agg parts => uptoBulkAll parts + 1
  | .iface _ d => uptoBulk d + 1
  | .map entries => uptoBulkEntries entries + 1
  | .held _ => 1
def uptoBulkAll {H : Type} : List (DataW H) → Nat
  | [] => 0
  | d :: r => uptoBulk d + uptoBulkAll r
def uptoBulkEntries {H : Type} : List (Lit × DataW H) → Nat
  | [] => 0
  | x :: r => uptoBulkEntry x + uptoBulkEntries r
def uptoBulkEntry {H : Type} : Lit × DataW H → Nat
  | (.string bytes, d) => bytes.length + uptoBulk d + 1
  | (_, d) => uptoBulk d + 1
 end
def uptoSmall : (H : Type) → List (DataW H) → Bool := fun _ ds => decide (uptoBulkAll ds ≤ 1048576)
def OpenSpec.upto (s : _root_.Go.ChangeSpec) : _root_.Go.OpenSpec := { _root_.Go.OpenSpec.ofChange s with cond := some uptoSmall }

/-- 'laws.FnSeriesProducts', WHERE WHAT IT READS IS OF BULK AT MOST 1048576: true; the input reads as it did. -/
def fnSeriesProductsUptoRow : OpenClaim := { program := "ytjdanhjonjmccab", sum := "25e8d3eda9fca5a9e597034ab9f59e5e0a9576f1b8279d7632077b1088524755", func := "loop.example/g01100/laws.FnSeriesProducts", spec := "fnSeriesProducts", apart := false, narrowed := true }
def FnSeriesProductsUptoSaid : Prop := fnSeriesProductsUptoRow.holds Try.pinned (OpenSpec.upto fnSeriesProductsSpec)

/-- 'laws.FnExponentials', WHERE WHAT IT READS IS OF BULK AT MOST 1048576: true; the input reads as it did. -/
def fnExponentialsUptoRow : OpenClaim := { program := "ytjdanhjonjmccab", sum := "25e8d3eda9fca5a9e597034ab9f59e5e0a9576f1b8279d7632077b1088524755", func := "loop.example/g01100/laws.FnExponentials", spec := "fnExponentials", apart := false, narrowed := true }
def FnExponentialsUptoSaid : Prop := fnExponentialsUptoRow.holds Try.pinned (OpenSpec.upto fnExponentialsSpec)

/-- 'laws.FnReversions', WHERE WHAT IT READS IS OF BULK AT MOST 1048576: true; the input reads as it did. -/
def fnReversionsUptoRow : OpenClaim := { program := "ytjdanhjonjmccab", sum := "25e8d3eda9fca5a9e597034ab9f59e5e0a9576f1b8279d7632077b1088524755", func := "loop.example/g01100/laws.FnReversions", spec := "fnReversions", apart := false, narrowed := true }
def FnReversionsUptoSaid : Prop := fnReversionsUptoRow.holds Try.pinned (OpenSpec.upto fnReversionsSpec)

/-- 'laws.FnCompositions', WHERE WHAT IT READS IS OF BULK AT MOST 1048576: true; the input reads as it did. -/
def fnCompositionsUptoRow : OpenClaim := { program := "ytjdanhjonjmccab", sum := "25e8d3eda9fca5a9e597034ab9f59e5e0a9576f1b8279d7632077b1088524755", func := "loop.example/g01100/laws.FnCompositions", spec := "fnCompositions", apart := false, narrowed := true }
def FnCompositionsUptoSaid : Prop := fnCompositionsUptoRow.holds Try.pinned (OpenSpec.upto fnCompositionsSpec)

/-- 'laws.FnExactDeterminant', WHERE WHAT IT READS IS OF BULK AT MOST 1048576: true; the input reads as it did. -/
def fnExactDeterminantUptoRow : OpenClaim := { program := "ytjdanhjonjmccab", sum := "25e8d3eda9fca5a9e597034ab9f59e5e0a9576f1b8279d7632077b1088524755", func := "loop.example/g01100/laws.FnExactDeterminant", spec := "fnExactDeterminant", recurses := true, apart := false, narrowed := true }
def FnExactDeterminantUptoSaid : Prop := fnExactDeterminantUptoRow.holds Try.pinned (OpenSpec.upto fnExactDeterminantSpec)

/-- 'laws.FnExactInverseMatrix', WHERE WHAT IT READS IS OF BULK AT MOST 1048576: true; the input reads as it did. -/
def fnExactInverseMatrixUptoRow : OpenClaim := { program := "ytjdanhjonjmccab", sum := "25e8d3eda9fca5a9e597034ab9f59e5e0a9576f1b8279d7632077b1088524755", func := "loop.example/g01100/laws.FnExactInverseMatrix", spec := "fnExactInverseMatrix", recurses := true, apart := false, narrowed := true }
def FnExactInverseMatrixUptoSaid : Prop := fnExactInverseMatrixUptoRow.holds Try.pinned (OpenSpec.upto fnExactInverseMatrixSpec)

/-- 'laws.FnExactSolveLinear', WHERE WHAT IT READS IS OF BULK AT MOST 1048576: true; the input reads as it did. -/
def fnExactSolveLinearUptoRow : OpenClaim := { program := "ytjdanhjonjmccab", sum := "25e8d3eda9fca5a9e597034ab9f59e5e0a9576f1b8279d7632077b1088524755", func := "loop.example/g01100/laws.FnExactSolveLinear", spec := "fnExactSolveLinear", recurses := true, apart := false, narrowed := true }
def FnExactSolveLinearUptoSaid : Prop := fnExactSolveLinearUptoRow.holds Try.pinned (OpenSpec.upto fnExactSolveLinearSpec)

/-- 'laws.FnDeterminants', WHERE WHAT IT READS IS OF BULK AT MOST 1048576: true; the input reads as it did. -/
def fnDeterminantsUptoRow : OpenClaim := { program := "ytjdanhjonjmccab", sum := "25e8d3eda9fca5a9e597034ab9f59e5e0a9576f1b8279d7632077b1088524755", func := "loop.example/g01100/laws.FnDeterminants", spec := "fnDeterminants", recurses := true, apart := false, narrowed := true }
def FnDeterminantsUptoSaid : Prop := fnDeterminantsUptoRow.holds Try.pinned (OpenSpec.upto fnDeterminantsSpec)

/-- 'laws.FnLinearSystems', WHERE WHAT IT READS IS OF BULK AT MOST 1048576: true; the input reads as it did. -/
def fnLinearSystemsUptoRow : OpenClaim := { program := "ytjdanhjonjmccab", sum := "25e8d3eda9fca5a9e597034ab9f59e5e0a9576f1b8279d7632077b1088524755", func := "loop.example/g01100/laws.FnLinearSystems", spec := "fnLinearSystems", recurses := true, apart := false, narrowed := true }
def FnLinearSystemsUptoSaid : Prop := fnLinearSystemsUptoRow.holds Try.pinned (OpenSpec.upto fnLinearSystemsSpec)

end Rows
end Go.Proofs.Ytjdanhjonjmccab
