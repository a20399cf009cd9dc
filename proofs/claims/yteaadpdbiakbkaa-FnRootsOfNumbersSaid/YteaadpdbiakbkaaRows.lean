/-
  No cell of these rows narrows 'for every input' (looked for: loops, veiled, ifaces, maps, wideKeys, modest, calm, conditions, laid).
  DERIVED. THE GIVEN ROWS OF THIS SEAT. 11 by the template 'for every input the law returns true; each argument reads behind the call as it read before'; 0 by the template 'total and deterministic' (their statements: YteaadpdbiakbkaaTotals.lean).
  GIVEN WITH THE SEED: the statements are not yours to turn. If you find one false, say at which input.
  Laid BY PROGRAM, IN A SANDBOX (cutbox-rows.mjs): the forced cells as the released guide's own fill.sh prints them over the translation ecf28dd78b6c2084… (all of the seat's roots in one cut). By AI agents, Wed Nov 11 2026. No macro, syntax, notation, axiom, sorry.
-/
import Derived.Test.YteaadpdbiakbkaaChecked
import GoSem.Claim
import GoSem.ClaimJoined
import GoSem.ClaimMapViews
import Derived.JoinedTies
import Derived.KernelRfl
namespace Go.Proofs.Yteaadpdbiakbkaa
/- THE CELL 'sum', in the pinned program and in every row, IS THE sha256 OF THE DUMP (.gsa) THAT YteaadpdbiakbkaaProg.lean LOADS. Nothing in Lean hashes anything: it is a label: what it is worth is what the hold of that sum in a sandbox is worth. -/
noncomputable def Try.pinned : Pinned := { name := "yteaadpdbiakbkaa", sum := "ecf28dd78b6c20845d176281309c586621aa89daf97dee4f427a4b7f0504f31d", checked := Try.checked }
namespace Rows
def none {H : Type} : Left H := { results := [], args := [] }

/-- 'laws.FnFieldLaws': WHATEVER THE INPUT: true; the input reads as it did. -/
def fnFieldLawsSpec : ChangeSpec := { name := "fnFieldLaws", fn := fun _ => fun
  | [d] => { results := [.lit (.bool true)], args := [d] }
  | _ => none }
def fnFieldLawsRow : OpenClaim := { program := "yteaadpdbiakbkaa", sum := "ecf28dd78b6c20845d176281309c586621aa89daf97dee4f427a4b7f0504f31d", func := "loop.example/g01100/laws.FnFieldLaws", spec := "fnFieldLaws", apart := false }
def FnFieldLawsSaid : Prop := fnFieldLawsRow.holds Try.pinned (OpenSpec.ofChange fnFieldLawsSpec)

/-- ITS FALSE NEIGHBOUR: 'it returns false'. Refute it at one input. -/
def fnFieldLawsWrong : ChangeSpec := { name := "fnFieldLaws", fn := fun _ => fun
  | [d] => { results := [.lit (.bool false)], args := [d] }
  | _ => none }
def FnFieldLawsWrongFalsely : Prop := fnFieldLawsRow.holds Try.pinned (OpenSpec.ofChange fnFieldLawsWrong)

/-- 'laws.FnRootsOfNumbers': WHATEVER THE INPUT: true; the input reads as it did. -/
def fnRootsOfNumbersSpec : ChangeSpec := { name := "fnRootsOfNumbers", fn := fun _ => fun
  | [d] => { results := [.lit (.bool true)], args := [d] }
  | _ => none }
def fnRootsOfNumbersRow : OpenClaim := { program := "yteaadpdbiakbkaa", sum := "ecf28dd78b6c20845d176281309c586621aa89daf97dee4f427a4b7f0504f31d", func := "loop.example/g01100/laws.FnRootsOfNumbers", spec := "fnRootsOfNumbers", apart := false }
def FnRootsOfNumbersSaid : Prop := fnRootsOfNumbersRow.holds Try.pinned (OpenSpec.ofChange fnRootsOfNumbersSpec)

/-- ITS FALSE NEIGHBOUR: 'it returns false'. Refute it at one input. -/
def fnRootsOfNumbersWrong : ChangeSpec := { name := "fnRootsOfNumbers", fn := fun _ => fun
  | [d] => { results := [.lit (.bool false)], args := [d] }
  | _ => none }
def FnRootsOfNumbersWrongFalsely : Prop := fnRootsOfNumbersRow.holds Try.pinned (OpenSpec.ofChange fnRootsOfNumbersWrong)

/-- 'laws.FnDeterminants': WHATEVER THE INPUT: true; the input reads as it did. -/
def fnDeterminantsSpec : ChangeSpec := { name := "fnDeterminants", fn := fun _ => fun
  | [d] => { results := [.lit (.bool true)], args := [d] }
  | _ => none }
def fnDeterminantsRow : OpenClaim := { program := "yteaadpdbiakbkaa", sum := "ecf28dd78b6c20845d176281309c586621aa89daf97dee4f427a4b7f0504f31d", func := "loop.example/g01100/laws.FnDeterminants", spec := "fnDeterminants", recurses := true, apart := false }
def FnDeterminantsSaid : Prop := fnDeterminantsRow.holds Try.pinned (OpenSpec.ofChange fnDeterminantsSpec)

/-- ITS FALSE NEIGHBOUR: 'it returns false'. Refute it at one input. -/
def fnDeterminantsWrong : ChangeSpec := { name := "fnDeterminants", fn := fun _ => fun
  | [d] => { results := [.lit (.bool false)], args := [d] }
  | _ => none }
def FnDeterminantsWrongFalsely : Prop := fnDeterminantsRow.holds Try.pinned (OpenSpec.ofChange fnDeterminantsWrong)

/-- 'laws.FnLinearSystems': WHATEVER THE INPUT: true; the input reads as it did. -/
def fnLinearSystemsSpec : ChangeSpec := { name := "fnLinearSystems", fn := fun _ => fun
  | [d] => { results := [.lit (.bool true)], args := [d] }
  | _ => none }
def fnLinearSystemsRow : OpenClaim := { program := "yteaadpdbiakbkaa", sum := "ecf28dd78b6c20845d176281309c586621aa89daf97dee4f427a4b7f0504f31d", func := "loop.example/g01100/laws.FnLinearSystems", spec := "fnLinearSystems", recurses := true, apart := false }
def FnLinearSystemsSaid : Prop := fnLinearSystemsRow.holds Try.pinned (OpenSpec.ofChange fnLinearSystemsSpec)

/-- ITS FALSE NEIGHBOUR: 'it returns false'. Refute it at one input. -/
def fnLinearSystemsWrong : ChangeSpec := { name := "fnLinearSystems", fn := fun _ => fun
  | [d] => { results := [.lit (.bool false)], args := [d] }
  | _ => none }
def FnLinearSystemsWrongFalsely : Prop := fnLinearSystemsRow.holds Try.pinned (OpenSpec.ofChange fnLinearSystemsWrong)

/-- 'laws.FnExactIsNumber': WHATEVER THE INPUT: true; the input reads as it did. -/
def fnExactIsNumberSpec : ChangeSpec := { name := "fnExactIsNumber", fn := fun _ => fun
  | [d] => { results := [.lit (.bool true)], args := [d] }
  | _ => none }
def fnExactIsNumberRow : OpenClaim := { program := "yteaadpdbiakbkaa", sum := "ecf28dd78b6c20845d176281309c586621aa89daf97dee4f427a4b7f0504f31d", func := "loop.example/g01100/laws.FnExactIsNumber", spec := "fnExactIsNumber", apart := false }
def FnExactIsNumberSaid : Prop := fnExactIsNumberRow.holds Try.pinned (OpenSpec.ofChange fnExactIsNumberSpec)

/-- ITS FALSE NEIGHBOUR: 'it returns false'. Refute it at one input. -/
def fnExactIsNumberWrong : ChangeSpec := { name := "fnExactIsNumber", fn := fun _ => fun
  | [d] => { results := [.lit (.bool false)], args := [d] }
  | _ => none }
def FnExactIsNumberWrongFalsely : Prop := fnExactIsNumberRow.holds Try.pinned (OpenSpec.ofChange fnExactIsNumberWrong)

/-- 'laws.FnExactNumberOf': WHATEVER THE INPUT: true; the input reads as it did. -/
def fnExactNumberOfSpec : ChangeSpec := { name := "fnExactNumberOf", fn := fun _ => fun
  | [d1, d2] => { results := [.lit (.bool true)], args := [d1, d2] }
  | _ => none }
def fnExactNumberOfRow : OpenClaim := { program := "yteaadpdbiakbkaa", sum := "ecf28dd78b6c20845d176281309c586621aa89daf97dee4f427a4b7f0504f31d", func := "loop.example/g01100/laws.FnExactNumberOf", spec := "fnExactNumberOf", apart := false }
def FnExactNumberOfSaid : Prop := fnExactNumberOfRow.holds Try.pinned (OpenSpec.ofChange fnExactNumberOfSpec)

/-- ITS FALSE NEIGHBOUR: 'it returns false'. Refute it at one input. -/
def fnExactNumberOfWrong : ChangeSpec := { name := "fnExactNumberOf", fn := fun _ => fun
  | [d1, d2] => { results := [.lit (.bool false)], args := [d1, d2] }
  | _ => none }
def FnExactNumberOfWrongFalsely : Prop := fnExactNumberOfRow.holds Try.pinned (OpenSpec.ofChange fnExactNumberOfWrong)

/-- 'laws.FnExactAddNumbers': WHATEVER THE INPUT: true; the input reads as it did. -/
def fnExactAddNumbersSpec : ChangeSpec := { name := "fnExactAddNumbers", fn := fun _ => fun
  | [d1, d2] => { results := [.lit (.bool true)], args := [d1, d2] }
  | _ => none }
def fnExactAddNumbersRow : OpenClaim := { program := "yteaadpdbiakbkaa", sum := "ecf28dd78b6c20845d176281309c586621aa89daf97dee4f427a4b7f0504f31d", func := "loop.example/g01100/laws.FnExactAddNumbers", spec := "fnExactAddNumbers", apart := false }
def FnExactAddNumbersSaid : Prop := fnExactAddNumbersRow.holds Try.pinned (OpenSpec.ofChange fnExactAddNumbersSpec)

/-- ITS FALSE NEIGHBOUR: 'it returns false'. Refute it at one input. -/
def fnExactAddNumbersWrong : ChangeSpec := { name := "fnExactAddNumbers", fn := fun _ => fun
  | [d1, d2] => { results := [.lit (.bool false)], args := [d1, d2] }
  | _ => none }
def FnExactAddNumbersWrongFalsely : Prop := fnExactAddNumbersRow.holds Try.pinned (OpenSpec.ofChange fnExactAddNumbersWrong)

/-- 'laws.FnExactSubtractNumbers': WHATEVER THE INPUT: true; the input reads as it did. -/
def fnExactSubtractNumbersSpec : ChangeSpec := { name := "fnExactSubtractNumbers", fn := fun _ => fun
  | [d1, d2] => { results := [.lit (.bool true)], args := [d1, d2] }
  | _ => none }
def fnExactSubtractNumbersRow : OpenClaim := { program := "yteaadpdbiakbkaa", sum := "ecf28dd78b6c20845d176281309c586621aa89daf97dee4f427a4b7f0504f31d", func := "loop.example/g01100/laws.FnExactSubtractNumbers", spec := "fnExactSubtractNumbers", apart := false }
def FnExactSubtractNumbersSaid : Prop := fnExactSubtractNumbersRow.holds Try.pinned (OpenSpec.ofChange fnExactSubtractNumbersSpec)

/-- ITS FALSE NEIGHBOUR: 'it returns false'. Refute it at one input. -/
def fnExactSubtractNumbersWrong : ChangeSpec := { name := "fnExactSubtractNumbers", fn := fun _ => fun
  | [d1, d2] => { results := [.lit (.bool false)], args := [d1, d2] }
  | _ => none }
def FnExactSubtractNumbersWrongFalsely : Prop := fnExactSubtractNumbersRow.holds Try.pinned (OpenSpec.ofChange fnExactSubtractNumbersWrong)

/-- 'laws.FnExactMultiplyNumbers': WHATEVER THE INPUT: true; the input reads as it did. -/
def fnExactMultiplyNumbersSpec : ChangeSpec := { name := "fnExactMultiplyNumbers", fn := fun _ => fun
  | [d1, d2] => { results := [.lit (.bool true)], args := [d1, d2] }
  | _ => none }
def fnExactMultiplyNumbersRow : OpenClaim := { program := "yteaadpdbiakbkaa", sum := "ecf28dd78b6c20845d176281309c586621aa89daf97dee4f427a4b7f0504f31d", func := "loop.example/g01100/laws.FnExactMultiplyNumbers", spec := "fnExactMultiplyNumbers", apart := false }
def FnExactMultiplyNumbersSaid : Prop := fnExactMultiplyNumbersRow.holds Try.pinned (OpenSpec.ofChange fnExactMultiplyNumbersSpec)

/-- ITS FALSE NEIGHBOUR: 'it returns false'. Refute it at one input. -/
def fnExactMultiplyNumbersWrong : ChangeSpec := { name := "fnExactMultiplyNumbers", fn := fun _ => fun
  | [d1, d2] => { results := [.lit (.bool false)], args := [d1, d2] }
  | _ => none }
def FnExactMultiplyNumbersWrongFalsely : Prop := fnExactMultiplyNumbersRow.holds Try.pinned (OpenSpec.ofChange fnExactMultiplyNumbersWrong)

/-- 'laws.FnExactDivideNumbers': WHATEVER THE INPUT: true; the input reads as it did. -/
def fnExactDivideNumbersSpec : ChangeSpec := { name := "fnExactDivideNumbers", fn := fun _ => fun
  | [d1, d2] => { results := [.lit (.bool true)], args := [d1, d2] }
  | _ => none }
def fnExactDivideNumbersRow : OpenClaim := { program := "yteaadpdbiakbkaa", sum := "ecf28dd78b6c20845d176281309c586621aa89daf97dee4f427a4b7f0504f31d", func := "loop.example/g01100/laws.FnExactDivideNumbers", spec := "fnExactDivideNumbers", apart := false }
def FnExactDivideNumbersSaid : Prop := fnExactDivideNumbersRow.holds Try.pinned (OpenSpec.ofChange fnExactDivideNumbersSpec)

/-- ITS FALSE NEIGHBOUR: 'it returns false'. Refute it at one input. -/
def fnExactDivideNumbersWrong : ChangeSpec := { name := "fnExactDivideNumbers", fn := fun _ => fun
  | [d1, d2] => { results := [.lit (.bool false)], args := [d1, d2] }
  | _ => none }
def FnExactDivideNumbersWrongFalsely : Prop := fnExactDivideNumbersRow.holds Try.pinned (OpenSpec.ofChange fnExactDivideNumbersWrong)

/-- 'laws.FnExactPowerNumber': WHATEVER THE INPUT: true; the input reads as it did. -/
def fnExactPowerNumberSpec : ChangeSpec := { name := "fnExactPowerNumber", fn := fun _ => fun
  | [d1, d2] => { results := [.lit (.bool true)], args := [d1, d2] }
  | _ => none }
def fnExactPowerNumberRow : OpenClaim := { program := "yteaadpdbiakbkaa", sum := "ecf28dd78b6c20845d176281309c586621aa89daf97dee4f427a4b7f0504f31d", func := "loop.example/g01100/laws.FnExactPowerNumber", spec := "fnExactPowerNumber", apart := false }
def FnExactPowerNumberSaid : Prop := fnExactPowerNumberRow.holds Try.pinned (OpenSpec.ofChange fnExactPowerNumberSpec)

/-- ITS FALSE NEIGHBOUR: 'it returns false'. Refute it at one input. -/
def fnExactPowerNumberWrong : ChangeSpec := { name := "fnExactPowerNumber", fn := fun _ => fun
  | [d1, d2] => { results := [.lit (.bool false)], args := [d1, d2] }
  | _ => none }
def FnExactPowerNumberWrongFalsely : Prop := fnExactPowerNumberRow.holds Try.pinned (OpenSpec.ofChange fnExactPowerNumberWrong)

/- THE SECOND FORM. 'bulk': how many values and letters a reading holds, each counted each time it is reached (what is shared counts as often as it is met; a slice's spare places count too). A statement '..UptoSaid' is the law's where the arguments, and the package variables that the reading takes, are together of bulk at most 1048576: NARROWER than '..Said'. Prove '..Said' where nothing that the law and all that it calls make is longer than what came in: it says more and counts as full. Else prove '..UptoSaid'. A law counts once. -/
mutual
def uptoBulk {H : Type} : DataW H → Nat
  | .lit (.string bytes) => bytes.length + 1
  | .lit _ => 1
  | .nil => 1
  | .ptr d => uptoBulk d + 1
  | .slice elems spare => uptoBulkAll elems + uptoBulkAll spare + 1
  | .agg parts => uptoBulkAll parts + 1
  | .iface _ d => uptoBulk d + 1
  | .map entries => uptoBulkEntries entries + 1
  | .held _ => 1
def uptoBulkAll {H : Type} : List (DataW H) → Nat
  | [] => 0
  | d :: r => uptoBulk d + uptoBulkAll r
def uptoBulkEntries {H : Type} : List (Lit × DataW H) → Nat
  | [] => 0
  | x :: r => uptoBulkEntry x + uptoBulkEntries r
def uptoBulkEntry {H : Type} : Lit × DataW H → Nat
  | (.string bytes, d) => bytes.length + uptoBulk d + 1
  | (_, d) => uptoBulk d + 1
 end
def uptoSmall : (H : Type) → List (DataW H) → Bool := fun _ ds => decide (uptoBulkAll ds ≤ 1048576)
def OpenSpec.upto (s : _root_.Go.ChangeSpec) : _root_.Go.OpenSpec := { _root_.Go.OpenSpec.ofChange s with cond := some uptoSmall }

/-- 'laws.FnFieldLaws', WHERE WHAT IT READS IS OF BULK AT MOST 1048576: true; the input reads as it did. -/
def fnFieldLawsUptoRow : OpenClaim := { program := "yteaadpdbiakbkaa", sum := "ecf28dd78b6c20845d176281309c586621aa89daf97dee4f427a4b7f0504f31d", func := "loop.example/g01100/laws.FnFieldLaws", spec := "fnFieldLaws", apart := false, narrowed := true }
def FnFieldLawsUptoSaid : Prop := fnFieldLawsUptoRow.holds Try.pinned (OpenSpec.upto fnFieldLawsSpec)

/-- 'laws.FnRootsOfNumbers', WHERE WHAT IT READS IS OF BULK AT MOST 1048576: true; the input reads as it did. -/
def fnRootsOfNumbersUptoRow : OpenClaim := { program := "yteaadpdbiakbkaa", sum := "ecf28dd78b6c20845d176281309c586621aa89daf97dee4f427a4b7f0504f31d", func := "loop.example/g01100/laws.FnRootsOfNumbers", spec := "fnRootsOfNumbers", apart := false, narrowed := true }
def FnRootsOfNumbersUptoSaid : Prop := fnRootsOfNumbersUptoRow.holds Try.pinned (OpenSpec.upto fnRootsOfNumbersSpec)

/-- 'laws.FnDeterminants', WHERE WHAT IT READS IS OF BULK AT MOST 1048576: true; the input reads as it did. -/
def fnDeterminantsUptoRow : OpenClaim := { program := "yteaadpdbiakbkaa", sum := "ecf28dd78b6c20845d176281309c586621aa89daf97dee4f427a4b7f0504f31d", func := "loop.example/g01100/laws.FnDeterminants", spec := "fnDeterminants", recurses := true, apart := false, narrowed := true }
def FnDeterminantsUptoSaid : Prop := fnDeterminantsUptoRow.holds Try.pinned (OpenSpec.upto fnDeterminantsSpec)

/-- 'laws.FnLinearSystems', WHERE WHAT IT READS IS OF BULK AT MOST 1048576: true; the input reads as it did. -/
def fnLinearSystemsUptoRow : OpenClaim := { program := "yteaadpdbiakbkaa", sum := "ecf28dd78b6c20845d176281309c586621aa89daf97dee4f427a4b7f0504f31d", func := "loop.example/g01100/laws.FnLinearSystems", spec := "fnLinearSystems", recurses := true, apart := false, narrowed := true }
def FnLinearSystemsUptoSaid : Prop := fnLinearSystemsUptoRow.holds Try.pinned (OpenSpec.upto fnLinearSystemsSpec)

/-- 'laws.FnExactIsNumber', WHERE WHAT IT READS IS OF BULK AT MOST 1048576: true; the input reads as it did. -/
def fnExactIsNumberUptoRow : OpenClaim := { program := "yteaadpdbiakbkaa", sum := "ecf28dd78b6c20845d176281309c586621aa89daf97dee4f427a4b7f0504f31d", func := "loop.example/g01100/laws.FnExactIsNumber", spec := "fnExactIsNumber", apart := false, narrowed := true }
def FnExactIsNumberUptoSaid : Prop := fnExactIsNumberUptoRow.holds Try.pinned (OpenSpec.upto fnExactIsNumberSpec)

/-- 'laws.FnExactNumberOf', WHERE WHAT IT READS IS OF BULK AT MOST 1048576: true; the input reads as it did. -/
def fnExactNumberOfUptoRow : OpenClaim := { program := "yteaadpdbiakbkaa", sum := "ecf28dd78b6c20845d176281309c586621aa89daf97dee4f427a4b7f0504f31d", func := "loop.example/g01100/laws.FnExactNumberOf", spec := "fnExactNumberOf", apart := false, narrowed := true }
def FnExactNumberOfUptoSaid : Prop := fnExactNumberOfUptoRow.holds Try.pinned (OpenSpec.upto fnExactNumberOfSpec)

/-- 'laws.FnExactAddNumbers', WHERE WHAT IT READS IS OF BULK AT MOST 1048576: true; the input reads as it did. -/
def fnExactAddNumbersUptoRow : OpenClaim := { program := "yteaadpdbiakbkaa", sum := "ecf28dd78b6c20845d176281309c586621aa89daf97dee4f427a4b7f0504f31d", func := "loop.example/g01100/laws.FnExactAddNumbers", spec := "fnExactAddNumbers", apart := false, narrowed := true }
def FnExactAddNumbersUptoSaid : Prop := fnExactAddNumbersUptoRow.holds Try.pinned (OpenSpec.upto fnExactAddNumbersSpec)

/-- 'laws.FnExactSubtractNumbers', WHERE WHAT IT READS IS OF BULK AT MOST 1048576: true; the input reads as it did. -/
def fnExactSubtractNumbersUptoRow : OpenClaim := { program := "yteaadpdbiakbkaa", sum := "ecf28dd78b6c20845d176281309c586621aa89daf97dee4f427a4b7f0504f31d", func := "loop.example/g01100/laws.FnExactSubtractNumbers", spec := "fnExactSubtractNumbers", apart := false, narrowed := true }
def FnExactSubtractNumbersUptoSaid : Prop := fnExactSubtractNumbersUptoRow.holds Try.pinned (OpenSpec.upto fnExactSubtractNumbersSpec)

/-- 'laws.FnExactMultiplyNumbers', WHERE WHAT IT READS IS OF BULK AT MOST 1048576: true; the input reads as it did. -/
def fnExactMultiplyNumbersUptoRow : OpenClaim := { program := "yteaadpdbiakbkaa", sum := "ecf28dd78b6c20845d176281309c586621aa89daf97dee4f427a4b7f0504f31d", func := "loop.example/g01100/laws.FnExactMultiplyNumbers", spec := "fnExactMultiplyNumbers", apart := false, narrowed := true }
def FnExactMultiplyNumbersUptoSaid : Prop := fnExactMultiplyNumbersUptoRow.holds Try.pinned (OpenSpec.upto fnExactMultiplyNumbersSpec)

/-- 'laws.FnExactDivideNumbers', WHERE WHAT IT READS IS OF BULK AT MOST 1048576: true; the input reads as it did. -/
def fnExactDivideNumbersUptoRow : OpenClaim := { program := "yteaadpdbiakbkaa", sum := "ecf28dd78b6c20845d176281309c586621aa89daf97dee4f427a4b7f0504f31d", func := "loop.example/g01100/laws.FnExactDivideNumbers", spec := "fnExactDivideNumbers", apart := false, narrowed := true }
def FnExactDivideNumbersUptoSaid : Prop := fnExactDivideNumbersUptoRow.holds Try.pinned (OpenSpec.upto fnExactDivideNumbersSpec)

/-- 'laws.FnExactPowerNumber', WHERE WHAT IT READS IS OF BULK AT MOST 1048576: true; the input reads as it did. -/
def fnExactPowerNumberUptoRow : OpenClaim := { program := "yteaadpdbiakbkaa", sum := "ecf28dd78b6c20845d176281309c586621aa89daf97dee4f427a4b7f0504f31d", func := "loop.example/g01100/laws.FnExactPowerNumber", spec := "fnExactPowerNumber", apart := false, narrowed := true }
def FnExactPowerNumberUptoSaid : Prop := fnExactPowerNumberUptoRow.holds Try.pinned (OpenSpec.upto fnExactPowerNumberSpec)

end Rows
end Go.Proofs.Yteaadpdbiakbkaa
