/-
  No cell of these rows narrows 'for every input' (looked for: loops, veiled, ifaces, maps, wideKeys, modest, calm, conditions, laid).
  DERIVED. THE GIVEN ROWS OF THIS SEAT. 9 by the template 'for every input the law returns true; each argument reads behind the call as it read before'; 0 by the template 'total and deterministic' (their statements: YtfllcdcgfpjabaaTotals.lean).
  GIVEN WITH THE SEED: the statements are not yours to turn. If you find one false, say at which input.
  Laid BY PROGRAM, IN A SANDBOX (cutbox-rows.mjs): the forced cells as the released guide's own fill.sh prints them over the translation d224ce360d413cd5… (all of the seat's roots in one cut). By AI agents, Wed Nov 11 2026. No macro, syntax, notation, axiom, sorry.
-/
import Derived.Test.YtfllcdcgfpjabaaChecked
import GoSem.Claim
import GoSem.ClaimJoined
import GoSem.ClaimMapViews
import Derived.JoinedTies
import Derived.KernelRfl
namespace Go.Proofs.Ytfllcdcgfpjabaa
/- THE CELL 'sum', in the pinned program and in every row, IS THE sha256 OF THE DUMP (.gsa) THAT YtfllcdcgfpjabaaProg.lean LOADS. Nothing in Lean hashes anything: it is a label: what it is worth is what the hold of that sum in a sandbox is worth. -/
noncomputable def Try.pinned : Pinned := { name := "ytfllcdcgfpjabaa", sum := "d224ce360d413cd5ed246f47022f86786bdfda2ff8940d8078a53a73161dd60f", checked := Try.checked }
namespace Rows
def none {H : Type} : Left H := { results := [], args := [] }

/-- 'laws.FnExactQuadratureOrder': WHATEVER THE INPUT: true; the input reads as it did. -/
def fnExactQuadratureOrderSpec : ChangeSpec := { name := "fnExactQuadratureOrder", fn := fun _ => fun
  | [d] => { results := [.lit (.bool true)], args := [d] }
  | _ => none }
def fnExactQuadratureOrderRow : OpenClaim := { program := "ytfllcdcgfpjabaa", sum := "d224ce360d413cd5ed246f47022f86786bdfda2ff8940d8078a53a73161dd60f", func := "loop.example/g01100/laws.FnExactQuadratureOrder", spec := "fnExactQuadratureOrder", unfollowed := true, recurses := true, apart := false }
def FnExactQuadratureOrderSaid : Prop := fnExactQuadratureOrderRow.holds Try.pinned (OpenSpec.ofChange fnExactQuadratureOrderSpec)

/-- ITS FALSE NEIGHBOUR: 'it returns false'. Refute it at one input. -/
def fnExactQuadratureOrderWrong : ChangeSpec := { name := "fnExactQuadratureOrder", fn := fun _ => fun
  | [d] => { results := [.lit (.bool false)], args := [d] }
  | _ => none }
def FnExactQuadratureOrderWrongFalsely : Prop := fnExactQuadratureOrderRow.holds Try.pinned (OpenSpec.ofChange fnExactQuadratureOrderWrong)

/-- 'laws.FnExactStageOrderOf': WHATEVER THE INPUT: true; the input reads as it did. -/
def fnExactStageOrderOfSpec : ChangeSpec := { name := "fnExactStageOrderOf", fn := fun _ => fun
  | [d] => { results := [.lit (.bool true)], args := [d] }
  | _ => none }
def fnExactStageOrderOfRow : OpenClaim := { program := "ytfllcdcgfpjabaa", sum := "d224ce360d413cd5ed246f47022f86786bdfda2ff8940d8078a53a73161dd60f", func := "loop.example/g01100/laws.FnExactStageOrderOf", spec := "fnExactStageOrderOf", unfollowed := true, recurses := true, apart := false }
def FnExactStageOrderOfSaid : Prop := fnExactStageOrderOfRow.holds Try.pinned (OpenSpec.ofChange fnExactStageOrderOfSpec)

/-- ITS FALSE NEIGHBOUR: 'it returns false'. Refute it at one input. -/
def fnExactStageOrderOfWrong : ChangeSpec := { name := "fnExactStageOrderOf", fn := fun _ => fun
  | [d] => { results := [.lit (.bool false)], args := [d] }
  | _ => none }
def FnExactStageOrderOfWrongFalsely : Prop := fnExactStageOrderOfRow.holds Try.pinned (OpenSpec.ofChange fnExactStageOrderOfWrong)

/-- 'laws.FnExactColumnOrder': WHATEVER THE INPUT: true; the input reads as it did. -/
def fnExactColumnOrderSpec : ChangeSpec := { name := "fnExactColumnOrder", fn := fun _ => fun
  | [d] => { results := [.lit (.bool true)], args := [d] }
  | _ => none }
def fnExactColumnOrderRow : OpenClaim := { program := "ytfllcdcgfpjabaa", sum := "d224ce360d413cd5ed246f47022f86786bdfda2ff8940d8078a53a73161dd60f", func := "loop.example/g01100/laws.FnExactColumnOrder", spec := "fnExactColumnOrder", unfollowed := true, recurses := true, apart := false }
def FnExactColumnOrderSaid : Prop := fnExactColumnOrderRow.holds Try.pinned (OpenSpec.ofChange fnExactColumnOrderSpec)

/-- ITS FALSE NEIGHBOUR: 'it returns false'. Refute it at one input. -/
def fnExactColumnOrderWrong : ChangeSpec := { name := "fnExactColumnOrder", fn := fun _ => fun
  | [d] => { results := [.lit (.bool false)], args := [d] }
  | _ => none }
def FnExactColumnOrderWrongFalsely : Prop := fnExactColumnOrderRow.holds Try.pinned (OpenSpec.ofChange fnExactColumnOrderWrong)

/-- 'laws.FnExactMeetsAssumption': WHATEVER THE INPUT: true; the input reads as it did. -/
def fnExactMeetsAssumptionSpec : ChangeSpec := { name := "fnExactMeetsAssumption", fn := fun _ => fun
  | [d1, d2, d3] => { results := [.lit (.bool true)], args := [d1, d2, d3] }
  | _ => none }
def fnExactMeetsAssumptionRow : OpenClaim := { program := "ytfllcdcgfpjabaa", sum := "d224ce360d413cd5ed246f47022f86786bdfda2ff8940d8078a53a73161dd60f", func := "loop.example/g01100/laws.FnExactMeetsAssumption", spec := "fnExactMeetsAssumption", unfollowed := true, recurses := true, apart := false }
def FnExactMeetsAssumptionSaid : Prop := fnExactMeetsAssumptionRow.holds Try.pinned (OpenSpec.ofChange fnExactMeetsAssumptionSpec)

/-- ITS FALSE NEIGHBOUR: 'it returns false'. Refute it at one input. -/
def fnExactMeetsAssumptionWrong : ChangeSpec := { name := "fnExactMeetsAssumption", fn := fun _ => fun
  | [d1, d2, d3] => { results := [.lit (.bool false)], args := [d1, d2, d3] }
  | _ => none }
def FnExactMeetsAssumptionWrongFalsely : Prop := fnExactMeetsAssumptionRow.holds Try.pinned (OpenSpec.ofChange fnExactMeetsAssumptionWrong)

/-- 'laws.FnExactImpliedOrder': WHATEVER THE INPUT: true; the input reads as it did. -/
def fnExactImpliedOrderSpec : ChangeSpec := { name := "fnExactImpliedOrder", fn := fun _ => fun
  | [d] => { results := [.lit (.bool true)], args := [d] }
  | _ => none }
def fnExactImpliedOrderRow : OpenClaim := { program := "ytfllcdcgfpjabaa", sum := "d224ce360d413cd5ed246f47022f86786bdfda2ff8940d8078a53a73161dd60f", func := "loop.example/g01100/laws.FnExactImpliedOrder", spec := "fnExactImpliedOrder", unfollowed := true, recurses := true, apart := false }
def FnExactImpliedOrderSaid : Prop := fnExactImpliedOrderRow.holds Try.pinned (OpenSpec.ofChange fnExactImpliedOrderSpec)

/-- ITS FALSE NEIGHBOUR: 'it returns false'. Refute it at one input. -/
def fnExactImpliedOrderWrong : ChangeSpec := { name := "fnExactImpliedOrder", fn := fun _ => fun
  | [d] => { results := [.lit (.bool false)], args := [d] }
  | _ => none }
def FnExactImpliedOrderWrongFalsely : Prop := fnExactImpliedOrderRow.holds Try.pinned (OpenSpec.ofChange fnExactImpliedOrderWrong)

/-- 'laws.FnExactCollocationTableau': WHATEVER THE INPUT: true; the input reads as it did. -/
def fnExactCollocationTableauSpec : ChangeSpec := { name := "fnExactCollocationTableau", fn := fun _ => fun
  | [d] => { results := [.lit (.bool true)], args := [d] }
  | _ => none }
def fnExactCollocationTableauRow : OpenClaim := { program := "ytfllcdcgfpjabaa", sum := "d224ce360d413cd5ed246f47022f86786bdfda2ff8940d8078a53a73161dd60f", func := "loop.example/g01100/laws.FnExactCollocationTableau", spec := "fnExactCollocationTableau", unfollowed := true, recurses := true, apart := false }
def FnExactCollocationTableauSaid : Prop := fnExactCollocationTableauRow.holds Try.pinned (OpenSpec.ofChange fnExactCollocationTableauSpec)

/-- ITS FALSE NEIGHBOUR: 'it returns false'. Refute it at one input. -/
def fnExactCollocationTableauWrong : ChangeSpec := { name := "fnExactCollocationTableau", fn := fun _ => fun
  | [d] => { results := [.lit (.bool false)], args := [d] }
  | _ => none }
def FnExactCollocationTableauWrongFalsely : Prop := fnExactCollocationTableauRow.holds Try.pinned (OpenSpec.ofChange fnExactCollocationTableauWrong)

/-- 'laws.FnExactIsCollocation': WHATEVER THE INPUT: true; the input reads as it did. -/
def fnExactIsCollocationSpec : ChangeSpec := { name := "fnExactIsCollocation", fn := fun _ => fun
  | [d] => { results := [.lit (.bool true)], args := [d] }
  | _ => none }
def fnExactIsCollocationRow : OpenClaim := { program := "ytfllcdcgfpjabaa", sum := "d224ce360d413cd5ed246f47022f86786bdfda2ff8940d8078a53a73161dd60f", func := "loop.example/g01100/laws.FnExactIsCollocation", spec := "fnExactIsCollocation", unfollowed := true, recurses := true, apart := false }
def FnExactIsCollocationSaid : Prop := fnExactIsCollocationRow.holds Try.pinned (OpenSpec.ofChange fnExactIsCollocationSpec)

/-- ITS FALSE NEIGHBOUR: 'it returns false'. Refute it at one input. -/
def fnExactIsCollocationWrong : ChangeSpec := { name := "fnExactIsCollocation", fn := fun _ => fun
  | [d] => { results := [.lit (.bool false)], args := [d] }
  | _ => none }
def FnExactIsCollocationWrongFalsely : Prop := fnExactIsCollocationRow.holds Try.pinned (OpenSpec.ofChange fnExactIsCollocationWrong)

/-- 'laws.FnExactNodePolynomial': WHATEVER THE INPUT: true; the input reads as it did. -/
def fnExactNodePolynomialSpec : ChangeSpec := { name := "fnExactNodePolynomial", fn := fun _ => fun
  | [d] => { results := [.lit (.bool true)], args := [d] }
  | _ => none }
def fnExactNodePolynomialRow : OpenClaim := { program := "ytfllcdcgfpjabaa", sum := "d224ce360d413cd5ed246f47022f86786bdfda2ff8940d8078a53a73161dd60f", func := "loop.example/g01100/laws.FnExactNodePolynomial", spec := "fnExactNodePolynomial", unfollowed := true, recurses := true, apart := false }
def FnExactNodePolynomialSaid : Prop := fnExactNodePolynomialRow.holds Try.pinned (OpenSpec.ofChange fnExactNodePolynomialSpec)

/-- ITS FALSE NEIGHBOUR: 'it returns false'. Refute it at one input. -/
def fnExactNodePolynomialWrong : ChangeSpec := { name := "fnExactNodePolynomial", fn := fun _ => fun
  | [d] => { results := [.lit (.bool false)], args := [d] }
  | _ => none }
def FnExactNodePolynomialWrongFalsely : Prop := fnExactNodePolynomialRow.holds Try.pinned (OpenSpec.ofChange fnExactNodePolynomialWrong)

/-- 'laws.FnExactOrthogonalTo': WHATEVER THE INPUT: true; the input reads as it did. -/
def fnExactOrthogonalToSpec : ChangeSpec := { name := "fnExactOrthogonalTo", fn := fun _ => fun
  | [d] => { results := [.lit (.bool true)], args := [d] }
  | _ => none }
def fnExactOrthogonalToRow : OpenClaim := { program := "ytfllcdcgfpjabaa", sum := "d224ce360d413cd5ed246f47022f86786bdfda2ff8940d8078a53a73161dd60f", func := "loop.example/g01100/laws.FnExactOrthogonalTo", spec := "fnExactOrthogonalTo", unfollowed := true, recurses := true, apart := false }
def FnExactOrthogonalToSaid : Prop := fnExactOrthogonalToRow.holds Try.pinned (OpenSpec.ofChange fnExactOrthogonalToSpec)

/-- ITS FALSE NEIGHBOUR: 'it returns false'. Refute it at one input. -/
def fnExactOrthogonalToWrong : ChangeSpec := { name := "fnExactOrthogonalTo", fn := fun _ => fun
  | [d] => { results := [.lit (.bool false)], args := [d] }
  | _ => none }
def FnExactOrthogonalToWrongFalsely : Prop := fnExactOrthogonalToRow.holds Try.pinned (OpenSpec.ofChange fnExactOrthogonalToWrong)

/- THE SECOND FORM. 'bulk': how many values and letters a reading holds, each counted each time it is reached (what is shared counts as often as it is met; a slice's spare places count too). A statement '..UptoSaid' is the law's where the arguments, and the package variables that the reading takes, are together of bulk at most 1048576: NARROWER than '..Said'. Prove '..Said' where nothing that the law and all that it calls make is longer than what came in: it says more and counts as full. Else prove '..UptoSaid'. A law counts once. -/
mutual
def uptoBulk {H : Type} : DataW H → Nat
  | .lit (.string bytes) => bytes.length + 1
  | .lit _ => 1
  | .nil => 1
  | .ptr d => uptoBulk d + 1
  | .slice elems spare => uptoBulkAll elems + uptoBulkAll spare + 1
  | .agg parts => uptoBulkAll parts + 1
  | .iface _ d => uptoBulk d + 1
  | .map entries => uptoBulkEntries entries + 1
  | .held _ => 1
def uptoBulkAll {H : Type} : List (DataW H) → Nat
  | [] => 0
  | d :: r => uptoBulk d + uptoBulkAll r
def uptoBulkEntries {H : Type} : List (Lit × DataW H) → Nat
  | [] => 0
  | x :: r => uptoBulkEntry x + uptoBulkEntries r
def uptoBulkEntry {H : Type} : Lit × DataW H → Nat
  | (.string bytes, d) => bytes.length + uptoBulk d + 1
  | (_, d) => uptoBulk d + 1
 end
def uptoSmall : (H : Type) → List (DataW H) → Bool := fun _ ds => decide (uptoBulkAll ds ≤ 1048576)
def OpenSpec.upto (s : _root_.Go.ChangeSpec) : _root_.Go.OpenSpec := { _root_.Go.OpenSpec.ofChange s with cond := some uptoSmall }

/-- 'laws.FnExactQuadratureOrder', WHERE WHAT IT READS IS OF BULK AT MOST 1048576: true; the input reads as it did. -/
def fnExactQuadratureOrderUptoRow : OpenClaim := { program := "ytfllcdcgfpjabaa", sum := "d224ce360d413cd5ed246f47022f86786bdfda2ff8940d8078a53a73161dd60f", func := "loop.example/g01100/laws.FnExactQuadratureOrder", spec := "fnExactQuadratureOrder", unfollowed := true, recurses := true, apart := false, narrowed := true }
def FnExactQuadratureOrderUptoSaid : Prop := fnExactQuadratureOrderUptoRow.holds Try.pinned (OpenSpec.upto fnExactQuadratureOrderSpec)

/-- 'laws.FnExactStageOrderOf', WHERE WHAT IT READS IS OF BULK AT MOST 1048576: true; the input reads as it did. -/
def fnExactStageOrderOfUptoRow : OpenClaim := { program := "ytfllcdcgfpjabaa", sum := "d224ce360d413cd5ed246f47022f86786bdfda2ff8940d8078a53a73161dd60f", func := "loop.example/g01100/laws.FnExactStageOrderOf", spec := "fnExactStageOrderOf", unfollowed := true, recurses := true, apart := false, narrowed := true }
def FnExactStageOrderOfUptoSaid : Prop := fnExactStageOrderOfUptoRow.holds Try.pinned (OpenSpec.upto fnExactStageOrderOfSpec)

/-- 'laws.FnExactColumnOrder', WHERE WHAT IT READS IS OF BULK AT MOST 1048576: true; the input reads as it did. -/
def fnExactColumnOrderUptoRow : OpenClaim := { program := "ytfllcdcgfpjabaa", sum := "d224ce360d413cd5ed246f47022f86786bdfda2ff8940d8078a53a73161dd60f", func := "loop.example/g01100/laws.FnExactColumnOrder", spec := "fnExactColumnOrder", unfollowed := true, recurses := true, apart := false, narrowed := true }
def FnExactColumnOrderUptoSaid : Prop := fnExactColumnOrderUptoRow.holds Try.pinned (OpenSpec.upto fnExactColumnOrderSpec)

/-- 'laws.FnExactMeetsAssumption', WHERE WHAT IT READS IS OF BULK AT MOST 1048576: true; the input reads as it did. -/
def fnExactMeetsAssumptionUptoRow : OpenClaim := { program := "ytfllcdcgfpjabaa", sum := "d224ce360d413cd5ed246f47022f86786bdfda2ff8940d8078a53a73161dd60f", func := "loop.example/g01100/laws.FnExactMeetsAssumption", spec := "fnExactMeetsAssumption", unfollowed := true, recurses := true, apart := false, narrowed := true }
def FnExactMeetsAssumptionUptoSaid : Prop := fnExactMeetsAssumptionUptoRow.holds Try.pinned (OpenSpec.upto fnExactMeetsAssumptionSpec)

/-- 'laws.FnExactImpliedOrder', WHERE WHAT IT READS IS OF BULK AT MOST 1048576: true; the input reads as it did. -/
def fnExactImpliedOrderUptoRow : OpenClaim := { program := "ytfllcdcgfpjabaa", sum := "d224ce360d413cd5ed246f47022f86786bdfda2ff8940d8078a53a73161dd60f", func := "loop.example/g01100/laws.FnExactImpliedOrder", spec := "fnExactImpliedOrder", unfollowed := true, recurses := true, apart := false, narrowed := true }
def FnExactImpliedOrderUptoSaid : Prop := fnExactImpliedOrderUptoRow.holds Try.pinned (OpenSpec.upto fnExactImpliedOrderSpec)

/-- 'laws.FnExactCollocationTableau', WHERE WHAT IT READS IS OF BULK AT MOST 1048576: true; the input reads as it did. -/
def fnExactCollocationTableauUptoRow : OpenClaim := { program := "ytfllcdcgfpjabaa", sum := "d224ce360d413cd5ed246f47022f86786bdfda2ff8940d8078a53a73161dd60f", func := "loop.example/g01100/laws.FnExactCollocationTableau", spec := "fnExactCollocationTableau", unfollowed := true, recurses := true, apart := false, narrowed := true }
def FnExactCollocationTableauUptoSaid : Prop := fnExactCollocationTableauUptoRow.holds Try.pinned (OpenSpec.upto fnExactCollocationTableauSpec)

/-- 'laws.FnExactIsCollocation', WHERE WHAT IT READS IS OF BULK AT MOST 1048576: true; the input reads as it did. -/
def fnExactIsCollocationUptoRow : OpenClaim := { program := "ytfllcdcgfpjabaa", sum := "d224ce360d413cd5ed246f47022f86786bdfda2ff8940d8078a53a73161dd60f", func := "loop.example/g01100/laws.FnExactIsCollocation", spec := "fnExactIsCollocation", unfollowed := true, recurses := true, apart := false, narrowed := true }
def FnExactIsCollocationUptoSaid : Prop := fnExactIsCollocationUptoRow.holds Try.pinned (OpenSpec.upto fnExactIsCollocationSpec)

/-- 'laws.FnExactNodePolynomial', WHERE WHAT IT READS IS OF BULK AT MOST 1048576: true; the input reads as it did. -/
def fnExactNodePolynomialUptoRow : OpenClaim := { program := "ytfllcdcgfpjabaa", sum := "d224ce360d413cd5ed246f47022f86786bdfda2ff8940d8078a53a73161dd60f", func := "loop.example/g01100/laws.FnExactNodePolynomial", spec := "fnExactNodePolynomial", unfollowed := true, recurses := true, apart := false, narrowed := true }
def FnExactNodePolynomialUptoSaid : Prop := fnExactNodePolynomialUptoRow.holds Try.pinned (OpenSpec.upto fnExactNodePolynomialSpec)

/-- 'laws.FnExactOrthogonalTo', WHERE WHAT IT READS IS OF BULK AT MOST 1048576: true; the input reads as it did. -/
def fnExactOrthogonalToUptoRow : OpenClaim := { program := "ytfllcdcgfpjabaa", sum := "d224ce360d413cd5ed246f47022f86786bdfda2ff8940d8078a53a73161dd60f", func := "loop.example/g01100/laws.FnExactOrthogonalTo", spec := "fnExactOrthogonalTo", unfollowed := true, recurses := true, apart := false, narrowed := true }
def FnExactOrthogonalToUptoSaid : Prop := fnExactOrthogonalToUptoRow.holds Try.pinned (OpenSpec.upto fnExactOrthogonalToSpec)

end Rows
end Go.Proofs.Ytfllcdcgfpjabaa
