/-
  No cell of these rows narrows 'for every input' (looked for: loops, veiled, ifaces, maps, wideKeys, modest, calm, conditions, laid).
  DERIVED. THE GIVEN ROWS OF THIS SEAT. 13 by the template 'for every input the law returns true; each argument reads behind the call as it read before'; 0 by the template 'total and deterministic' (their statements: YtchimobmkmgkmaaTotals.lean).
  GIVEN WITH THE SEED: the statements are not yours to turn. If you find one false, say at which input.
  Laid BY PROGRAM, IN A SANDBOX (cutbox-rows.mjs): the forced cells as the released guide's own fill.sh prints them over the translation 17935708a10d6fa5… (all of the seat's roots in one cut). By AI agents, Wed Nov 11 2026. No macro, syntax, notation, axiom, sorry.
-/
import Derived.Test.YtchimobmkmgkmaaChecked
import GoSem.Claim
import GoSem.ClaimJoined
import GoSem.ClaimMapViews
import Derived.JoinedTies
import Derived.KernelRfl
namespace Go.Proofs.Ytchimobmkmgkmaa
/- THE CELL 'sum', in the pinned program and in every row, IS THE sha256 OF THE DUMP (.gsa) THAT YtchimobmkmgkmaaProg.lean LOADS. Nothing in Lean hashes anything: it is a label: what it is worth is what the hold of that sum in a sandbox is worth. -/
noncomputable def Try.pinned : Pinned := { name := "ytchimobmkmgkmaa", sum := "17935708a10d6fa5d41495115e40f4e54d5daeae450824e5f340e1db948b65b4", checked := Try.checked }
namespace Rows
def none {H : Type} : Left H := { results := [], args := [] }

/-- 'laws.FnExactComposeTableaus': WHATEVER THE INPUT: true; the input reads as it did. -/
def fnExactComposeTableausSpec : ChangeSpec := { name := "fnExactComposeTableaus", fn := fun _ => fun
  | [d1, d2] => { results := [.lit (.bool true)], args := [d1, d2] }
  | _ => none }
def fnExactComposeTableausRow : OpenClaim := { program := "ytchimobmkmgkmaa", sum := "17935708a10d6fa5d41495115e40f4e54d5daeae450824e5f340e1db948b65b4", func := "loop.example/g01100/laws.FnExactComposeTableaus", spec := "fnExactComposeTableaus", apart := false }
def FnExactComposeTableausSaid : Prop := fnExactComposeTableausRow.holds Try.pinned (OpenSpec.ofChange fnExactComposeTableausSpec)

/-- ITS FALSE NEIGHBOUR: 'it returns false'. Refute it at one input. -/
def fnExactComposeTableausWrong : ChangeSpec := { name := "fnExactComposeTableaus", fn := fun _ => fun
  | [d1, d2] => { results := [.lit (.bool false)], args := [d1, d2] }
  | _ => none }
def FnExactComposeTableausWrongFalsely : Prop := fnExactComposeTableausRow.holds Try.pinned (OpenSpec.ofChange fnExactComposeTableausWrong)

/-- 'laws.FnExactScaleTableau': WHATEVER THE INPUT: true; the input reads as it did. -/
def fnExactScaleTableauSpec : ChangeSpec := { name := "fnExactScaleTableau", fn := fun _ => fun
  | [d1, d2] => { results := [.lit (.bool true)], args := [d1, d2] }
  | _ => none }
def fnExactScaleTableauRow : OpenClaim := { program := "ytchimobmkmgkmaa", sum := "17935708a10d6fa5d41495115e40f4e54d5daeae450824e5f340e1db948b65b4", func := "loop.example/g01100/laws.FnExactScaleTableau", spec := "fnExactScaleTableau", unfollowed := true, recurses := true, apart := false }
def FnExactScaleTableauSaid : Prop := fnExactScaleTableauRow.holds Try.pinned (OpenSpec.ofChange fnExactScaleTableauSpec)

/-- ITS FALSE NEIGHBOUR: 'it returns false'. Refute it at one input. -/
def fnExactScaleTableauWrong : ChangeSpec := { name := "fnExactScaleTableau", fn := fun _ => fun
  | [d1, d2] => { results := [.lit (.bool false)], args := [d1, d2] }
  | _ => none }
def FnExactScaleTableauWrongFalsely : Prop := fnExactScaleTableauRow.holds Try.pinned (OpenSpec.ofChange fnExactScaleTableauWrong)

/-- 'laws.FnExactNeutralTableau': WHATEVER THE INPUT: true; the input reads as it did. -/
def fnExactNeutralTableauSpec : ChangeSpec := { name := "fnExactNeutralTableau", fn := fun _ => fun
  | [] => { results := [.lit (.bool true)], args := [] }
  | _ => none }
def fnExactNeutralTableauRow : OpenClaim := { program := "ytchimobmkmgkmaa", sum := "17935708a10d6fa5d41495115e40f4e54d5daeae450824e5f340e1db948b65b4", func := "loop.example/g01100/laws.FnExactNeutralTableau", spec := "fnExactNeutralTableau", apart := false }
def FnExactNeutralTableauSaid : Prop := fnExactNeutralTableauRow.holds Try.pinned (OpenSpec.ofChange fnExactNeutralTableauSpec)

/-- ITS FALSE NEIGHBOUR: 'it returns false'. Refute it at one input. -/
def fnExactNeutralTableauWrong : ChangeSpec := { name := "fnExactNeutralTableau", fn := fun _ => fun
  | [] => { results := [.lit (.bool false)], args := [] }
  | _ => none }
def FnExactNeutralTableauWrongFalsely : Prop := fnExactNeutralTableauRow.holds Try.pinned (OpenSpec.ofChange fnExactNeutralTableauWrong)

/-- 'laws.FnExactInverseTableau': WHATEVER THE INPUT: true; the input reads as it did. -/
def fnExactInverseTableauSpec : ChangeSpec := { name := "fnExactInverseTableau", fn := fun _ => fun
  | [d] => { results := [.lit (.bool true)], args := [d] }
  | _ => none }
def fnExactInverseTableauRow : OpenClaim := { program := "ytchimobmkmgkmaa", sum := "17935708a10d6fa5d41495115e40f4e54d5daeae450824e5f340e1db948b65b4", func := "loop.example/g01100/laws.FnExactInverseTableau", spec := "fnExactInverseTableau", unfollowed := true, recurses := true, apart := false }
def FnExactInverseTableauSaid : Prop := fnExactInverseTableauRow.holds Try.pinned (OpenSpec.ofChange fnExactInverseTableauSpec)

/-- ITS FALSE NEIGHBOUR: 'it returns false'. Refute it at one input. -/
def fnExactInverseTableauWrong : ChangeSpec := { name := "fnExactInverseTableau", fn := fun _ => fun
  | [d] => { results := [.lit (.bool false)], args := [d] }
  | _ => none }
def FnExactInverseTableauWrongFalsely : Prop := fnExactInverseTableauRow.holds Try.pinned (OpenSpec.ofChange fnExactInverseTableauWrong)

/-- 'laws.FnExactAdjointTableau': WHATEVER THE INPUT: true; the input reads as it did. -/
def fnExactAdjointTableauSpec : ChangeSpec := { name := "fnExactAdjointTableau", fn := fun _ => fun
  | [d] => { results := [.lit (.bool true)], args := [d] }
  | _ => none }
def fnExactAdjointTableauRow : OpenClaim := { program := "ytchimobmkmgkmaa", sum := "17935708a10d6fa5d41495115e40f4e54d5daeae450824e5f340e1db948b65b4", func := "loop.example/g01100/laws.FnExactAdjointTableau", spec := "fnExactAdjointTableau", unfollowed := true, recurses := true, apart := false }
def FnExactAdjointTableauSaid : Prop := fnExactAdjointTableauRow.holds Try.pinned (OpenSpec.ofChange fnExactAdjointTableauSpec)

/-- ITS FALSE NEIGHBOUR: 'it returns false'. Refute it at one input. -/
def fnExactAdjointTableauWrong : ChangeSpec := { name := "fnExactAdjointTableau", fn := fun _ => fun
  | [d] => { results := [.lit (.bool false)], args := [d] }
  | _ => none }
def FnExactAdjointTableauWrongFalsely : Prop := fnExactAdjointTableauRow.holds Try.pinned (OpenSpec.ofChange fnExactAdjointTableauWrong)

/-- 'laws.FnExactRepeatTableau': WHATEVER THE INPUT: true; the input reads as it did. -/
def fnExactRepeatTableauSpec : ChangeSpec := { name := "fnExactRepeatTableau", fn := fun _ => fun
  | [d1, d2] => { results := [.lit (.bool true)], args := [d1, d2] }
  | _ => none }
def fnExactRepeatTableauRow : OpenClaim := { program := "ytchimobmkmgkmaa", sum := "17935708a10d6fa5d41495115e40f4e54d5daeae450824e5f340e1db948b65b4", func := "loop.example/g01100/laws.FnExactRepeatTableau", spec := "fnExactRepeatTableau", unfollowed := true, recurses := true, apart := false }
def FnExactRepeatTableauSaid : Prop := fnExactRepeatTableauRow.holds Try.pinned (OpenSpec.ofChange fnExactRepeatTableauSpec)

/-- ITS FALSE NEIGHBOUR: 'it returns false'. Refute it at one input. -/
def fnExactRepeatTableauWrong : ChangeSpec := { name := "fnExactRepeatTableau", fn := fun _ => fun
  | [d1, d2] => { results := [.lit (.bool false)], args := [d1, d2] }
  | _ => none }
def FnExactRepeatTableauWrongFalsely : Prop := fnExactRepeatTableauRow.holds Try.pinned (OpenSpec.ofChange fnExactRepeatTableauWrong)

/-- 'laws.FnExactDropUnused': WHATEVER THE INPUT: true; the input reads as it did. -/
def fnExactDropUnusedSpec : ChangeSpec := { name := "fnExactDropUnused", fn := fun _ => fun
  | [d] => { results := [.lit (.bool true)], args := [d] }
  | _ => none }
def fnExactDropUnusedRow : OpenClaim := { program := "ytchimobmkmgkmaa", sum := "17935708a10d6fa5d41495115e40f4e54d5daeae450824e5f340e1db948b65b4", func := "loop.example/g01100/laws.FnExactDropUnused", spec := "fnExactDropUnused", unfollowed := true, recurses := true, apart := false }
def FnExactDropUnusedSaid : Prop := fnExactDropUnusedRow.holds Try.pinned (OpenSpec.ofChange fnExactDropUnusedSpec)

/-- ITS FALSE NEIGHBOUR: 'it returns false'. Refute it at one input. -/
def fnExactDropUnusedWrong : ChangeSpec := { name := "fnExactDropUnused", fn := fun _ => fun
  | [d] => { results := [.lit (.bool false)], args := [d] }
  | _ => none }
def FnExactDropUnusedWrongFalsely : Prop := fnExactDropUnusedRow.holds Try.pinned (OpenSpec.ofChange fnExactDropUnusedWrong)

/-- 'laws.FnExactAlikeStages': WHATEVER THE INPUT: true; the input reads as it did. -/
def fnExactAlikeStagesSpec : ChangeSpec := { name := "fnExactAlikeStages", fn := fun _ => fun
  | [d] => { results := [.lit (.bool true)], args := [d] }
  | _ => none }
def fnExactAlikeStagesRow : OpenClaim := { program := "ytchimobmkmgkmaa", sum := "17935708a10d6fa5d41495115e40f4e54d5daeae450824e5f340e1db948b65b4", func := "loop.example/g01100/laws.FnExactAlikeStages", spec := "fnExactAlikeStages", apart := false }
def FnExactAlikeStagesSaid : Prop := fnExactAlikeStagesRow.holds Try.pinned (OpenSpec.ofChange fnExactAlikeStagesSpec)

/-- ITS FALSE NEIGHBOUR: 'it returns false'. Refute it at one input. -/
def fnExactAlikeStagesWrong : ChangeSpec := { name := "fnExactAlikeStages", fn := fun _ => fun
  | [d] => { results := [.lit (.bool false)], args := [d] }
  | _ => none }
def FnExactAlikeStagesWrongFalsely : Prop := fnExactAlikeStagesRow.holds Try.pinned (OpenSpec.ofChange fnExactAlikeStagesWrong)

/-- 'laws.FnExactMergeStages': WHATEVER THE INPUT: true; the input reads as it did. -/
def fnExactMergeStagesSpec : ChangeSpec := { name := "fnExactMergeStages", fn := fun _ => fun
  | [d] => { results := [.lit (.bool true)], args := [d] }
  | _ => none }
def fnExactMergeStagesRow : OpenClaim := { program := "ytchimobmkmgkmaa", sum := "17935708a10d6fa5d41495115e40f4e54d5daeae450824e5f340e1db948b65b4", func := "loop.example/g01100/laws.FnExactMergeStages", spec := "fnExactMergeStages", unfollowed := true, recurses := true, apart := false }
def FnExactMergeStagesSaid : Prop := fnExactMergeStagesRow.holds Try.pinned (OpenSpec.ofChange fnExactMergeStagesSpec)

/-- ITS FALSE NEIGHBOUR: 'it returns false'. Refute it at one input. -/
def fnExactMergeStagesWrong : ChangeSpec := { name := "fnExactMergeStages", fn := fun _ => fun
  | [d] => { results := [.lit (.bool false)], args := [d] }
  | _ => none }
def FnExactMergeStagesWrongFalsely : Prop := fnExactMergeStagesRow.holds Try.pinned (OpenSpec.ofChange fnExactMergeStagesWrong)

/-- 'laws.FnExactReduceTableau': WHATEVER THE INPUT: true; the input reads as it did. -/
def fnExactReduceTableauSpec : ChangeSpec := { name := "fnExactReduceTableau", fn := fun _ => fun
  | [d] => { results := [.lit (.bool true)], args := [d] }
  | _ => none }
def fnExactReduceTableauRow : OpenClaim := { program := "ytchimobmkmgkmaa", sum := "17935708a10d6fa5d41495115e40f4e54d5daeae450824e5f340e1db948b65b4", func := "loop.example/g01100/laws.FnExactReduceTableau", spec := "fnExactReduceTableau", unfollowed := true, recurses := true, apart := false }
def FnExactReduceTableauSaid : Prop := fnExactReduceTableauRow.holds Try.pinned (OpenSpec.ofChange fnExactReduceTableauSpec)

/-- ITS FALSE NEIGHBOUR: 'it returns false'. Refute it at one input. -/
def fnExactReduceTableauWrong : ChangeSpec := { name := "fnExactReduceTableau", fn := fun _ => fun
  | [d] => { results := [.lit (.bool false)], args := [d] }
  | _ => none }
def FnExactReduceTableauWrongFalsely : Prop := fnExactReduceTableauRow.holds Try.pinned (OpenSpec.ofChange fnExactReduceTableauWrong)

/-- 'laws.FnExactIsReduced': WHATEVER THE INPUT: true; the input reads as it did. -/
def fnExactIsReducedSpec : ChangeSpec := { name := "fnExactIsReduced", fn := fun _ => fun
  | [d] => { results := [.lit (.bool true)], args := [d] }
  | _ => none }
def fnExactIsReducedRow : OpenClaim := { program := "ytchimobmkmgkmaa", sum := "17935708a10d6fa5d41495115e40f4e54d5daeae450824e5f340e1db948b65b4", func := "loop.example/g01100/laws.FnExactIsReduced", spec := "fnExactIsReduced", unfollowed := true, recurses := true, apart := false }
def FnExactIsReducedSaid : Prop := fnExactIsReducedRow.holds Try.pinned (OpenSpec.ofChange fnExactIsReducedSpec)

/-- ITS FALSE NEIGHBOUR: 'it returns false'. Refute it at one input. -/
def fnExactIsReducedWrong : ChangeSpec := { name := "fnExactIsReduced", fn := fun _ => fun
  | [d] => { results := [.lit (.bool false)], args := [d] }
  | _ => none }
def FnExactIsReducedWrongFalsely : Prop := fnExactIsReducedRow.holds Try.pinned (OpenSpec.ofChange fnExactIsReducedWrong)

/-- 'laws.FnExactPermuteStages': WHATEVER THE INPUT: true; the input reads as it did. -/
def fnExactPermuteStagesSpec : ChangeSpec := { name := "fnExactPermuteStages", fn := fun _ => fun
  | [d1, d2] => { results := [.lit (.bool true)], args := [d1, d2] }
  | _ => none }
def fnExactPermuteStagesRow : OpenClaim := { program := "ytchimobmkmgkmaa", sum := "17935708a10d6fa5d41495115e40f4e54d5daeae450824e5f340e1db948b65b4", func := "loop.example/g01100/laws.FnExactPermuteStages", spec := "fnExactPermuteStages", unfollowed := true, recurses := true, apart := false }
def FnExactPermuteStagesSaid : Prop := fnExactPermuteStagesRow.holds Try.pinned (OpenSpec.ofChange fnExactPermuteStagesSpec)

/-- ITS FALSE NEIGHBOUR: 'it returns false'. Refute it at one input. -/
def fnExactPermuteStagesWrong : ChangeSpec := { name := "fnExactPermuteStages", fn := fun _ => fun
  | [d1, d2] => { results := [.lit (.bool false)], args := [d1, d2] }
  | _ => none }
def FnExactPermuteStagesWrongFalsely : Prop := fnExactPermuteStagesRow.holds Try.pinned (OpenSpec.ofChange fnExactPermuteStagesWrong)

/-- 'laws.FnExactStageOrder': WHATEVER THE INPUT: true; the input reads as it did. -/
def fnExactStageOrderSpec : ChangeSpec := { name := "fnExactStageOrder", fn := fun _ => fun
  | [d1, d2] => { results := [.lit (.bool true)], args := [d1, d2] }
  | _ => none }
def fnExactStageOrderRow : OpenClaim := { program := "ytchimobmkmgkmaa", sum := "17935708a10d6fa5d41495115e40f4e54d5daeae450824e5f340e1db948b65b4", func := "loop.example/g01100/laws.FnExactStageOrder", spec := "fnExactStageOrder", recurses := true, apart := false }
def FnExactStageOrderSaid : Prop := fnExactStageOrderRow.holds Try.pinned (OpenSpec.ofChange fnExactStageOrderSpec)

/-- ITS FALSE NEIGHBOUR: 'it returns false'. Refute it at one input. -/
def fnExactStageOrderWrong : ChangeSpec := { name := "fnExactStageOrder", fn := fun _ => fun
  | [d1, d2] => { results := [.lit (.bool false)], args := [d1, d2] }
  | _ => none }
def FnExactStageOrderWrongFalsely : Prop := fnExactStageOrderRow.holds Try.pinned (OpenSpec.ofChange fnExactStageOrderWrong)

/- THE SECOND FORM. 'bulk': how many values and letters a reading holds, each counted each time it is reached (what is shared counts as often as it is met; a slice's spare places count too). A statement '..UptoSaid' is the law's where the arguments, and the package variables that the reading takes, are together of bulk at most 1048576: NARROWER than '..Said'. Prove '..Said' where nothing that the law and all that it calls make is longer than what came in: it says more and counts as full. Else prove '..UptoSaid'. A law counts once. -/
mutual
def uptoBulk {H : Type} : DataW H → Nat
  | .lit (.string bytes) => bytes.length + 1
  | .lit _ => 1
  | .nil => 1
  | .ptr d => uptoBulk d + 1
  | .slice elems spare => uptoBulkAll elems + uptoBulkAll spare + 1
  | .agg parts => uptoBulkAll parts + 1
  | .iface _ d => uptoBulk d + 1
  | .map entries => uptoBulkEntries entries + 1
  | .held _ => 1
def uptoBulkAll {H : Type} : List (DataW H) → Nat
  | [] => 0
  | d :: r => uptoBulk d + uptoBulkAll r
def uptoBulkEntries {H : Type} : List (Lit × DataW H) → Nat
  | [] => 0
  | x :: r => uptoBulkEntry x + uptoBulkEntries r
def uptoBulkEntry {H : Type} : Lit × DataW H → Nat
  | (.string bytes, d) => bytes.length + uptoBulk d + 1
  | (_, d) => uptoBulk d + 1
 end
def uptoSmall : (H : Type) → List (DataW H) → Bool := fun _ ds => decide (uptoBulkAll ds ≤ 1048576)
def OpenSpec.upto (s : _root_.Go.ChangeSpec) : _root_.Go.OpenSpec := { _root_.Go.OpenSpec.ofChange s with cond := some uptoSmall }

/-- 'laws.FnExactComposeTableaus', WHERE WHAT IT READS IS OF BULK AT MOST 1048576: true; the input reads as it did. -/
def fnExactComposeTableausUptoRow : OpenClaim := { program := "ytchimobmkmgkmaa", sum := "17935708a10d6fa5d41495115e40f4e54d5daeae450824e5f340e1db948b65b4", func := "loop.example/g01100/laws.FnExactComposeTableaus", spec := "fnExactComposeTableaus", apart := false, narrowed := true }
def FnExactComposeTableausUptoSaid : Prop := fnExactComposeTableausUptoRow.holds Try.pinned (OpenSpec.upto fnExactComposeTableausSpec)

/-- 'laws.FnExactScaleTableau', WHERE WHAT IT READS IS OF BULK AT MOST 1048576: true; the input reads as it did. -/
def fnExactScaleTableauUptoRow : OpenClaim := { program := "ytchimobmkmgkmaa", sum := "17935708a10d6fa5d41495115e40f4e54d5daeae450824e5f340e1db948b65b4", func := "loop.example/g01100/laws.FnExactScaleTableau", spec := "fnExactScaleTableau", unfollowed := true, recurses := true, apart := false, narrowed := true }
def FnExactScaleTableauUptoSaid : Prop := fnExactScaleTableauUptoRow.holds Try.pinned (OpenSpec.upto fnExactScaleTableauSpec)

/-- 'laws.FnExactNeutralTableau', WHERE WHAT IT READS IS OF BULK AT MOST 1048576: true; the input reads as it did. -/
def fnExactNeutralTableauUptoRow : OpenClaim := { program := "ytchimobmkmgkmaa", sum := "17935708a10d6fa5d41495115e40f4e54d5daeae450824e5f340e1db948b65b4", func := "loop.example/g01100/laws.FnExactNeutralTableau", spec := "fnExactNeutralTableau", apart := false, narrowed := true }
def FnExactNeutralTableauUptoSaid : Prop := fnExactNeutralTableauUptoRow.holds Try.pinned (OpenSpec.upto fnExactNeutralTableauSpec)

/-- 'laws.FnExactInverseTableau', WHERE WHAT IT READS IS OF BULK AT MOST 1048576: true; the input reads as it did. -/
def fnExactInverseTableauUptoRow : OpenClaim := { program := "ytchimobmkmgkmaa", sum := "17935708a10d6fa5d41495115e40f4e54d5daeae450824e5f340e1db948b65b4", func := "loop.example/g01100/laws.FnExactInverseTableau", spec := "fnExactInverseTableau", unfollowed := true, recurses := true, apart := false, narrowed := true }
def FnExactInverseTableauUptoSaid : Prop := fnExactInverseTableauUptoRow.holds Try.pinned (OpenSpec.upto fnExactInverseTableauSpec)

/-- 'laws.FnExactAdjointTableau', WHERE WHAT IT READS IS OF BULK AT MOST 1048576: true; the input reads as it did. -/
def fnExactAdjointTableauUptoRow : OpenClaim := { program := "ytchimobmkmgkmaa", sum := "17935708a10d6fa5d41495115e40f4e54d5daeae450824e5f340e1db948b65b4", func := "loop.example/g01100/laws.FnExactAdjointTableau", spec := "fnExactAdjointTableau", unfollowed := true, recurses := true, apart := false, narrowed := true }
def FnExactAdjointTableauUptoSaid : Prop := fnExactAdjointTableauUptoRow.holds Try.pinned (OpenSpec.upto fnExactAdjointTableauSpec)

/-- 'laws.FnExactRepeatTableau', WHERE WHAT IT READS IS OF BULK AT MOST 1048576: true; the input reads as it did. -/
def fnExactRepeatTableauUptoRow : OpenClaim := { program := "ytchimobmkmgkmaa", sum := "17935708a10d6fa5d41495115e40f4e54d5daeae450824e5f340e1db948b65b4", func := "loop.example/g01100/laws.FnExactRepeatTableau", spec := "fnExactRepeatTableau", unfollowed := true, recurses := true, apart := false, narrowed := true }
def FnExactRepeatTableauUptoSaid : Prop := fnExactRepeatTableauUptoRow.holds Try.pinned (OpenSpec.upto fnExactRepeatTableauSpec)

/-- 'laws.FnExactDropUnused', WHERE WHAT IT READS IS OF BULK AT MOST 1048576: true; the input reads as it did. -/
def fnExactDropUnusedUptoRow : OpenClaim := { program := "ytchimobmkmgkmaa", sum := "17935708a10d6fa5d41495115e40f4e54d5daeae450824e5f340e1db948b65b4", func := "loop.example/g01100/laws.FnExactDropUnused", spec := "fnExactDropUnused", unfollowed := true, recurses := true, apart := false, narrowed := true }
def FnExactDropUnusedUptoSaid : Prop := fnExactDropUnusedUptoRow.holds Try.pinned (OpenSpec.upto fnExactDropUnusedSpec)

/-- 'laws.FnExactAlikeStages', WHERE WHAT IT READS IS OF BULK AT MOST 1048576: true; the input reads as it did. -/
def fnExactAlikeStagesUptoRow : OpenClaim := { program := "ytchimobmkmgkmaa", sum := "17935708a10d6fa5d41495115e40f4e54d5daeae450824e5f340e1db948b65b4", func := "loop.example/g01100/laws.FnExactAlikeStages", spec := "fnExactAlikeStages", apart := false, narrowed := true }
def FnExactAlikeStagesUptoSaid : Prop := fnExactAlikeStagesUptoRow.holds Try.pinned (OpenSpec.upto fnExactAlikeStagesSpec)

/-- 'laws.FnExactMergeStages', WHERE WHAT IT READS IS OF BULK AT MOST 1048576: true; the input reads as it did. -/
def fnExactMergeStagesUptoRow : OpenClaim := { program := "ytchimobmkmgkmaa", sum := "17935708a10d6fa5d41495115e40f4e54d5daeae450824e5f340e1db948b65b4", func := "loop.example/g01100/laws.FnExactMergeStages", spec := "fnExactMergeStages", unfollowed := true, recurses := true, apart := false, narrowed := true }
def FnExactMergeStagesUptoSaid : Prop := fnExactMergeStagesUptoRow.holds Try.pinned (OpenSpec.upto fnExactMergeStagesSpec)

/-- 'laws.FnExactReduceTableau', WHERE WHAT IT READS IS OF BULK AT MOST 1048576: true; the input reads as it did. -/
def fnExactReduceTableauUptoRow : OpenClaim := { program := "ytchimobmkmgkmaa", sum := "17935708a10d6fa5d41495115e40f4e54d5daeae450824e5f340e1db948b65b4", func := "loop.example/g01100/laws.FnExactReduceTableau", spec := "fnExactReduceTableau", unfollowed := true, recurses := true, apart := false, narrowed := true }
def FnExactReduceTableauUptoSaid : Prop := fnExactReduceTableauUptoRow.holds Try.pinned (OpenSpec.upto fnExactReduceTableauSpec)

/-- 'laws.FnExactIsReduced', WHERE WHAT IT READS IS OF BULK AT MOST 1048576: true; the input reads as it did. -/
def fnExactIsReducedUptoRow : OpenClaim := { program := "ytchimobmkmgkmaa", sum := "17935708a10d6fa5d41495115e40f4e54d5daeae450824e5f340e1db948b65b4", func := "loop.example/g01100/laws.FnExactIsReduced", spec := "fnExactIsReduced", unfollowed := true, recurses := true, apart := false, narrowed := true }
def FnExactIsReducedUptoSaid : Prop := fnExactIsReducedUptoRow.holds Try.pinned (OpenSpec.upto fnExactIsReducedSpec)

/-- 'laws.FnExactPermuteStages', WHERE WHAT IT READS IS OF BULK AT MOST 1048576: true; the input reads as it did. -/
def fnExactPermuteStagesUptoRow : OpenClaim := { program := "ytchimobmkmgkmaa", sum := "17935708a10d6fa5d41495115e40f4e54d5daeae450824e5f340e1db948b65b4", func := "loop.example/g01100/laws.FnExactPermuteStages", spec := "fnExactPermuteStages", unfollowed := true, recurses := true, apart := false, narrowed := true }
def FnExactPermuteStagesUptoSaid : Prop := fnExactPermuteStagesUptoRow.holds Try.pinned (OpenSpec.upto fnExactPermuteStagesSpec)

/-- 'laws.FnExactStageOrder', WHERE WHAT IT READS IS OF BULK AT MOST 1048576: true; the input reads as it did. -/
def fnExactStageOrderUptoRow : OpenClaim := { program := "ytchimobmkmgkmaa", sum := "17935708a10d6fa5d41495115e40f4e54d5daeae450824e5f340e1db948b65b4", func := "loop.example/g01100/laws.FnExactStageOrder", spec := "fnExactStageOrder", recurses := true, apart := false, narrowed := true }
def FnExactStageOrderUptoSaid : Prop := fnExactStageOrderUptoRow.holds Try.pinned (OpenSpec.upto fnExactStageOrderSpec)

end Rows
end Go.Proofs.Ytchimobmkmgkmaa
