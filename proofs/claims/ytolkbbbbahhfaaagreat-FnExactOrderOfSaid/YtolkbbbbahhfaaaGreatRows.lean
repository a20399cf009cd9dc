/-
  No cell of these rows narrows 'for every input' (looked for: loops, veiled, ifaces, maps, wideKeys, modest, calm, conditions, laid).
  DERIVED. THE GIVEN ROWS OF THIS SEAT. 5 by the template 'for every input the law returns true; each argument reads behind the call as it read before'; 0 by the template 'total and deterministic' (their statements: YtolkbbbbahhfaaaGreatTotals.lean).
  GIVEN WITH THE SEED: the statements are not yours to turn. If you find one false, say at which input.
  Laid BY PROGRAM, IN A SANDBOX (cutbox-rows.mjs): the forced cells as the released guide's own fill.sh prints them over the translation 0106ccd551c05786… (all of the seat's roots in one cut). By AI agents, Wed Nov 11 2026. No macro, syntax, notation, axiom, sorry.
-/
import Derived.Test.YtolkbbbbahhfaaaGreatChecked
import GoSem.Claim
import GoSem.ClaimJoined
import GoSem.ClaimMapViews
import Derived.JoinedTies
import Derived.KernelRfl
namespace Go.Proofs.YtolkbbbbahhfaaaGreat
/- THE CELL 'sum', in the pinned program and in every row, IS THE sha256 OF THE DUMP (.gsa) THAT YtolkbbbbahhfaaaGreatProg.lean LOADS. Nothing in Lean hashes anything: it is a label: what it is worth is what the hold of that sum in a sandbox is worth. -/
noncomputable def Tryz.pinned : Pinned := { name := "ytolkbbbbahhfaaagreat", sum := "0106ccd551c057869ff19560ef4cfa5c08cfa053fde016dcbdafc8a1449ebd71", checked := Tryz.checked }
namespace Rows
def none {H : Type} : Left H := { results := [], args := [] }

/-- 'laws.FnExactOrderOf': WHATEVER THE INPUT: true; the input reads as it did. -/
def fnExactOrderOfSpec : ChangeSpec := { name := "fnExactOrderOf", fn := fun _ => fun
  | [d] => { results := [.lit (.bool true)], args := [d] }
  | _ => none }
def fnExactOrderOfRow : OpenClaim := { program := "ytolkbbbbahhfaaagreat", sum := "0106ccd551c057869ff19560ef4cfa5c08cfa053fde016dcbdafc8a1449ebd71", func := "loop.example/g01100/laws.FnExactOrderOf", spec := "fnExactOrderOf", inPlace := ["internal/abi.NoEscape"], recurses := true, plainKeys := false, apart := false }
def FnExactOrderOfSaid : Prop := fnExactOrderOfRow.holds Tryz.pinned (OpenSpec.ofChange fnExactOrderOfSpec)

/-- ITS FALSE NEIGHBOUR: 'it returns false'. Refute it at one input. -/
def fnExactOrderOfWrong : ChangeSpec := { name := "fnExactOrderOf", fn := fun _ => fun
  | [d] => { results := [.lit (.bool false)], args := [d] }
  | _ => none }
def FnExactOrderOfWrongFalsely : Prop := fnExactOrderOfRow.holds Tryz.pinned (OpenSpec.ofChange fnExactOrderOfWrong)

/-- 'laws.FnExactResidualsOf': WHATEVER THE INPUT: true; the input reads as it did. -/
def fnExactResidualsOfSpec : ChangeSpec := { name := "fnExactResidualsOf", fn := fun _ => fun
  | [d1, d2] => { results := [.lit (.bool true)], args := [d1, d2] }
  | _ => none }
def fnExactResidualsOfRow : OpenClaim := { program := "ytolkbbbbahhfaaagreat", sum := "0106ccd551c057869ff19560ef4cfa5c08cfa053fde016dcbdafc8a1449ebd71", func := "loop.example/g01100/laws.FnExactResidualsOf", spec := "fnExactResidualsOf", inPlace := ["internal/abi.NoEscape"], recurses := true, plainKeys := false, apart := false }
def FnExactResidualsOfSaid : Prop := fnExactResidualsOfRow.holds Tryz.pinned (OpenSpec.ofChange fnExactResidualsOfSpec)

/-- ITS FALSE NEIGHBOUR: 'it returns false'. Refute it at one input. -/
def fnExactResidualsOfWrong : ChangeSpec := { name := "fnExactResidualsOf", fn := fun _ => fun
  | [d1, d2] => { results := [.lit (.bool false)], args := [d1, d2] }
  | _ => none }
def FnExactResidualsOfWrongFalsely : Prop := fnExactResidualsOfRow.holds Tryz.pinned (OpenSpec.ofChange fnExactResidualsOfWrong)

/-- 'laws.FnExactFirstFault': WHATEVER THE INPUT: true; the input reads as it did. -/
def fnExactFirstFaultSpec : ChangeSpec := { name := "fnExactFirstFault", fn := fun _ => fun
  | [d1, d2] => { results := [.lit (.bool true)], args := [d1, d2] }
  | _ => none }
def fnExactFirstFaultRow : OpenClaim := { program := "ytolkbbbbahhfaaagreat", sum := "0106ccd551c057869ff19560ef4cfa5c08cfa053fde016dcbdafc8a1449ebd71", func := "loop.example/g01100/laws.FnExactFirstFault", spec := "fnExactFirstFault", inPlace := ["internal/abi.NoEscape"], recurses := true, plainKeys := false, apart := false }
def FnExactFirstFaultSaid : Prop := fnExactFirstFaultRow.holds Tryz.pinned (OpenSpec.ofChange fnExactFirstFaultSpec)

/-- ITS FALSE NEIGHBOUR: 'it returns false'. Refute it at one input. -/
def fnExactFirstFaultWrong : ChangeSpec := { name := "fnExactFirstFault", fn := fun _ => fun
  | [d1, d2] => { results := [.lit (.bool false)], args := [d1, d2] }
  | _ => none }
def FnExactFirstFaultWrongFalsely : Prop := fnExactFirstFaultRow.holds Tryz.pinned (OpenSpec.ofChange fnExactFirstFaultWrong)

/-- 'laws.FnExactCountCut': WHATEVER THE INPUT: true; the input reads as it did. -/
def fnExactCountCutSpec : ChangeSpec := { name := "fnExactCountCut", fn := fun _ => fun
  | [d1, d2, d3] => { results := [.lit (.bool true)], args := [d1, d2, d3] }
  | _ => none }
def fnExactCountCutRow : OpenClaim := { program := "ytolkbbbbahhfaaagreat", sum := "0106ccd551c057869ff19560ef4cfa5c08cfa053fde016dcbdafc8a1449ebd71", func := "loop.example/g01100/laws.FnExactCountCut", spec := "fnExactCountCut", inPlace := ["internal/abi.NoEscape"], unfollowed := true, recurses := true, plainKeys := false, apart := false }
def FnExactCountCutSaid : Prop := fnExactCountCutRow.holds Tryz.pinned (OpenSpec.ofChange fnExactCountCutSpec)

/-- ITS FALSE NEIGHBOUR: 'it returns false'. Refute it at one input. -/
def fnExactCountCutWrong : ChangeSpec := { name := "fnExactCountCut", fn := fun _ => fun
  | [d1, d2, d3] => { results := [.lit (.bool false)], args := [d1, d2, d3] }
  | _ => none }
def FnExactCountCutWrongFalsely : Prop := fnExactCountCutRow.holds Tryz.pinned (OpenSpec.ofChange fnExactCountCutWrong)

/-- 'laws.FnExactRootSubtrees': WHATEVER THE INPUT: true; the input reads as it did. -/
def fnExactRootSubtreesSpec : ChangeSpec := { name := "fnExactRootSubtrees", fn := fun _ => fun
  | [d] => { results := [.lit (.bool true)], args := [d] }
  | _ => none }
def fnExactRootSubtreesRow : OpenClaim := { program := "ytolkbbbbahhfaaagreat", sum := "0106ccd551c057869ff19560ef4cfa5c08cfa053fde016dcbdafc8a1449ebd71", func := "loop.example/g01100/laws.FnExactRootSubtrees", spec := "fnExactRootSubtrees", inPlace := ["internal/abi.NoEscape"], unfollowed := true, recurses := true, plainKeys := false, apart := false }
def FnExactRootSubtreesSaid : Prop := fnExactRootSubtreesRow.holds Tryz.pinned (OpenSpec.ofChange fnExactRootSubtreesSpec)

/-- ITS FALSE NEIGHBOUR: 'it returns false'. Refute it at one input. -/
def fnExactRootSubtreesWrong : ChangeSpec := { name := "fnExactRootSubtrees", fn := fun _ => fun
  | [d] => { results := [.lit (.bool false)], args := [d] }
  | _ => none }
def FnExactRootSubtreesWrongFalsely : Prop := fnExactRootSubtreesRow.holds Tryz.pinned (OpenSpec.ofChange fnExactRootSubtreesWrong)

/- THE SECOND FORM. 'bulk': how many values and letters a reading holds, each counted each time it is reached (what is shared counts as often as it is met; a slice's spare places count too). A statement '..UptoSaid' is the law's where the arguments, and the package variables that the reading takes, are together of bulk at most 1048576: NARROWER than '..Said'. Prove '..Said' where nothing that the law and all that it calls make is longer than what came in: it says more and counts as full. Else prove '..UptoSaid'. A law counts once. -/
mutual
def uptoBulk {H : Type} : DataW H → Nat
  | .lit (.string bytes) => bytes.length + 1
  | .lit _ => 1
  | .nil => 1
  | .ptr d => uptoBulk d + 1
  | .slice elems spare => uptoBulkAll elems + uptoBulkAll spare + 1
  | .agg parts => uptoBulkAll parts + 1
  | .iface _ d => uptoBulk d + 1
  | .map entries => uptoBulkEntries entries + 1
  | .held _ => 1
def uptoBulkAll {H : Type} : List (DataW H) → Nat
  | [] => 0
  | d :: r => uptoBulk d + uptoBulkAll r
def uptoBulkEntries {H : Type} : List (Lit × DataW H) → Nat
  | [] => 0
  | x :: r => uptoBulkEntry x + uptoBulkEntries r
def uptoBulkEntry {H : Type} : Lit × DataW H → Nat
  | (.string bytes, d) => bytes.length + uptoBulk d + 1
  | (_, d) => uptoBulk d + 1
 end
def uptoSmall : (H : Type) → List (DataW H) → Bool := fun _ ds => decide (uptoBulkAll ds ≤ 1048576)
def OpenSpec.upto (s : _root_.Go.ChangeSpec) : _root_.Go.OpenSpec := { _root_.Go.OpenSpec.ofChange s with cond := some uptoSmall }

/-- 'laws.FnExactOrderOf', WHERE WHAT IT READS IS OF BULK AT MOST 1048576: true; the input reads as it did. -/
def fnExactOrderOfUptoRow : OpenClaim := { program := "ytolkbbbbahhfaaagreat", sum := "0106ccd551c057869ff19560ef4cfa5c08cfa053fde016dcbdafc8a1449ebd71", func := "loop.example/g01100/laws.FnExactOrderOf", spec := "fnExactOrderOf", inPlace := ["internal/abi.NoEscape"], recurses := true, plainKeys := false, apart := false, narrowed := true }
def FnExactOrderOfUptoSaid : Prop := fnExactOrderOfUptoRow.holds Tryz.pinned (OpenSpec.upto fnExactOrderOfSpec)

/-- 'laws.FnExactResidualsOf', WHERE WHAT IT READS IS OF BULK AT MOST 1048576: true; the input reads as it did. -/
def fnExactResidualsOfUptoRow : OpenClaim := { program := "ytolkbbbbahhfaaagreat", sum := "0106ccd551c057869ff19560ef4cfa5c08cfa053fde016dcbdafc8a1449ebd71", func := "loop.example/g01100/laws.FnExactResidualsOf", spec := "fnExactResidualsOf", inPlace := ["internal/abi.NoEscape"], recurses := true, plainKeys := false, apart := false, narrowed := true }
def FnExactResidualsOfUptoSaid : Prop := fnExactResidualsOfUptoRow.holds Tryz.pinned (OpenSpec.upto fnExactResidualsOfSpec)

/-- 'laws.FnExactFirstFault', WHERE WHAT IT READS IS OF BULK AT MOST 1048576: true; the input reads as it did. -/
def fnExactFirstFaultUptoRow : OpenClaim := { program := "ytolkbbbbahhfaaagreat", sum := "0106ccd551c057869ff19560ef4cfa5c08cfa053fde016dcbdafc8a1449ebd71", func := "loop.example/g01100/laws.FnExactFirstFault", spec := "fnExactFirstFault", inPlace := ["internal/abi.NoEscape"], recurses := true, plainKeys := false, apart := false, narrowed := true }
def FnExactFirstFaultUptoSaid : Prop := fnExactFirstFaultUptoRow.holds Tryz.pinned (OpenSpec.upto fnExactFirstFaultSpec)

/-- 'laws.FnExactCountCut', WHERE WHAT IT READS IS OF BULK AT MOST 1048576: true; the input reads as it did. -/
def fnExactCountCutUptoRow : OpenClaim := { program := "ytolkbbbbahhfaaagreat", sum := "0106ccd551c057869ff19560ef4cfa5c08cfa053fde016dcbdafc8a1449ebd71", func := "loop.example/g01100/laws.FnExactCountCut", spec := "fnExactCountCut", inPlace := ["internal/abi.NoEscape"], unfollowed := true, recurses := true, plainKeys := false, apart := false, narrowed := true }
def FnExactCountCutUptoSaid : Prop := fnExactCountCutUptoRow.holds Tryz.pinned (OpenSpec.upto fnExactCountCutSpec)

/-- 'laws.FnExactRootSubtrees', WHERE WHAT IT READS IS OF BULK AT MOST 1048576: true; the input reads as it did. -/
def fnExactRootSubtreesUptoRow : OpenClaim := { program := "ytolkbbbbahhfaaagreat", sum := "0106ccd551c057869ff19560ef4cfa5c08cfa053fde016dcbdafc8a1449ebd71", func := "loop.example/g01100/laws.FnExactRootSubtrees", spec := "fnExactRootSubtrees", inPlace := ["internal/abi.NoEscape"], unfollowed := true, recurses := true, plainKeys := false, apart := false, narrowed := true }
def FnExactRootSubtreesUptoSaid : Prop := fnExactRootSubtreesUptoRow.holds Tryz.pinned (OpenSpec.upto fnExactRootSubtreesSpec)

end Rows
end Go.Proofs.YtolkbbbbahhfaaaGreat
