/-
  No cell of these rows narrows 'for every input' (looked for: loops, veiled, ifaces, maps, wideKeys, modest, calm, conditions, laid).
  DERIVED. THE GIVEN ROWS OF THIS SEAT. 10 by the template 'for every input the law returns true; each argument reads behind the call as it read before'; 0 by the template 'total and deterministic' (their statements: YtignimaimflenaaTotals.lean).
  GIVEN WITH THE SEED: the statements are not yours to turn. If you find one false, say at which input.
  Laid BY PROGRAM, IN A SANDBOX (cutbox-rows.mjs): the forced cells as the released guide's own fill.sh prints them over the translation 71b53250b6a0b08d… (all of the seat's roots in one cut). By AI agents, Wed Nov 11 2026. No macro, syntax, notation, axiom, sorry.
-/
import Derived.Test.YtignimaimflenaaChecked
import GoSem.Claim
import GoSem.ClaimJoined
import GoSem.ClaimMapViews
import Derived.JoinedTies
import Derived.KernelRfl
namespace Go.Proofs.Ytignimaimflenaa
/- THE CELL 'sum', in the pinned program and in every row, IS THE sha256 OF THE DUMP (.gsa) THAT YtignimaimflenaaProg.lean LOADS. Nothing in Lean hashes anything: it is a label: what it is worth is what the hold of that sum in a sandbox is worth. -/
noncomputable def Try.pinned : Pinned := { name := "ytignimaimflenaa", sum := "71b53250b6a0b08de690412af7c4bbe06df18cb3eaa6d6e4bdfbb1bc7dc4e58f", checked := Try.checked }
namespace Rows
def none {H : Type} : Left H := { results := [], args := [] }

/-- 'laws.FnExactIsMap': WHATEVER THE INPUT: true; the input reads as it did. -/
def fnExactIsMapSpec : ChangeSpec := { name := "fnExactIsMap", fn := fun _ => fun
  | [d] => { results := [.lit (.bool true)], args := [d] }
  | _ => none }
def fnExactIsMapRow : OpenClaim := { program := "ytignimaimflenaa", sum := "71b53250b6a0b08de690412af7c4bbe06df18cb3eaa6d6e4bdfbb1bc7dc4e58f", func := "loop.example/g01100/laws.FnExactIsMap", spec := "fnExactIsMap", apart := false }
def FnExactIsMapSaid : Prop := fnExactIsMapRow.holds Try.pinned (OpenSpec.ofChange fnExactIsMapSpec)

/-- ITS FALSE NEIGHBOUR: 'it returns false'. Refute it at one input. -/
def fnExactIsMapWrong : ChangeSpec := { name := "fnExactIsMap", fn := fun _ => fun
  | [d] => { results := [.lit (.bool false)], args := [d] }
  | _ => none }
def FnExactIsMapWrongFalsely : Prop := fnExactIsMapRow.holds Try.pinned (OpenSpec.ofChange fnExactIsMapWrong)

/-- 'laws.FnExactIsCharacter': WHATEVER THE INPUT: true; the input reads as it did. -/
def fnExactIsCharacterSpec : ChangeSpec := { name := "fnExactIsCharacter", fn := fun _ => fun
  | [d] => { results := [.lit (.bool true)], args := [d] }
  | _ => none }
def fnExactIsCharacterRow : OpenClaim := { program := "ytignimaimflenaa", sum := "71b53250b6a0b08de690412af7c4bbe06df18cb3eaa6d6e4bdfbb1bc7dc4e58f", func := "loop.example/g01100/laws.FnExactIsCharacter", spec := "fnExactIsCharacter", apart := false }
def FnExactIsCharacterSaid : Prop := fnExactIsCharacterRow.holds Try.pinned (OpenSpec.ofChange fnExactIsCharacterSpec)

/-- ITS FALSE NEIGHBOUR: 'it returns false'. Refute it at one input. -/
def fnExactIsCharacterWrong : ChangeSpec := { name := "fnExactIsCharacter", fn := fun _ => fun
  | [d] => { results := [.lit (.bool false)], args := [d] }
  | _ => none }
def FnExactIsCharacterWrongFalsely : Prop := fnExactIsCharacterRow.holds Try.pinned (OpenSpec.ofChange fnExactIsCharacterWrong)

/-- 'laws.FnExactIsInfinitesimal': WHATEVER THE INPUT: true; the input reads as it did. -/
def fnExactIsInfinitesimalSpec : ChangeSpec := { name := "fnExactIsInfinitesimal", fn := fun _ => fun
  | [d] => { results := [.lit (.bool true)], args := [d] }
  | _ => none }
def fnExactIsInfinitesimalRow : OpenClaim := { program := "ytignimaimflenaa", sum := "71b53250b6a0b08de690412af7c4bbe06df18cb3eaa6d6e4bdfbb1bc7dc4e58f", func := "loop.example/g01100/laws.FnExactIsInfinitesimal", spec := "fnExactIsInfinitesimal", apart := false }
def FnExactIsInfinitesimalSaid : Prop := fnExactIsInfinitesimalRow.holds Try.pinned (OpenSpec.ofChange fnExactIsInfinitesimalSpec)

/-- ITS FALSE NEIGHBOUR: 'it returns false'. Refute it at one input. -/
def fnExactIsInfinitesimalWrong : ChangeSpec := { name := "fnExactIsInfinitesimal", fn := fun _ => fun
  | [d] => { results := [.lit (.bool false)], args := [d] }
  | _ => none }
def FnExactIsInfinitesimalWrongFalsely : Prop := fnExactIsInfinitesimalRow.holds Try.pinned (OpenSpec.ofChange fnExactIsInfinitesimalWrong)

/-- 'laws.FnExactUnitMap': WHATEVER THE INPUT: true; the input reads as it did. -/
def fnExactUnitMapSpec : ChangeSpec := { name := "fnExactUnitMap", fn := fun _ => fun
  | [] => { results := [.lit (.bool true)], args := [] }
  | _ => none }
def fnExactUnitMapRow : OpenClaim := { program := "ytignimaimflenaa", sum := "71b53250b6a0b08de690412af7c4bbe06df18cb3eaa6d6e4bdfbb1bc7dc4e58f", func := "loop.example/g01100/laws.FnExactUnitMap", spec := "fnExactUnitMap", apart := false }
def FnExactUnitMapSaid : Prop := fnExactUnitMapRow.holds Try.pinned (OpenSpec.ofChange fnExactUnitMapSpec)

/-- ITS FALSE NEIGHBOUR: 'it returns false'. Refute it at one input. -/
def fnExactUnitMapWrong : ChangeSpec := { name := "fnExactUnitMap", fn := fun _ => fun
  | [] => { results := [.lit (.bool false)], args := [] }
  | _ => none }
def FnExactUnitMapWrongFalsely : Prop := fnExactUnitMapRow.holds Try.pinned (OpenSpec.ofChange fnExactUnitMapWrong)

/-- 'laws.FnExactAgreeTo': WHATEVER THE INPUT: true; the input reads as it did. -/
def fnExactAgreeToSpec : ChangeSpec := { name := "fnExactAgreeTo", fn := fun _ => fun
  | [d1, d2] => { results := [.lit (.bool true)], args := [d1, d2] }
  | _ => none }
def fnExactAgreeToRow : OpenClaim := { program := "ytignimaimflenaa", sum := "71b53250b6a0b08de690412af7c4bbe06df18cb3eaa6d6e4bdfbb1bc7dc4e58f", func := "loop.example/g01100/laws.FnExactAgreeTo", spec := "fnExactAgreeTo", inPlace := ["internal/abi.NoEscape"], recurses := true, apart := false }
def FnExactAgreeToSaid : Prop := fnExactAgreeToRow.holds Try.pinned (OpenSpec.ofChange fnExactAgreeToSpec)

/-- ITS FALSE NEIGHBOUR: 'it returns false'. Refute it at one input. -/
def fnExactAgreeToWrong : ChangeSpec := { name := "fnExactAgreeTo", fn := fun _ => fun
  | [d1, d2] => { results := [.lit (.bool false)], args := [d1, d2] }
  | _ => none }
def FnExactAgreeToWrongFalsely : Prop := fnExactAgreeToRow.holds Try.pinned (OpenSpec.ofChange fnExactAgreeToWrong)

/-- 'laws.FnExactTruncateMap': WHATEVER THE INPUT: true; the input reads as it did. -/
def fnExactTruncateMapSpec : ChangeSpec := { name := "fnExactTruncateMap", fn := fun _ => fun
  | [d1, d2] => { results := [.lit (.bool true)], args := [d1, d2] }
  | _ => none }
def fnExactTruncateMapRow : OpenClaim := { program := "ytignimaimflenaa", sum := "71b53250b6a0b08de690412af7c4bbe06df18cb3eaa6d6e4bdfbb1bc7dc4e58f", func := "loop.example/g01100/laws.FnExactTruncateMap", spec := "fnExactTruncateMap", inPlace := ["internal/abi.NoEscape"], recurses := true, apart := false }
def FnExactTruncateMapSaid : Prop := fnExactTruncateMapRow.holds Try.pinned (OpenSpec.ofChange fnExactTruncateMapSpec)

/-- ITS FALSE NEIGHBOUR: 'it returns false'. Refute it at one input. -/
def fnExactTruncateMapWrong : ChangeSpec := { name := "fnExactTruncateMap", fn := fun _ => fun
  | [d1, d2] => { results := [.lit (.bool false)], args := [d1, d2] }
  | _ => none }
def FnExactTruncateMapWrongFalsely : Prop := fnExactTruncateMapRow.holds Try.pinned (OpenSpec.ofChange fnExactTruncateMapWrong)

/-- 'laws.FnExactScaleMap': WHATEVER THE INPUT: true; the input reads as it did. -/
def fnExactScaleMapSpec : ChangeSpec := { name := "fnExactScaleMap", fn := fun _ => fun
  | [d1, d2] => { results := [.lit (.bool true)], args := [d1, d2] }
  | _ => none }
def fnExactScaleMapRow : OpenClaim := { program := "ytignimaimflenaa", sum := "71b53250b6a0b08de690412af7c4bbe06df18cb3eaa6d6e4bdfbb1bc7dc4e58f", func := "loop.example/g01100/laws.FnExactScaleMap", spec := "fnExactScaleMap", inPlace := ["internal/abi.NoEscape"], recurses := true, apart := false }
def FnExactScaleMapSaid : Prop := fnExactScaleMapRow.holds Try.pinned (OpenSpec.ofChange fnExactScaleMapSpec)

/-- ITS FALSE NEIGHBOUR: 'it returns false'. Refute it at one input. -/
def fnExactScaleMapWrong : ChangeSpec := { name := "fnExactScaleMap", fn := fun _ => fun
  | [d1, d2] => { results := [.lit (.bool false)], args := [d1, d2] }
  | _ => none }
def FnExactScaleMapWrongFalsely : Prop := fnExactScaleMapRow.holds Try.pinned (OpenSpec.ofChange fnExactScaleMapWrong)

/-- 'laws.FnExactOrderOfMap': WHATEVER THE INPUT: true; the input reads as it did. -/
def fnExactOrderOfMapSpec : ChangeSpec := { name := "fnExactOrderOfMap", fn := fun _ => fun
  | [d] => { results := [.lit (.bool true)], args := [d] }
  | _ => none }
def fnExactOrderOfMapRow : OpenClaim := { program := "ytignimaimflenaa", sum := "71b53250b6a0b08de690412af7c4bbe06df18cb3eaa6d6e4bdfbb1bc7dc4e58f", func := "loop.example/g01100/laws.FnExactOrderOfMap", spec := "fnExactOrderOfMap", inPlace := ["internal/abi.NoEscape"], recurses := true, apart := false }
def FnExactOrderOfMapSaid : Prop := fnExactOrderOfMapRow.holds Try.pinned (OpenSpec.ofChange fnExactOrderOfMapSpec)

/-- ITS FALSE NEIGHBOUR: 'it returns false'. Refute it at one input. -/
def fnExactOrderOfMapWrong : ChangeSpec := { name := "fnExactOrderOfMap", fn := fun _ => fun
  | [d] => { results := [.lit (.bool false)], args := [d] }
  | _ => none }
def FnExactOrderOfMapWrongFalsely : Prop := fnExactOrderOfMapRow.holds Try.pinned (OpenSpec.ofChange fnExactOrderOfMapWrong)

/-- 'laws.FnExactExactMap': WHATEVER THE INPUT: true; the input reads as it did. -/
def fnExactExactMapSpec : ChangeSpec := { name := "fnExactExactMap", fn := fun _ => fun
  | [] => { results := [.lit (.bool true)], args := [] }
  | _ => none }
def fnExactExactMapRow : OpenClaim := { program := "ytignimaimflenaa", sum := "71b53250b6a0b08de690412af7c4bbe06df18cb3eaa6d6e4bdfbb1bc7dc4e58f", func := "loop.example/g01100/laws.FnExactExactMap", spec := "fnExactExactMap", inPlace := ["internal/abi.NoEscape"], recurses := true, apart := false }
def FnExactExactMapSaid : Prop := fnExactExactMapRow.holds Try.pinned (OpenSpec.ofChange fnExactExactMapSpec)

/-- ITS FALSE NEIGHBOUR: 'it returns false'. Refute it at one input. -/
def fnExactExactMapWrong : ChangeSpec := { name := "fnExactExactMap", fn := fun _ => fun
  | [] => { results := [.lit (.bool false)], args := [] }
  | _ => none }
def FnExactExactMapWrongFalsely : Prop := fnExactExactMapRow.holds Try.pinned (OpenSpec.ofChange fnExactExactMapWrong)

/-- 'laws.FnForests': WHATEVER THE INPUT: true; the input reads as it did. -/
def fnForestsSpec : ChangeSpec := { name := "fnForests", fn := fun _ => fun
  | [d] => { results := [.lit (.bool true)], args := [d] }
  | _ => none }
def fnForestsRow : OpenClaim := { program := "ytignimaimflenaa", sum := "71b53250b6a0b08de690412af7c4bbe06df18cb3eaa6d6e4bdfbb1bc7dc4e58f", func := "loop.example/g01100/laws.FnForests", spec := "fnForests", inPlace := ["internal/abi.NoEscape"], unfollowed := true, recurses := true, apart := false }
def FnForestsSaid : Prop := fnForestsRow.holds Try.pinned (OpenSpec.ofChange fnForestsSpec)

/-- ITS FALSE NEIGHBOUR: 'it returns false'. Refute it at one input. -/
def fnForestsWrong : ChangeSpec := { name := "fnForests", fn := fun _ => fun
  | [d] => { results := [.lit (.bool false)], args := [d] }
  | _ => none }
def FnForestsWrongFalsely : Prop := fnForestsRow.holds Try.pinned (OpenSpec.ofChange fnForestsWrong)

/- THE SECOND FORM. 'bulk': how many values and letters a reading holds, each counted each time it is reached (what is shared counts as often as it is met; a slice's spare places count too). A statement '..UptoSaid' is the law's where the arguments, and the package variables that the reading takes, are together of bulk at most 1048576: NARROWER than '..Said'. Prove '..Said' where nothing that the law and all that it calls make is longer than what came in: it says more and counts as full. Else prove '..UptoSaid'. A law counts once. -/
mutual
def uptoBulk {H : Type} : DataW H → Nat
  | .lit (.string bytes) => bytes.length + 1
  | .lit _ => 1
  | .nil => 1
  | .ptr d => uptoBulk d + 1
  | .slice elems spare => uptoBulkAll elems + uptoBulkAll spare + 1
  | .agg parts => uptoBulkAll parts + 1
  | .iface _ d => uptoBulk d + 1
  | .map entries => uptoBulkEntries entries + 1
  | .held _ => 1
def uptoBulkAll {H : Type} : List (DataW H) → Nat
  | [] => 0
  | d :: r => uptoBulk d + uptoBulkAll r
def uptoBulkEntries {H : Type} : List (Lit × DataW H) → Nat
  | [] => 0
  | x :: r => uptoBulkEntry x + uptoBulkEntries r
def uptoBulkEntry {H : Type} : Lit × DataW H → Nat
  | (.string bytes, d) => bytes.length + uptoBulk d + 1
  | (_, d) => uptoBulk d + 1
 end
def uptoSmall : (H : Type) → List (DataW H) → Bool := fun _ ds => decide (uptoBulkAll ds ≤ 1048576)
def OpenSpec.upto (s : _root_.Go.ChangeSpec) : _root_.Go.OpenSpec := { _root_.Go.OpenSpec.ofChange s with cond := some uptoSmall }

/-- 'laws.FnExactIsMap', WHERE WHAT IT READS IS OF BULK AT MOST 1048576: true; the input reads as it did. -/
def fnExactIsMapUptoRow : OpenClaim := { program := "ytignimaimflenaa", sum := "71b53250b6a0b08de690412af7c4bbe06df18cb3eaa6d6e4bdfbb1bc7dc4e58f", func := "loop.example/g01100/laws.FnExactIsMap", spec := "fnExactIsMap", apart := false, narrowed := true }
def FnExactIsMapUptoSaid : Prop := fnExactIsMapUptoRow.holds Try.pinned (OpenSpec.upto fnExactIsMapSpec)

/-- 'laws.FnExactIsCharacter', WHERE WHAT IT READS IS OF BULK AT MOST 1048576: true; the input reads as it did. -/
def fnExactIsCharacterUptoRow : OpenClaim := { program := "ytignimaimflenaa", sum := "71b53250b6a0b08de690412af7c4bbe06df18cb3eaa6d6e4bdfbb1bc7dc4e58f", func := "loop.example/g01100/laws.FnExactIsCharacter", spec := "fnExactIsCharacter", apart := false, narrowed := true }
def FnExactIsCharacterUptoSaid : Prop := fnExactIsCharacterUptoRow.holds Try.pinned (OpenSpec.upto fnExactIsCharacterSpec)

/-- 'laws.FnExactIsInfinitesimal', WHERE WHAT IT READS IS OF BULK AT MOST 1048576: true; the input reads as it did. -/
def fnExactIsInfinitesimalUptoRow : OpenClaim := { program := "ytignimaimflenaa", sum := "71b53250b6a0b08de690412af7c4bbe06df18cb3eaa6d6e4bdfbb1bc7dc4e58f", func := "loop.example/g01100/laws.FnExactIsInfinitesimal", spec := "fnExactIsInfinitesimal", apart := false, narrowed := true }
def FnExactIsInfinitesimalUptoSaid : Prop := fnExactIsInfinitesimalUptoRow.holds Try.pinned (OpenSpec.upto fnExactIsInfinitesimalSpec)

/-- 'laws.FnExactUnitMap', WHERE WHAT IT READS IS OF BULK AT MOST 1048576: true; the input reads as it did. -/
def fnExactUnitMapUptoRow : OpenClaim := { program := "ytignimaimflenaa", sum := "71b53250b6a0b08de690412af7c4bbe06df18cb3eaa6d6e4bdfbb1bc7dc4e58f", func := "loop.example/g01100/laws.FnExactUnitMap", spec := "fnExactUnitMap", apart := false, narrowed := true }
def FnExactUnitMapUptoSaid : Prop := fnExactUnitMapUptoRow.holds Try.pinned (OpenSpec.upto fnExactUnitMapSpec)

/-- 'laws.FnExactAgreeTo', WHERE WHAT IT READS IS OF BULK AT MOST 1048576: true; the input reads as it did. -/
def fnExactAgreeToUptoRow : OpenClaim := { program := "ytignimaimflenaa", sum := "71b53250b6a0b08de690412af7c4bbe06df18cb3eaa6d6e4bdfbb1bc7dc4e58f", func := "loop.example/g01100/laws.FnExactAgreeTo", spec := "fnExactAgreeTo", inPlace := ["internal/abi.NoEscape"], recurses := true, apart := false, narrowed := true }
def FnExactAgreeToUptoSaid : Prop := fnExactAgreeToUptoRow.holds Try.pinned (OpenSpec.upto fnExactAgreeToSpec)

/-- 'laws.FnExactTruncateMap', WHERE WHAT IT READS IS OF BULK AT MOST 1048576: true; the input reads as it did. -/
def fnExactTruncateMapUptoRow : OpenClaim := { program := "ytignimaimflenaa", sum := "71b53250b6a0b08de690412af7c4bbe06df18cb3eaa6d6e4bdfbb1bc7dc4e58f", func := "loop.example/g01100/laws.FnExactTruncateMap", spec := "fnExactTruncateMap", inPlace := ["internal/abi.NoEscape"], recurses := true, apart := false, narrowed := true }
def FnExactTruncateMapUptoSaid : Prop := fnExactTruncateMapUptoRow.holds Try.pinned (OpenSpec.upto fnExactTruncateMapSpec)

/-- 'laws.FnExactScaleMap', WHERE WHAT IT READS IS OF BULK AT MOST 1048576: true; the input reads as it did. -/
def fnExactScaleMapUptoRow : OpenClaim := { program := "ytignimaimflenaa", sum := "71b53250b6a0b08de690412af7c4bbe06df18cb3eaa6d6e4bdfbb1bc7dc4e58f", func := "loop.example/g01100/laws.FnExactScaleMap", spec := "fnExactScaleMap", inPlace := ["internal/abi.NoEscape"], recurses := true, apart := false, narrowed := true }
def FnExactScaleMapUptoSaid : Prop := fnExactScaleMapUptoRow.holds Try.pinned (OpenSpec.upto fnExactScaleMapSpec)

/-- 'laws.FnExactOrderOfMap', WHERE WHAT IT READS IS OF BULK AT MOST 1048576: true; the input reads as it did. -/
def fnExactOrderOfMapUptoRow : OpenClaim := { program := "ytignimaimflenaa", sum := "71b53250b6a0b08de690412af7c4bbe06df18cb3eaa6d6e4bdfbb1bc7dc4e58f", func := "loop.example/g01100/laws.FnExactOrderOfMap", spec := "fnExactOrderOfMap", inPlace := ["internal/abi.NoEscape"], recurses := true, apart := false, narrowed := true }
def FnExactOrderOfMapUptoSaid : Prop := fnExactOrderOfMapUptoRow.holds Try.pinned (OpenSpec.upto fnExactOrderOfMapSpec)

/-- 'laws.FnExactExactMap', WHERE WHAT IT READS IS OF BULK AT MOST 1048576: true; the input reads as it did. -/
def fnExactExactMapUptoRow : OpenClaim := { program := "ytignimaimflenaa", sum := "71b53250b6a0b08de690412af7c4bbe06df18cb3eaa6d6e4bdfbb1bc7dc4e58f", func := "loop.example/g01100/laws.FnExactExactMap", spec := "fnExactExactMap", inPlace := ["internal/abi.NoEscape"], recurses := true, apart := false, narrowed := true }
def FnExactExactMapUptoSaid : Prop := fnExactExactMapUptoRow.holds Try.pinned (OpenSpec.upto fnExactExactMapSpec)

/-- 'laws.FnForests', WHERE WHAT IT READS IS OF BULK AT MOST 1048576: true; the input reads as it did. -/
def fnForestsUptoRow : OpenClaim := { program := "ytignimaimflenaa", sum := "71b53250b6a0b08de690412af7c4bbe06df18cb3eaa6d6e4bdfbb1bc7dc4e58f", func := "loop.example/g01100/laws.FnForests", spec := "fnForests", inPlace := ["internal/abi.NoEscape"], unfollowed := true, recurses := true, apart := false, narrowed := true }
def FnForestsUptoSaid : Prop := fnForestsUptoRow.holds Try.pinned (OpenSpec.upto fnForestsSpec)

end Rows
end Go.Proofs.Ytignimaimflenaa
