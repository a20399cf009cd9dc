/-
  No cell of these rows narrows 'for every input' (looked for: loops, veiled, ifaces, maps, wideKeys, modest, calm, conditions, laid).
  DERIVED. THE GIVEN ROWS OF THIS SEAT. 14 by the template 'for every input the law returns true; each argument reads behind the call as it read before'; 0 by the template 'total and deterministic' (their statements: YtgicbmfcojfjcaaTotals.lean).
  GIVEN WITH THE SEED: the statements are not yours to turn. If you find one false, say at which input.
  Laid BY PROGRAM, IN A SANDBOX (cutbox-rows.mjs): the forced cells as the released guide's own fill.sh prints them over the translation c7c3f03019436ca8… (all of the seat's roots in one cut). By AI agents, Wed Nov 11 2026. No macro, syntax, notation, axiom, sorry.
-/
import Derived.Test.YtgicbmfcojfjcaaChecked
import GoSem.Claim
import GoSem.ClaimJoined
import GoSem.ClaimMapViews
import Derived.JoinedTies
import Derived.KernelRfl
namespace Go.Proofs.Ytgicbmfcojfjcaa
/- THE CELL 'sum', in the pinned program and in every row, IS THE sha256 OF THE DUMP (.gsa) THAT YtgicbmfcojfjcaaProg.lean LOADS. Nothing in Lean hashes anything: it is a label: what it is worth is what the hold of that sum in a sandbox is worth. -/
noncomputable def Try.pinned : Pinned := { name := "ytgicbmfcojfjcaa", sum := "c7c3f03019436ca89bcd2c8c7c5084967ac11690431150ef7586eb477a8d3ae3", checked := Try.checked }
namespace Rows
def none {H : Type} : Left H := { results := [], args := [] }

/-- 'laws.FnExactForestOf': WHATEVER THE INPUT: true; the input reads as it did. -/
def fnExactForestOfSpec : ChangeSpec := { name := "fnExactForestOf", fn := fun _ => fun
  | [d] => { results := [.lit (.bool true)], args := [d] }
  | _ => none }
def fnExactForestOfRow : OpenClaim := { program := "ytgicbmfcojfjcaa", sum := "c7c3f03019436ca89bcd2c8c7c5084967ac11690431150ef7586eb477a8d3ae3", func := "loop.example/g01100/laws.FnExactForestOf", spec := "fnExactForestOf", inPlace := ["internal/abi.NoEscape"], unfollowed := true, recurses := true, apart := false }
def FnExactForestOfSaid : Prop := fnExactForestOfRow.holds Try.pinned (OpenSpec.ofChange fnExactForestOfSpec)

/-- ITS FALSE NEIGHBOUR: 'it returns false'. Refute it at one input. -/
def fnExactForestOfWrong : ChangeSpec := { name := "fnExactForestOf", fn := fun _ => fun
  | [d] => { results := [.lit (.bool false)], args := [d] }
  | _ => none }
def FnExactForestOfWrongFalsely : Prop := fnExactForestOfRow.holds Try.pinned (OpenSpec.ofChange fnExactForestOfWrong)

/-- 'laws.FnExactTimesForests': WHATEVER THE INPUT: true; the input reads as it did. -/
def fnExactTimesForestsSpec : ChangeSpec := { name := "fnExactTimesForests", fn := fun _ => fun
  | [d1, d2] => { results := [.lit (.bool true)], args := [d1, d2] }
  | _ => none }
def fnExactTimesForestsRow : OpenClaim := { program := "ytgicbmfcojfjcaa", sum := "c7c3f03019436ca89bcd2c8c7c5084967ac11690431150ef7586eb477a8d3ae3", func := "loop.example/g01100/laws.FnExactTimesForests", spec := "fnExactTimesForests", inPlace := ["internal/abi.NoEscape"], unfollowed := true, recurses := true, apart := false }
def FnExactTimesForestsSaid : Prop := fnExactTimesForestsRow.holds Try.pinned (OpenSpec.ofChange fnExactTimesForestsSpec)

/-- ITS FALSE NEIGHBOUR: 'it returns false'. Refute it at one input. -/
def fnExactTimesForestsWrong : ChangeSpec := { name := "fnExactTimesForests", fn := fun _ => fun
  | [d1, d2] => { results := [.lit (.bool false)], args := [d1, d2] }
  | _ => none }
def FnExactTimesForestsWrongFalsely : Prop := fnExactTimesForestsRow.holds Try.pinned (OpenSpec.ofChange fnExactTimesForestsWrong)

/-- 'laws.FnExactParseTree': WHATEVER THE INPUT: true; the input reads as it did. -/
def fnExactParseTreeSpec : ChangeSpec := { name := "fnExactParseTree", fn := fun _ => fun
  | [d] => { results := [.lit (.bool true)], args := [d] }
  | _ => none }
def fnExactParseTreeRow : OpenClaim := { program := "ytgicbmfcojfjcaa", sum := "c7c3f03019436ca89bcd2c8c7c5084967ac11690431150ef7586eb477a8d3ae3", func := "loop.example/g01100/laws.FnExactParseTree", spec := "fnExactParseTree", inPlace := ["internal/abi.NoEscape"], recurses := true, apart := false }
def FnExactParseTreeSaid : Prop := fnExactParseTreeRow.holds Try.pinned (OpenSpec.ofChange fnExactParseTreeSpec)

/-- ITS FALSE NEIGHBOUR: 'it returns false'. Refute it at one input. -/
def fnExactParseTreeWrong : ChangeSpec := { name := "fnExactParseTree", fn := fun _ => fun
  | [d] => { results := [.lit (.bool false)], args := [d] }
  | _ => none }
def FnExactParseTreeWrongFalsely : Prop := fnExactParseTreeRow.holds Try.pinned (OpenSpec.ofChange fnExactParseTreeWrong)

/-- 'laws.FnExactParseForest': WHATEVER THE INPUT: true; the input reads as it did. -/
def fnExactParseForestSpec : ChangeSpec := { name := "fnExactParseForest", fn := fun _ => fun
  | [d] => { results := [.lit (.bool true)], args := [d] }
  | _ => none }
def fnExactParseForestRow : OpenClaim := { program := "ytgicbmfcojfjcaa", sum := "c7c3f03019436ca89bcd2c8c7c5084967ac11690431150ef7586eb477a8d3ae3", func := "loop.example/g01100/laws.FnExactParseForest", spec := "fnExactParseForest", inPlace := ["internal/abi.NoEscape"], recurses := true, apart := false }
def FnExactParseForestSaid : Prop := fnExactParseForestRow.holds Try.pinned (OpenSpec.ofChange fnExactParseForestSpec)

/-- ITS FALSE NEIGHBOUR: 'it returns false'. Refute it at one input. -/
def fnExactParseForestWrong : ChangeSpec := { name := "fnExactParseForest", fn := fun _ => fun
  | [d] => { results := [.lit (.bool false)], args := [d] }
  | _ => none }
def FnExactParseForestWrongFalsely : Prop := fnExactParseForestRow.holds Try.pinned (OpenSpec.ofChange fnExactParseForestWrong)

/-- 'laws.FnExactLeavesOf': WHATEVER THE INPUT: true; the input reads as it did. -/
def fnExactLeavesOfSpec : ChangeSpec := { name := "fnExactLeavesOf", fn := fun _ => fun
  | [d] => { results := [.lit (.bool true)], args := [d] }
  | _ => none }
def fnExactLeavesOfRow : OpenClaim := { program := "ytgicbmfcojfjcaa", sum := "c7c3f03019436ca89bcd2c8c7c5084967ac11690431150ef7586eb477a8d3ae3", func := "loop.example/g01100/laws.FnExactLeavesOf", spec := "fnExactLeavesOf", inPlace := ["internal/abi.NoEscape", "internal/bytealg.CountString", "internal/bytealg.IndexByteString", "internal/bytealg.IndexString"], recurses := true, named := ["internal/bytealg.MaxLen"], apart := false }
def FnExactLeavesOfSaid : Prop := fnExactLeavesOfRow.holds Try.pinned (OpenSpec.ofChange fnExactLeavesOfSpec)

/-- ITS FALSE NEIGHBOUR: 'it returns false'. Refute it at one input. -/
def fnExactLeavesOfWrong : ChangeSpec := { name := "fnExactLeavesOf", fn := fun _ => fun
  | [d] => { results := [.lit (.bool false)], args := [d] }
  | _ => none }
def FnExactLeavesOfWrongFalsely : Prop := fnExactLeavesOfRow.holds Try.pinned (OpenSpec.ofChange fnExactLeavesOfWrong)

/-- 'laws.FnTrees': WHATEVER THE INPUT: true; the input reads as it did. -/
def fnTreesSpec : ChangeSpec := { name := "fnTrees", fn := fun _ => fun
  | [d] => { results := [.lit (.bool true)], args := [d] }
  | _ => none }
def fnTreesRow : OpenClaim := { program := "ytgicbmfcojfjcaa", sum := "c7c3f03019436ca89bcd2c8c7c5084967ac11690431150ef7586eb477a8d3ae3", func := "loop.example/g01100/laws.FnTrees", spec := "fnTrees", inPlace := ["internal/abi.NoEscape"], unfollowed := true, recurses := true, apart := false }
def FnTreesSaid : Prop := fnTreesRow.holds Try.pinned (OpenSpec.ofChange fnTreesSpec)

/-- ITS FALSE NEIGHBOUR: 'it returns false'. Refute it at one input. -/
def fnTreesWrong : ChangeSpec := { name := "fnTrees", fn := fun _ => fun
  | [d] => { results := [.lit (.bool false)], args := [d] }
  | _ => none }
def FnTreesWrongFalsely : Prop := fnTreesRow.holds Try.pinned (OpenSpec.ofChange fnTreesWrong)

/-- 'laws.FnTreeCounts': WHATEVER THE INPUT: true; the input reads as it did. -/
def fnTreeCountsSpec : ChangeSpec := { name := "fnTreeCounts", fn := fun _ => fun
  | [d] => { results := [.lit (.bool true)], args := [d] }
  | _ => none }
def fnTreeCountsRow : OpenClaim := { program := "ytgicbmfcojfjcaa", sum := "c7c3f03019436ca89bcd2c8c7c5084967ac11690431150ef7586eb477a8d3ae3", func := "loop.example/g01100/laws.FnTreeCounts", spec := "fnTreeCounts", inPlace := ["internal/abi.NoEscape", "internal/bytealg.CountString", "internal/bytealg.IndexByteString", "internal/bytealg.IndexString"], recurses := true, named := ["internal/bytealg.MaxLen"], apart := false }
def FnTreeCountsSaid : Prop := fnTreeCountsRow.holds Try.pinned (OpenSpec.ofChange fnTreeCountsSpec)

/-- ITS FALSE NEIGHBOUR: 'it returns false'. Refute it at one input. -/
def fnTreeCountsWrong : ChangeSpec := { name := "fnTreeCounts", fn := fun _ => fun
  | [d] => { results := [.lit (.bool false)], args := [d] }
  | _ => none }
def FnTreeCountsWrongFalsely : Prop := fnTreeCountsRow.holds Try.pinned (OpenSpec.ofChange fnTreeCountsWrong)

/-- 'laws.FnForests': WHATEVER THE INPUT: true; the input reads as it did. -/
def fnForestsSpec : ChangeSpec := { name := "fnForests", fn := fun _ => fun
  | [d] => { results := [.lit (.bool true)], args := [d] }
  | _ => none }
def fnForestsRow : OpenClaim := { program := "ytgicbmfcojfjcaa", sum := "c7c3f03019436ca89bcd2c8c7c5084967ac11690431150ef7586eb477a8d3ae3", func := "loop.example/g01100/laws.FnForests", spec := "fnForests", inPlace := ["internal/abi.NoEscape"], unfollowed := true, recurses := true, apart := false }
def FnForestsSaid : Prop := fnForestsRow.holds Try.pinned (OpenSpec.ofChange fnForestsSpec)

/-- ITS FALSE NEIGHBOUR: 'it returns false'. Refute it at one input. -/
def fnForestsWrong : ChangeSpec := { name := "fnForests", fn := fun _ => fun
  | [d] => { results := [.lit (.bool false)], args := [d] }
  | _ => none }
def FnForestsWrongFalsely : Prop := fnForestsRow.holds Try.pinned (OpenSpec.ofChange fnForestsWrong)

/-- 'laws.FnExactButcherProduct': WHATEVER THE INPUT: true; the input reads as it did. -/
def fnExactButcherProductSpec : ChangeSpec := { name := "fnExactButcherProduct", fn := fun _ => fun
  | [d1, d2] => { results := [.lit (.bool true)], args := [d1, d2] }
  | _ => none }
def fnExactButcherProductRow : OpenClaim := { program := "ytgicbmfcojfjcaa", sum := "c7c3f03019436ca89bcd2c8c7c5084967ac11690431150ef7586eb477a8d3ae3", func := "loop.example/g01100/laws.FnExactButcherProduct", spec := "fnExactButcherProduct", inPlace := ["internal/abi.NoEscape"], recurses := true, apart := false }
def FnExactButcherProductSaid : Prop := fnExactButcherProductRow.holds Try.pinned (OpenSpec.ofChange fnExactButcherProductSpec)

/-- ITS FALSE NEIGHBOUR: 'it returns false'. Refute it at one input. -/
def fnExactButcherProductWrong : ChangeSpec := { name := "fnExactButcherProduct", fn := fun _ => fun
  | [d1, d2] => { results := [.lit (.bool false)], args := [d1, d2] }
  | _ => none }
def FnExactButcherProductWrongFalsely : Prop := fnExactButcherProductRow.holds Try.pinned (OpenSpec.ofChange fnExactButcherProductWrong)

/-- 'laws.FnExactGraftAt': WHATEVER THE INPUT: true; the input reads as it did. -/
def fnExactGraftAtSpec : ChangeSpec := { name := "fnExactGraftAt", fn := fun _ => fun
  | [d1, d2, d3] => { results := [.lit (.bool true)], args := [d1, d2, d3] }
  | _ => none }
def fnExactGraftAtRow : OpenClaim := { program := "ytgicbmfcojfjcaa", sum := "c7c3f03019436ca89bcd2c8c7c5084967ac11690431150ef7586eb477a8d3ae3", func := "loop.example/g01100/laws.FnExactGraftAt", spec := "fnExactGraftAt", inPlace := ["internal/abi.NoEscape"], recurses := true, apart := false }
def FnExactGraftAtSaid : Prop := fnExactGraftAtRow.holds Try.pinned (OpenSpec.ofChange fnExactGraftAtSpec)

/-- ITS FALSE NEIGHBOUR: 'it returns false'. Refute it at one input. -/
def fnExactGraftAtWrong : ChangeSpec := { name := "fnExactGraftAt", fn := fun _ => fun
  | [d1, d2, d3] => { results := [.lit (.bool false)], args := [d1, d2, d3] }
  | _ => none }
def FnExactGraftAtWrongFalsely : Prop := fnExactGraftAtRow.holds Try.pinned (OpenSpec.ofChange fnExactGraftAtWrong)

/-- 'laws.FnExactCutAbove': WHATEVER THE INPUT: true; the input reads as it did. -/
def fnExactCutAboveSpec : ChangeSpec := { name := "fnExactCutAbove", fn := fun _ => fun
  | [d1, d2] => { results := [.lit (.bool true)], args := [d1, d2] }
  | _ => none }
def fnExactCutAboveRow : OpenClaim := { program := "ytgicbmfcojfjcaa", sum := "c7c3f03019436ca89bcd2c8c7c5084967ac11690431150ef7586eb477a8d3ae3", func := "loop.example/g01100/laws.FnExactCutAbove", spec := "fnExactCutAbove", inPlace := ["internal/abi.NoEscape"], recurses := true, apart := false }
def FnExactCutAboveSaid : Prop := fnExactCutAboveRow.holds Try.pinned (OpenSpec.ofChange fnExactCutAboveSpec)

/-- ITS FALSE NEIGHBOUR: 'it returns false'. Refute it at one input. -/
def fnExactCutAboveWrong : ChangeSpec := { name := "fnExactCutAbove", fn := fun _ => fun
  | [d1, d2] => { results := [.lit (.bool false)], args := [d1, d2] }
  | _ => none }
def FnExactCutAboveWrongFalsely : Prop := fnExactCutAboveRow.holds Try.pinned (OpenSpec.ofChange fnExactCutAboveWrong)

/-- 'laws.FnExactRerootAt': WHATEVER THE INPUT: true; the input reads as it did. -/
def fnExactRerootAtSpec : ChangeSpec := { name := "fnExactRerootAt", fn := fun _ => fun
  | [d1, d2] => { results := [.lit (.bool true)], args := [d1, d2] }
  | _ => none }
def fnExactRerootAtRow : OpenClaim := { program := "ytgicbmfcojfjcaa", sum := "c7c3f03019436ca89bcd2c8c7c5084967ac11690431150ef7586eb477a8d3ae3", func := "loop.example/g01100/laws.FnExactRerootAt", spec := "fnExactRerootAt", inPlace := ["internal/abi.NoEscape"], recurses := true, apart := false }
def FnExactRerootAtSaid : Prop := fnExactRerootAtRow.holds Try.pinned (OpenSpec.ofChange fnExactRerootAtSpec)

/-- ITS FALSE NEIGHBOUR: 'it returns false'. Refute it at one input. -/
def fnExactRerootAtWrong : ChangeSpec := { name := "fnExactRerootAt", fn := fun _ => fun
  | [d1, d2] => { results := [.lit (.bool false)], args := [d1, d2] }
  | _ => none }
def FnExactRerootAtWrongFalsely : Prop := fnExactRerootAtRow.holds Try.pinned (OpenSpec.ofChange fnExactRerootAtWrong)

/-- 'laws.FnExactFreeForm': WHATEVER THE INPUT: true; the input reads as it did. -/
def fnExactFreeFormSpec : ChangeSpec := { name := "fnExactFreeForm", fn := fun _ => fun
  | [d] => { results := [.lit (.bool true)], args := [d] }
  | _ => none }
def fnExactFreeFormRow : OpenClaim := { program := "ytgicbmfcojfjcaa", sum := "c7c3f03019436ca89bcd2c8c7c5084967ac11690431150ef7586eb477a8d3ae3", func := "loop.example/g01100/laws.FnExactFreeForm", spec := "fnExactFreeForm", inPlace := ["internal/abi.NoEscape"], unfollowed := true, recurses := true, apart := false }
def FnExactFreeFormSaid : Prop := fnExactFreeFormRow.holds Try.pinned (OpenSpec.ofChange fnExactFreeFormSpec)

/-- ITS FALSE NEIGHBOUR: 'it returns false'. Refute it at one input. -/
def fnExactFreeFormWrong : ChangeSpec := { name := "fnExactFreeForm", fn := fun _ => fun
  | [d] => { results := [.lit (.bool false)], args := [d] }
  | _ => none }
def FnExactFreeFormWrongFalsely : Prop := fnExactFreeFormRow.holds Try.pinned (OpenSpec.ofChange fnExactFreeFormWrong)

/-- 'laws.FnExactAreSameFree': WHATEVER THE INPUT: true; the input reads as it did. -/
def fnExactAreSameFreeSpec : ChangeSpec := { name := "fnExactAreSameFree", fn := fun _ => fun
  | [d1, d2] => { results := [.lit (.bool true)], args := [d1, d2] }
  | _ => none }
def fnExactAreSameFreeRow : OpenClaim := { program := "ytgicbmfcojfjcaa", sum := "c7c3f03019436ca89bcd2c8c7c5084967ac11690431150ef7586eb477a8d3ae3", func := "loop.example/g01100/laws.FnExactAreSameFree", spec := "fnExactAreSameFree", inPlace := ["internal/abi.NoEscape"], unfollowed := true, recurses := true, apart := false }
def FnExactAreSameFreeSaid : Prop := fnExactAreSameFreeRow.holds Try.pinned (OpenSpec.ofChange fnExactAreSameFreeSpec)

/-- ITS FALSE NEIGHBOUR: 'it returns false'. Refute it at one input. -/
def fnExactAreSameFreeWrong : ChangeSpec := { name := "fnExactAreSameFree", fn := fun _ => fun
  | [d1, d2] => { results := [.lit (.bool false)], args := [d1, d2] }
  | _ => none }
def FnExactAreSameFreeWrongFalsely : Prop := fnExactAreSameFreeRow.holds Try.pinned (OpenSpec.ofChange fnExactAreSameFreeWrong)

/- THE SECOND FORM. 'bulk': how many values and letters a reading holds, each counted each time it is reached (what is shared counts as often as it is met; a slice's spare places count too). A statement '..UptoSaid' is the law's where the arguments, and the package variables that the reading takes, are together of bulk at most 1048576: NARROWER than '..Said'. Prove '..Said' where nothing that the law and all that it calls make is longer than what came in: it says more and counts as full. Else prove '..UptoSaid'. A law counts once. -/
mutual
def uptoBulk {H : Type} : DataW H → Nat
  | .lit (.string bytes) => bytes.length + 1
  | .lit _ => 1
  | .nil => 1
  | .ptr d => uptoBulk d + 1
  | .slice elems spare => uptoBulkAll elems + uptoBulkAll spare + 1
  | .agg parts => uptoBulkAll parts + 1
  | .iface _ d => uptoBulk d + 1
  | .map entries => uptoBulkEntries entries + 1
  | .held _ => 1
def uptoBulkAll {H : Type} : List (DataW H) → Nat
  | [] => 0
  | d :: r => uptoBulk d + uptoBulkAll r
def uptoBulkEntries {H : Type} : List (Lit × DataW H) → Nat
  | [] => 0
  | x :: r => uptoBulkEntry x + uptoBulkEntries r
def uptoBulkEntry {H : Type} : Lit × DataW H → Nat
  | (.string bytes, d) => bytes.length + uptoBulk d + 1
  | (_, d) => uptoBulk d + 1
 end
def uptoSmall : (H : Type) → List (DataW H) → Bool := fun _ ds => decide (uptoBulkAll ds ≤ 1048576)
def OpenSpec.upto (s : _root_.Go.ChangeSpec) : _root_.Go.OpenSpec := { _root_.Go.OpenSpec.ofChange s with cond := some uptoSmall }

/-- 'laws.FnExactForestOf', WHERE WHAT IT READS IS OF BULK AT MOST 1048576: true; the input reads as it did. -/
def fnExactForestOfUptoRow : OpenClaim := { program := "ytgicbmfcojfjcaa", sum := "c7c3f03019436ca89bcd2c8c7c5084967ac11690431150ef7586eb477a8d3ae3", func := "loop.example/g01100/laws.FnExactForestOf", spec := "fnExactForestOf", inPlace := ["internal/abi.NoEscape"], unfollowed := true, recurses := true, apart := false, narrowed := true }
def FnExactForestOfUptoSaid : Prop := fnExactForestOfUptoRow.holds Try.pinned (OpenSpec.upto fnExactForestOfSpec)

/-- 'laws.FnExactTimesForests', WHERE WHAT IT READS IS OF BULK AT MOST 1048576: true; the input reads as it did. -/
def fnExactTimesForestsUptoRow : OpenClaim := { program := "ytgicbmfcojfjcaa", sum := "c7c3f03019436ca89bcd2c8c7c5084967ac11690431150ef7586eb477a8d3ae3", func := "loop.example/g01100/laws.FnExactTimesForests", spec := "fnExactTimesForests", inPlace := ["internal/abi.NoEscape"], unfollowed := true, recurses := true, apart := false, narrowed := true }
def FnExactTimesForestsUptoSaid : Prop := fnExactTimesForestsUptoRow.holds Try.pinned (OpenSpec.upto fnExactTimesForestsSpec)

/-- 'laws.FnExactParseTree', WHERE WHAT IT READS IS OF BULK AT MOST 1048576: true; the input reads as it did. -/
def fnExactParseTreeUptoRow : OpenClaim := { program := "ytgicbmfcojfjcaa", sum := "c7c3f03019436ca89bcd2c8c7c5084967ac11690431150ef7586eb477a8d3ae3", func := "loop.example/g01100/laws.FnExactParseTree", spec := "fnExactParseTree", inPlace := ["internal/abi.NoEscape"], recurses := true, apart := false, narrowed := true }
def FnExactParseTreeUptoSaid : Prop := fnExactParseTreeUptoRow.holds Try.pinned (OpenSpec.upto fnExactParseTreeSpec)

/-- 'laws.FnExactParseForest', WHERE WHAT IT READS IS OF BULK AT MOST 1048576: true; the input reads as it did. -/
def fnExactParseForestUptoRow : OpenClaim := { program := "ytgicbmfcojfjcaa", sum := "c7c3f03019436ca89bcd2c8c7c5084967ac11690431150ef7586eb477a8d3ae3", func := "loop.example/g01100/laws.FnExactParseForest", spec := "fnExactParseForest", inPlace := ["internal/abi.NoEscape"], recurses := true, apart := false, narrowed := true }
def FnExactParseForestUptoSaid : Prop := fnExactParseForestUptoRow.holds Try.pinned (OpenSpec.upto fnExactParseForestSpec)

/-- 'laws.FnExactLeavesOf', WHERE WHAT IT READS IS OF BULK AT MOST 1048576: true; the input reads as it did. -/
def fnExactLeavesOfUptoRow : OpenClaim := { program := "ytgicbmfcojfjcaa", sum := "c7c3f03019436ca89bcd2c8c7c5084967ac11690431150ef7586eb477a8d3ae3", func := "loop.example/g01100/laws.FnExactLeavesOf", spec := "fnExactLeavesOf", inPlace := ["internal/abi.NoEscape", "internal/bytealg.CountString", "internal/bytealg.IndexByteString", "internal/bytealg.IndexString"], recurses := true, named := ["internal/bytealg.MaxLen"], apart := false, narrowed := true }
def FnExactLeavesOfUptoSaid : Prop := fnExactLeavesOfUptoRow.holds Try.pinned (OpenSpec.upto fnExactLeavesOfSpec)

/-- 'laws.FnTrees', WHERE WHAT IT READS IS OF BULK AT MOST 1048576: true; the input reads as it did. -/
def fnTreesUptoRow : OpenClaim := { program := "ytgicbmfcojfjcaa", sum := "c7c3f03019436ca89bcd2c8c7c5084967ac11690431150ef7586eb477a8d3ae3", func := "loop.example/g01100/laws.FnTrees", spec := "fnTrees", inPlace := ["internal/abi.NoEscape"], unfollowed := true, recurses := true, apart := false, narrowed := true }
def FnTreesUptoSaid : Prop := fnTreesUptoRow.holds Try.pinned (OpenSpec.upto fnTreesSpec)

/-- 'laws.FnTreeCounts', WHERE WHAT IT READS IS OF BULK AT MOST 1048576: true; the input reads as it did. -/
def fnTreeCountsUptoRow : OpenClaim := { program := "ytgicbmfcojfjcaa", sum := "c7c3f03019436ca89bcd2c8c7c5084967ac11690431150ef7586eb477a8d3ae3", func := "loop.example/g01100/laws.FnTreeCounts", spec := "fnTreeCounts", inPlace := ["internal/abi.NoEscape", "internal/bytealg.CountString", "internal/bytealg.IndexByteString", "internal/bytealg.IndexString"], recurses := true, named := ["internal/bytealg.MaxLen"], apart := false, narrowed := true }
def FnTreeCountsUptoSaid : Prop := fnTreeCountsUptoRow.holds Try.pinned (OpenSpec.upto fnTreeCountsSpec)

/-- 'laws.FnForests', WHERE WHAT IT READS IS OF BULK AT MOST 1048576: true; the input reads as it did. -/
def fnForestsUptoRow : OpenClaim := { program := "ytgicbmfcojfjcaa", sum := "c7c3f03019436ca89bcd2c8c7c5084967ac11690431150ef7586eb477a8d3ae3", func := "loop.example/g01100/laws.FnForests", spec := "fnForests", inPlace := ["internal/abi.NoEscape"], unfollowed := true, recurses := true, apart := false, narrowed := true }
def FnForestsUptoSaid : Prop := fnForestsUptoRow.holds Try.pinned (OpenSpec.upto fnForestsSpec)

/-- 'laws.FnExactButcherProduct', WHERE WHAT IT READS IS OF BULK AT MOST 1048576: true; the input reads as it did. -/
def fnExactButcherProductUptoRow : OpenClaim := { program := "ytgicbmfcojfjcaa", sum := "c7c3f03019436ca89bcd2c8c7c5084967ac11690431150ef7586eb477a8d3ae3", func := "loop.example/g01100/laws.FnExactButcherProduct", spec := "fnExactButcherProduct", inPlace := ["internal/abi.NoEscape"], recurses := true, apart := false, narrowed := true }
def FnExactButcherProductUptoSaid : Prop := fnExactButcherProductUptoRow.holds Try.pinned (OpenSpec.upto fnExactButcherProductSpec)

/-- 'laws.FnExactGraftAt', WHERE WHAT IT READS IS OF BULK AT MOST 1048576: true; the input reads as it did. -/
def fnExactGraftAtUptoRow : OpenClaim := { program := "ytgicbmfcojfjcaa", sum := "c7c3f03019436ca89bcd2c8c7c5084967ac11690431150ef7586eb477a8d3ae3", func := "loop.example/g01100/laws.FnExactGraftAt", spec := "fnExactGraftAt", inPlace := ["internal/abi.NoEscape"], recurses := true, apart := false, narrowed := true }
def FnExactGraftAtUptoSaid : Prop := fnExactGraftAtUptoRow.holds Try.pinned (OpenSpec.upto fnExactGraftAtSpec)

/-- 'laws.FnExactCutAbove', WHERE WHAT IT READS IS OF BULK AT MOST 1048576: true; the input reads as it did. -/
def fnExactCutAboveUptoRow : OpenClaim := { program := "ytgicbmfcojfjcaa", sum := "c7c3f03019436ca89bcd2c8c7c5084967ac11690431150ef7586eb477a8d3ae3", func := "loop.example/g01100/laws.FnExactCutAbove", spec := "fnExactCutAbove", inPlace := ["internal/abi.NoEscape"], recurses := true, apart := false, narrowed := true }
def FnExactCutAboveUptoSaid : Prop := fnExactCutAboveUptoRow.holds Try.pinned (OpenSpec.upto fnExactCutAboveSpec)

/-- 'laws.FnExactRerootAt', WHERE WHAT IT READS IS OF BULK AT MOST 1048576: true; the input reads as it did. -/
def fnExactRerootAtUptoRow : OpenClaim := { program := "ytgicbmfcojfjcaa", sum := "c7c3f03019436ca89bcd2c8c7c5084967ac11690431150ef7586eb477a8d3ae3", func := "loop.example/g01100/laws.FnExactRerootAt", spec := "fnExactRerootAt", inPlace := ["internal/abi.NoEscape"], recurses := true, apart := false, narrowed := true }
def FnExactRerootAtUptoSaid : Prop := fnExactRerootAtUptoRow.holds Try.pinned (OpenSpec.upto fnExactRerootAtSpec)

/-- 'laws.FnExactFreeForm', WHERE WHAT IT READS IS OF BULK AT MOST 1048576: true; the input reads as it did. -/
def fnExactFreeFormUptoRow : OpenClaim := { program := "ytgicbmfcojfjcaa", sum := "c7c3f03019436ca89bcd2c8c7c5084967ac11690431150ef7586eb477a8d3ae3", func := "loop.example/g01100/laws.FnExactFreeForm", spec := "fnExactFreeForm", inPlace := ["internal/abi.NoEscape"], unfollowed := true, recurses := true, apart := false, narrowed := true }
def FnExactFreeFormUptoSaid : Prop := fnExactFreeFormUptoRow.holds Try.pinned (OpenSpec.upto fnExactFreeFormSpec)

/-- 'laws.FnExactAreSameFree', WHERE WHAT IT READS IS OF BULK AT MOST 1048576: true; the input reads as it did. -/
def fnExactAreSameFreeUptoRow : OpenClaim := { program := "ytgicbmfcojfjcaa", sum := "c7c3f03019436ca89bcd2c8c7c5084967ac11690431150ef7586eb477a8d3ae3", func := "loop.example/g01100/laws.FnExactAreSameFree", spec := "fnExactAreSameFree", inPlace := ["internal/abi.NoEscape"], unfollowed := true, recurses := true, apart := false, narrowed := true }
def FnExactAreSameFreeUptoSaid : Prop := fnExactAreSameFreeUptoRow.holds Try.pinned (OpenSpec.upto fnExactAreSameFreeSpec)

end Rows
end Go.Proofs.Ytgicbmfcojfjcaa
