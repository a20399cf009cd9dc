/-
  No cell of these rows narrows 'for every input' (looked for: loops, veiled, ifaces, maps, wideKeys, modest, calm, conditions, laid).
  DERIVED. THE GIVEN ROWS OF THIS SEAT. 7 by the template 'for every input the law returns true; each argument reads behind the call as it read before'; 0 by the template 'total and deterministic' (their statements: YtnnihdkhblbdgaaTotals.lean).
  GIVEN WITH THE SEED: the statements are not yours to turn. If you find one false, say at which input.
  Laid BY PROGRAM, IN A SANDBOX (cutbox-rows.mjs): the forced cells as the released guide's own fill.sh prints them over the translation e6043530b143746e… (all of the seat's roots in one cut). By AI agents, Wed Nov 11 2026. No macro, syntax, notation, axiom, sorry.
-/
import Derived.Test.YtnnihdkhblbdgaaChecked
import GoSem.Claim
import GoSem.ClaimJoined
import GoSem.ClaimMapViews
import Derived.JoinedTies
import Derived.KernelRfl
namespace Go.Proofs.Ytnnihdkhblbdgaa
/- THE CELL 'sum', in the pinned program and in every row, IS THE sha256 OF THE DUMP (.gsa) THAT YtnnihdkhblbdgaaProg.lean LOADS. Nothing in Lean hashes anything: it is a label: what it is worth is what the hold of that sum in a sandbox is worth. -/
noncomputable def Try.pinned : Pinned := { name := "ytnnihdkhblbdgaa", sum := "e6043530b143746ef25420a46f0262d3d936edb942494db8ea2285373f6f5880", checked := Try.checked }
namespace Rows
def none {H : Type} : Left H := { results := [], args := [] }

/-- 'laws.FnExactIsSymplectic': WHATEVER THE INPUT: true; the input reads as it did. -/
def fnExactIsSymplecticSpec : ChangeSpec := { name := "fnExactIsSymplectic", fn := fun _ => fun
  | [d] => { results := [.lit (.bool true)], args := [d] }
  | _ => none }
def fnExactIsSymplecticRow : OpenClaim := { program := "ytnnihdkhblbdgaa", sum := "e6043530b143746ef25420a46f0262d3d936edb942494db8ea2285373f6f5880", func := "loop.example/g01100/laws.FnExactIsSymplectic", spec := "fnExactIsSymplectic", unfollowed := true, recurses := true, apart := false }
def FnExactIsSymplecticSaid : Prop := fnExactIsSymplecticRow.holds Try.pinned (OpenSpec.ofChange fnExactIsSymplecticSpec)

/-- ITS FALSE NEIGHBOUR: 'it returns false'. Refute it at one input. -/
def fnExactIsSymplecticWrong : ChangeSpec := { name := "fnExactIsSymplectic", fn := fun _ => fun
  | [d] => { results := [.lit (.bool false)], args := [d] }
  | _ => none }
def FnExactIsSymplecticWrongFalsely : Prop := fnExactIsSymplecticRow.holds Try.pinned (OpenSpec.ofChange fnExactIsSymplecticWrong)

/-- 'laws.FnExactSymplecticFault': WHATEVER THE INPUT: true; the input reads as it did. -/
def fnExactSymplecticFaultSpec : ChangeSpec := { name := "fnExactSymplecticFault", fn := fun _ => fun
  | [d] => { results := [.lit (.bool true)], args := [d] }
  | _ => none }
def fnExactSymplecticFaultRow : OpenClaim := { program := "ytnnihdkhblbdgaa", sum := "e6043530b143746ef25420a46f0262d3d936edb942494db8ea2285373f6f5880", func := "loop.example/g01100/laws.FnExactSymplecticFault", spec := "fnExactSymplecticFault", unfollowed := true, recurses := true, apart := false }
def FnExactSymplecticFaultSaid : Prop := fnExactSymplecticFaultRow.holds Try.pinned (OpenSpec.ofChange fnExactSymplecticFaultSpec)

/-- ITS FALSE NEIGHBOUR: 'it returns false'. Refute it at one input. -/
def fnExactSymplecticFaultWrong : ChangeSpec := { name := "fnExactSymplecticFault", fn := fun _ => fun
  | [d] => { results := [.lit (.bool false)], args := [d] }
  | _ => none }
def FnExactSymplecticFaultWrongFalsely : Prop := fnExactSymplecticFaultRow.holds Try.pinned (OpenSpec.ofChange fnExactSymplecticFaultWrong)

/-- 'laws.FnExactIsSymmetric': WHATEVER THE INPUT: true; the input reads as it did. -/
def fnExactIsSymmetricSpec : ChangeSpec := { name := "fnExactIsSymmetric", fn := fun _ => fun
  | [d] => { results := [.lit (.bool true)], args := [d] }
  | _ => none }
def fnExactIsSymmetricRow : OpenClaim := { program := "ytnnihdkhblbdgaa", sum := "e6043530b143746ef25420a46f0262d3d936edb942494db8ea2285373f6f5880", func := "loop.example/g01100/laws.FnExactIsSymmetric", spec := "fnExactIsSymmetric", unfollowed := true, recurses := true, apart := false }
def FnExactIsSymmetricSaid : Prop := fnExactIsSymmetricRow.holds Try.pinned (OpenSpec.ofChange fnExactIsSymmetricSpec)

/-- ITS FALSE NEIGHBOUR: 'it returns false'. Refute it at one input. -/
def fnExactIsSymmetricWrong : ChangeSpec := { name := "fnExactIsSymmetric", fn := fun _ => fun
  | [d] => { results := [.lit (.bool false)], args := [d] }
  | _ => none }
def FnExactIsSymmetricWrongFalsely : Prop := fnExactIsSymmetricRow.holds Try.pinned (OpenSpec.ofChange fnExactIsSymmetricWrong)

/-- 'laws.FnExactSymplecticTo': WHATEVER THE INPUT: true; the input reads as it did. -/
def fnExactSymplecticToSpec : ChangeSpec := { name := "fnExactSymplecticTo", fn := fun _ => fun
  | [d] => { results := [.lit (.bool true)], args := [d] }
  | _ => none }
def fnExactSymplecticToRow : OpenClaim := { program := "ytnnihdkhblbdgaa", sum := "e6043530b143746ef25420a46f0262d3d936edb942494db8ea2285373f6f5880", func := "loop.example/g01100/laws.FnExactSymplecticTo", spec := "fnExactSymplecticTo", inPlace := ["internal/abi.NoEscape"], unfollowed := true, recurses := true, apart := false }
def FnExactSymplecticToSaid : Prop := fnExactSymplecticToRow.holds Try.pinned (OpenSpec.ofChange fnExactSymplecticToSpec)

/-- ITS FALSE NEIGHBOUR: 'it returns false'. Refute it at one input. -/
def fnExactSymplecticToWrong : ChangeSpec := { name := "fnExactSymplecticTo", fn := fun _ => fun
  | [d] => { results := [.lit (.bool false)], args := [d] }
  | _ => none }
def FnExactSymplecticToWrongFalsely : Prop := fnExactSymplecticToRow.holds Try.pinned (OpenSpec.ofChange fnExactSymplecticToWrong)

/-- 'laws.FnExactHamiltonianTo': WHATEVER THE INPUT: true; the input reads as it did. -/
def fnExactHamiltonianToSpec : ChangeSpec := { name := "fnExactHamiltonianTo", fn := fun _ => fun
  | [d] => { results := [.lit (.bool true)], args := [d] }
  | _ => none }
def fnExactHamiltonianToRow : OpenClaim := { program := "ytnnihdkhblbdgaa", sum := "e6043530b143746ef25420a46f0262d3d936edb942494db8ea2285373f6f5880", func := "loop.example/g01100/laws.FnExactHamiltonianTo", spec := "fnExactHamiltonianTo", inPlace := ["internal/abi.NoEscape"], unfollowed := true, recurses := true, apart := false }
def FnExactHamiltonianToSaid : Prop := fnExactHamiltonianToRow.holds Try.pinned (OpenSpec.ofChange fnExactHamiltonianToSpec)

/-- ITS FALSE NEIGHBOUR: 'it returns false'. Refute it at one input. -/
def fnExactHamiltonianToWrong : ChangeSpec := { name := "fnExactHamiltonianTo", fn := fun _ => fun
  | [d] => { results := [.lit (.bool false)], args := [d] }
  | _ => none }
def FnExactHamiltonianToWrongFalsely : Prop := fnExactHamiltonianToRow.holds Try.pinned (OpenSpec.ofChange fnExactHamiltonianToWrong)

/-- 'laws.FnExactFreeConditions': WHATEVER THE INPUT: true; the input reads as it did. -/
def fnExactFreeConditionsSpec : ChangeSpec := { name := "fnExactFreeConditions", fn := fun _ => fun
  | [d] => { results := [.lit (.bool true)], args := [d] }
  | _ => none }
def fnExactFreeConditionsRow : OpenClaim := { program := "ytnnihdkhblbdgaa", sum := "e6043530b143746ef25420a46f0262d3d936edb942494db8ea2285373f6f5880", func := "loop.example/g01100/laws.FnExactFreeConditions", spec := "fnExactFreeConditions", inPlace := ["internal/abi.NoEscape"], unfollowed := true, recurses := true, apart := false }
def FnExactFreeConditionsSaid : Prop := fnExactFreeConditionsRow.holds Try.pinned (OpenSpec.ofChange fnExactFreeConditionsSpec)

/-- ITS FALSE NEIGHBOUR: 'it returns false'. Refute it at one input. -/
def fnExactFreeConditionsWrong : ChangeSpec := { name := "fnExactFreeConditions", fn := fun _ => fun
  | [d] => { results := [.lit (.bool false)], args := [d] }
  | _ => none }
def FnExactFreeConditionsWrongFalsely : Prop := fnExactFreeConditionsRow.holds Try.pinned (OpenSpec.ofChange fnExactFreeConditionsWrong)

/-- 'laws.FnExactHamiltonianOf': WHATEVER THE INPUT: true; the input reads as it did. -/
def fnExactHamiltonianOfSpec : ChangeSpec := { name := "fnExactHamiltonianOf", fn := fun _ => fun
  | [d] => { results := [.lit (.bool true)], args := [d] }
  | _ => none }
def fnExactHamiltonianOfRow : OpenClaim := { program := "ytnnihdkhblbdgaa", sum := "e6043530b143746ef25420a46f0262d3d936edb942494db8ea2285373f6f5880", func := "loop.example/g01100/laws.FnExactHamiltonianOf", spec := "fnExactHamiltonianOf", inPlace := ["internal/abi.NoEscape"], unfollowed := true, recurses := true, apart := false }
def FnExactHamiltonianOfSaid : Prop := fnExactHamiltonianOfRow.holds Try.pinned (OpenSpec.ofChange fnExactHamiltonianOfSpec)

/-- ITS FALSE NEIGHBOUR: 'it returns false'. Refute it at one input. -/
def fnExactHamiltonianOfWrong : ChangeSpec := { name := "fnExactHamiltonianOf", fn := fun _ => fun
  | [d] => { results := [.lit (.bool false)], args := [d] }
  | _ => none }
def FnExactHamiltonianOfWrongFalsely : Prop := fnExactHamiltonianOfRow.holds Try.pinned (OpenSpec.ofChange fnExactHamiltonianOfWrong)

/- THE SECOND FORM. 'bulk': how many values and letters a reading holds, each counted each time it is reached (what is shared counts as often as it is met; a slice's spare places count too). A statement '..UptoSaid' is the law's where the arguments, and the package variables that the reading takes, are together of bulk at most 1048576: NARROWER than '..Said'. Prove '..Said' where nothing that the law and all that it calls make is longer than what came in: it says more and counts as full. Else prove '..UptoSaid'. A law counts once. -/
mutual
def uptoBulk {H : Type} : DataW H → Nat
  | .lit (.string bytes) => bytes.length + 1
  | .lit _ => 1
  | .nil => 1
  | .ptr d => uptoBulk d + 1
  | .slice elems spare => uptoBulkAll elems + uptoBulkAll spare + 1
  | .agg parts => uptoBulkAll parts + 1
  | .iface _ d => uptoBulk d + 1
  | .map entries => uptoBulkEntries entries + 1
  | .held _ => 1
def uptoBulkAll {H : Type} : List (DataW H) → Nat
  | [] => 0
  | d :: r => uptoBulk d + uptoBulkAll r
def uptoBulkEntries {H : Type} : List (Lit × DataW H) → Nat
  | [] => 0
  | x :: r => uptoBulkEntry x + uptoBulkEntries r
def uptoBulkEntry {H : Type} : Lit × DataW H → Nat
  | (.string bytes, d) => bytes.length + uptoBulk d + 1
  | (_, d) => uptoBulk d + 1
 end
def uptoSmall : (H : Type) → List (DataW H) → Bool := fun _ ds => decide (uptoBulkAll ds ≤ 1048576)
def OpenSpec.upto (s : _root_.Go.ChangeSpec) : _root_.Go.OpenSpec := { _root_.Go.OpenSpec.ofChange s with cond := some uptoSmall }

/-- 'laws.FnExactIsSymplectic', WHERE WHAT IT READS IS OF BULK AT MOST 1048576: true; the input reads as it did. -/
def fnExactIsSymplecticUptoRow : OpenClaim := { program := "ytnnihdkhblbdgaa", sum := "e6043530b143746ef25420a46f0262d3d936edb942494db8ea2285373f6f5880", func := "loop.example/g01100/laws.FnExactIsSymplectic", spec := "fnExactIsSymplectic", unfollowed := true, recurses := true, apart := false, narrowed := true }
def FnExactIsSymplecticUptoSaid : Prop := fnExactIsSymplecticUptoRow.holds Try.pinned (OpenSpec.upto fnExactIsSymplecticSpec)

/-- 'laws.FnExactSymplecticFault', WHERE WHAT IT READS IS OF BULK AT MOST 1048576: true; the input reads as it did. -/
def fnExactSymplecticFaultUptoRow : OpenClaim := { program := "ytnnihdkhblbdgaa", sum := "e6043530b143746ef25420a46f0262d3d936edb942494db8ea2285373f6f5880", func := "loop.example/g01100/laws.FnExactSymplecticFault", spec := "fnExactSymplecticFault", unfollowed := true, recurses := true, apart := false, narrowed := true }
def FnExactSymplecticFaultUptoSaid : Prop := fnExactSymplecticFaultUptoRow.holds Try.pinned (OpenSpec.upto fnExactSymplecticFaultSpec)

/-- 'laws.FnExactIsSymmetric', WHERE WHAT IT READS IS OF BULK AT MOST 1048576: true; the input reads as it did. -/
def fnExactIsSymmetricUptoRow : OpenClaim := { program := "ytnnihdkhblbdgaa", sum := "e6043530b143746ef25420a46f0262d3d936edb942494db8ea2285373f6f5880", func := "loop.example/g01100/laws.FnExactIsSymmetric", spec := "fnExactIsSymmetric", unfollowed := true, recurses := true, apart := false, narrowed := true }
def FnExactIsSymmetricUptoSaid : Prop := fnExactIsSymmetricUptoRow.holds Try.pinned (OpenSpec.upto fnExactIsSymmetricSpec)

/-- 'laws.FnExactSymplecticTo', WHERE WHAT IT READS IS OF BULK AT MOST 1048576: true; the input reads as it did. -/
def fnExactSymplecticToUptoRow : OpenClaim := { program := "ytnnihdkhblbdgaa", sum := "e6043530b143746ef25420a46f0262d3d936edb942494db8ea2285373f6f5880", func := "loop.example/g01100/laws.FnExactSymplecticTo", spec := "fnExactSymplecticTo", inPlace := ["internal/abi.NoEscape"], unfollowed := true, recurses := true, apart := false, narrowed := true }
def FnExactSymplecticToUptoSaid : Prop := fnExactSymplecticToUptoRow.holds Try.pinned (OpenSpec.upto fnExactSymplecticToSpec)

/-- 'laws.FnExactHamiltonianTo', WHERE WHAT IT READS IS OF BULK AT MOST 1048576: true; the input reads as it did. -/
def fnExactHamiltonianToUptoRow : OpenClaim := { program := "ytnnihdkhblbdgaa", sum := "e6043530b143746ef25420a46f0262d3d936edb942494db8ea2285373f6f5880", func := "loop.example/g01100/laws.FnExactHamiltonianTo", spec := "fnExactHamiltonianTo", inPlace := ["internal/abi.NoEscape"], unfollowed := true, recurses := true, apart := false, narrowed := true }
def FnExactHamiltonianToUptoSaid : Prop := fnExactHamiltonianToUptoRow.holds Try.pinned (OpenSpec.upto fnExactHamiltonianToSpec)

/-- 'laws.FnExactFreeConditions', WHERE WHAT IT READS IS OF BULK AT MOST 1048576: true; the input reads as it did. -/
def fnExactFreeConditionsUptoRow : OpenClaim := { program := "ytnnihdkhblbdgaa", sum := "e6043530b143746ef25420a46f0262d3d936edb942494db8ea2285373f6f5880", func := "loop.example/g01100/laws.FnExactFreeConditions", spec := "fnExactFreeConditions", inPlace := ["internal/abi.NoEscape"], unfollowed := true, recurses := true, apart := false, narrowed := true }
def FnExactFreeConditionsUptoSaid : Prop := fnExactFreeConditionsUptoRow.holds Try.pinned (OpenSpec.upto fnExactFreeConditionsSpec)

/-- 'laws.FnExactHamiltonianOf', WHERE WHAT IT READS IS OF BULK AT MOST 1048576: true; the input reads as it did. -/
def fnExactHamiltonianOfUptoRow : OpenClaim := { program := "ytnnihdkhblbdgaa", sum := "e6043530b143746ef25420a46f0262d3d936edb942494db8ea2285373f6f5880", func := "loop.example/g01100/laws.FnExactHamiltonianOf", spec := "fnExactHamiltonianOf", inPlace := ["internal/abi.NoEscape"], unfollowed := true, recurses := true, apart := false, narrowed := true }
def FnExactHamiltonianOfUptoSaid : Prop := fnExactHamiltonianOfUptoRow.holds Try.pinned (OpenSpec.upto fnExactHamiltonianOfSpec)

end Rows
end Go.Proofs.Ytnnihdkhblbdgaa
