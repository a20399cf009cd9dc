/-
  No cell of these rows narrows 'for every input' (looked for: loops, veiled, ifaces, maps, wideKeys, modest, calm, conditions, laid).
  DERIVED. THE GIVEN ROWS OF THIS SEAT. 4 by the template 'for every input the law returns true; each argument reads behind the call as it read before'; 0 by the template 'total and deterministic' (their statements: YtgklilckjpbdnaaTotals.lean).
  GIVEN WITH THE SEED: the statements are not yours to turn. If you find one false, say at which input.
  Laid BY PROGRAM, IN A SANDBOX (cutbox-rows.mjs): the forced cells as the released guide's own fill.sh prints them over the translation 31a2e492ff818466… (all of the seat's roots in one cut). By AI agents, Wed Nov 11 2026. No macro, syntax, notation, axiom, sorry.
-/
import Derived.Test.YtgklilckjpbdnaaChecked
import GoSem.Claim
import GoSem.ClaimJoined
import GoSem.ClaimMapViews
import Derived.JoinedTies
import Derived.KernelRfl
namespace Go.Proofs.Ytgklilckjpbdnaa
/- THE CELL 'sum', in the pinned program and in every row, IS THE sha256 OF THE DUMP (.gsa) THAT YtgklilckjpbdnaaProg.lean LOADS. Nothing in Lean hashes anything: it is a label: what it is worth is what the hold of that sum in a sandbox is worth. -/
noncomputable def Try.pinned : Pinned := { name := "ytgklilckjpbdnaa", sum := "31a2e492ff8184663959100b38c253850f785ea712937e9f59ea7ab3001f1d16", checked := Try.checked }
namespace Rows
def none {H : Type} : Left H := { results := [], args := [] }

/-- 'laws.FnExactCountCuts': WHATEVER THE INPUT: true; the input reads as it did. -/
def fnExactCountCutsSpec : ChangeSpec := { name := "fnExactCountCuts", fn := fun _ => fun
  | [d] => { results := [.lit (.bool true)], args := [d] }
  | _ => none }
def fnExactCountCutsRow : OpenClaim := { program := "ytgklilckjpbdnaa", sum := "31a2e492ff8184663959100b38c253850f785ea712937e9f59ea7ab3001f1d16", func := "loop.example/g01100/laws.FnExactCountCuts", spec := "fnExactCountCuts", inPlace := ["internal/abi.NoEscape"], unfollowed := true, recurses := true, apart := false }
def FnExactCountCutsSaid : Prop := fnExactCountCutsRow.holds Try.pinned (OpenSpec.ofChange fnExactCountCutsSpec)

/-- ITS FALSE NEIGHBOUR: 'it returns false'. Refute it at one input. -/
def fnExactCountCutsWrong : ChangeSpec := { name := "fnExactCountCuts", fn := fun _ => fun
  | [d] => { results := [.lit (.bool false)], args := [d] }
  | _ => none }
def FnExactCountCutsWrongFalsely : Prop := fnExactCountCutsRow.holds Try.pinned (OpenSpec.ofChange fnExactCountCutsWrong)

/-- 'laws.FnExactAddMaps': WHATEVER THE INPUT: true; the input reads as it did. -/
def fnExactAddMapsSpec : ChangeSpec := { name := "fnExactAddMaps", fn := fun _ => fun
  | [d1, d2] => { results := [.lit (.bool true)], args := [d1, d2] }
  | _ => none }
def fnExactAddMapsRow : OpenClaim := { program := "ytgklilckjpbdnaa", sum := "31a2e492ff8184663959100b38c253850f785ea712937e9f59ea7ab3001f1d16", func := "loop.example/g01100/laws.FnExactAddMaps", spec := "fnExactAddMaps", apart := false }
def FnExactAddMapsSaid : Prop := fnExactAddMapsRow.holds Try.pinned (OpenSpec.ofChange fnExactAddMapsSpec)

/-- ITS FALSE NEIGHBOUR: 'it returns false'. Refute it at one input. -/
def fnExactAddMapsWrong : ChangeSpec := { name := "fnExactAddMaps", fn := fun _ => fun
  | [d1, d2] => { results := [.lit (.bool false)], args := [d1, d2] }
  | _ => none }
def FnExactAddMapsWrongFalsely : Prop := fnExactAddMapsRow.holds Try.pinned (OpenSpec.ofChange fnExactAddMapsWrong)

/-- 'laws.FnExactMultiplyMap': WHATEVER THE INPUT: true; the input reads as it did. -/
def fnExactMultiplyMapSpec : ChangeSpec := { name := "fnExactMultiplyMap", fn := fun _ => fun
  | [d1, d2] => { results := [.lit (.bool true)], args := [d1, d2] }
  | _ => none }
def fnExactMultiplyMapRow : OpenClaim := { program := "ytgklilckjpbdnaa", sum := "31a2e492ff8184663959100b38c253850f785ea712937e9f59ea7ab3001f1d16", func := "loop.example/g01100/laws.FnExactMultiplyMap", spec := "fnExactMultiplyMap", apart := false }
def FnExactMultiplyMapSaid : Prop := fnExactMultiplyMapRow.holds Try.pinned (OpenSpec.ofChange fnExactMultiplyMapSpec)

/-- ITS FALSE NEIGHBOUR: 'it returns false'. Refute it at one input. -/
def fnExactMultiplyMapWrong : ChangeSpec := { name := "fnExactMultiplyMap", fn := fun _ => fun
  | [d1, d2] => { results := [.lit (.bool false)], args := [d1, d2] }
  | _ => none }
def FnExactMultiplyMapWrongFalsely : Prop := fnExactMultiplyMapRow.holds Try.pinned (OpenSpec.ofChange fnExactMultiplyMapWrong)

/-- 'laws.FnExactPartOfMap': WHATEVER THE INPUT: true; the input reads as it did. -/
def fnExactPartOfMapSpec : ChangeSpec := { name := "fnExactPartOfMap", fn := fun _ => fun
  | [d1, d2] => { results := [.lit (.bool true)], args := [d1, d2] }
  | _ => none }
def fnExactPartOfMapRow : OpenClaim := { program := "ytgklilckjpbdnaa", sum := "31a2e492ff8184663959100b38c253850f785ea712937e9f59ea7ab3001f1d16", func := "loop.example/g01100/laws.FnExactPartOfMap", spec := "fnExactPartOfMap", inPlace := ["internal/abi.NoEscape"], recurses := true, apart := false }
def FnExactPartOfMapSaid : Prop := fnExactPartOfMapRow.holds Try.pinned (OpenSpec.ofChange fnExactPartOfMapSpec)

/-- ITS FALSE NEIGHBOUR: 'it returns false'. Refute it at one input. -/
def fnExactPartOfMapWrong : ChangeSpec := { name := "fnExactPartOfMap", fn := fun _ => fun
  | [d1, d2] => { results := [.lit (.bool false)], args := [d1, d2] }
  | _ => none }
def FnExactPartOfMapWrongFalsely : Prop := fnExactPartOfMapRow.holds Try.pinned (OpenSpec.ofChange fnExactPartOfMapWrong)

/- THE SECOND FORM. 'bulk': how many values and letters a reading holds, each counted each time it is reached (what is shared counts as often as it is met; a slice's spare places count too). A statement '..UptoSaid' is the law's where the arguments, and the package variables that the reading takes, are together of bulk at most 1048576: NARROWER than '..Said'. Prove '..Said' where nothing that the law and all that it calls make is longer than what came in: it says more and counts as full. Else prove '..UptoSaid'. A law counts once. -/
mutual
def uptoBulk {H : Type} : DataW H → Nat
  | .lit (.string bytes) => bytes.length + 1
  | .lit _ => 1
  | .nil => 1
  | .ptr d => uptoBulk d + 1
  | .slice elems spare => uptoBulkAll elems + uptoBulkAll spare + 1
  | .agg parts => uptoBulkAll parts + 1
  | .iface _ d => uptoBulk d + 1
  | .map entries => uptoBulkEntries entries + 1
  | .held _ => 1
def uptoBulkAll {H : Type} : List (DataW H) → Nat
  | [] => 0
  | d :: r => uptoBulk d + uptoBulkAll r
def uptoBulkEntries {H : Type} : List (Lit × DataW H) → Nat
  | [] => 0
  | x :: r => uptoBulkEntry x + uptoBulkEntries r
def uptoBulkEntry {H : Type} : Lit × DataW H → Nat
  | (.string bytes, d) => bytes.length + uptoBulk d + 1
  | (_, d) => uptoBulk d + 1
 end
def uptoSmall : (H : Type) → List (DataW H) → Bool := fun _ ds => decide (uptoBulkAll ds ≤ 1048576)
def OpenSpec.upto (s : _root_.Go.ChangeSpec) : _root_.Go.OpenSpec := { _root_.Go.OpenSpec.ofChange s with cond := some uptoSmall }

/-- 'laws.FnExactCountCuts', WHERE WHAT IT READS IS OF BULK AT MOST 1048576: true; the input reads as it did. -/
def fnExactCountCutsUptoRow : OpenClaim := { program := "ytgklilckjpbdnaa", sum := "31a2e492ff8184663959100b38c253850f785ea712937e9f59ea7ab3001f1d16", func := "loop.example/g01100/laws.FnExactCountCuts", spec := "fnExactCountCuts", inPlace := ["internal/abi.NoEscape"], unfollowed := true, recurses := true, apart := false, narrowed := true }
def FnExactCountCutsUptoSaid : Prop := fnExactCountCutsUptoRow.holds Try.pinned (OpenSpec.upto fnExactCountCutsSpec)

/-- 'laws.FnExactAddMaps', WHERE WHAT IT READS IS OF BULK AT MOST 1048576: true; the input reads as it did. -/
def fnExactAddMapsUptoRow : OpenClaim := { program := "ytgklilckjpbdnaa", sum := "31a2e492ff8184663959100b38c253850f785ea712937e9f59ea7ab3001f1d16", func := "loop.example/g01100/laws.FnExactAddMaps", spec := "fnExactAddMaps", apart := false, narrowed := true }
def FnExactAddMapsUptoSaid : Prop := fnExactAddMapsUptoRow.holds Try.pinned (OpenSpec.upto fnExactAddMapsSpec)

/-- 'laws.FnExactMultiplyMap', WHERE WHAT IT READS IS OF BULK AT MOST 1048576: true; the input reads as it did. -/
def fnExactMultiplyMapUptoRow : OpenClaim := { program := "ytgklilckjpbdnaa", sum := "31a2e492ff8184663959100b38c253850f785ea712937e9f59ea7ab3001f1d16", func := "loop.example/g01100/laws.FnExactMultiplyMap", spec := "fnExactMultiplyMap", apart := false, narrowed := true }
def FnExactMultiplyMapUptoSaid : Prop := fnExactMultiplyMapUptoRow.holds Try.pinned (OpenSpec.upto fnExactMultiplyMapSpec)

/-- 'laws.FnExactPartOfMap', WHERE WHAT IT READS IS OF BULK AT MOST 1048576: true; the input reads as it did. -/
def fnExactPartOfMapUptoRow : OpenClaim := { program := "ytgklilckjpbdnaa", sum := "31a2e492ff8184663959100b38c253850f785ea712937e9f59ea7ab3001f1d16", func := "loop.example/g01100/laws.FnExactPartOfMap", spec := "fnExactPartOfMap", inPlace := ["internal/abi.NoEscape"], recurses := true, apart := false, narrowed := true }
def FnExactPartOfMapUptoSaid : Prop := fnExactPartOfMapUptoRow.holds Try.pinned (OpenSpec.upto fnExactPartOfMapSpec)

end Rows
end Go.Proofs.Ytgklilckjpbdnaa
