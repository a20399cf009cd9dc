/-
  No cell of these rows narrows 'for every input' (looked for: loops, veiled, ifaces, maps, wideKeys, modest, calm, conditions, laid).
  DERIVED. THE GIVEN ROWS OF THIS SEAT. 2 by the template 'for every input the law returns true; each argument reads behind the call as it read before'; 0 by the template 'total and deterministic' (their statements: YtnnihdkhblbdgaaGreatTotals.lean).
  GIVEN WITH THE SEED: the statements are not yours to turn. If you find one false, say at which input.
  Laid BY PROGRAM, IN A SANDBOX (cutbox-rows.mjs): the forced cells as the released guide's own fill.sh prints them over the translation 2f11d3902e4deee8… (all of the seat's roots in one cut). By AI agents, Wed Nov 11 2026. No macro, syntax, notation, axiom, sorry.
-/
import Derived.Test.YtnnihdkhblbdgaaGreatChecked
import GoSem.Claim
import GoSem.ClaimJoined
import GoSem.ClaimMapViews
import Derived.JoinedTies
import Derived.KernelRfl
namespace Go.Proofs.YtnnihdkhblbdgaaGreat
/- THE CELL 'sum', in the pinned program and in every row, IS THE sha256 OF THE DUMP (.gsa) THAT YtnnihdkhblbdgaaGreatProg.lean LOADS. Nothing in Lean hashes anything: it is a label: what it is worth is what the hold of that sum in a sandbox is worth. -/
noncomputable def Tryz.pinned : Pinned := { name := "ytnnihdkhblbdgaagreat", sum := "2f11d3902e4deee82b3a602a4075ddc057173a4fea963f208d1805d72a78526f", checked := Tryz.checked }
namespace Rows
def none {H : Type} : Left H := { results := [], args := [] }

/-- 'laws.FnExactReducedOrder': WHATEVER THE INPUT: true; the input reads as it did. -/
def fnExactReducedOrderSpec : ChangeSpec := { name := "fnExactReducedOrder", fn := fun _ => fun
  | [d] => { results := [.lit (.bool true)], args := [d] }
  | _ => none }
def fnExactReducedOrderRow : OpenClaim := { program := "ytnnihdkhblbdgaagreat", sum := "2f11d3902e4deee82b3a602a4075ddc057173a4fea963f208d1805d72a78526f", func := "loop.example/g01100/laws.FnExactReducedOrder", spec := "fnExactReducedOrder", inPlace := ["internal/abi.NoEscape"], unfollowed := true, recurses := true, apart := false }
def FnExactReducedOrderSaid : Prop := fnExactReducedOrderRow.holds Tryz.pinned (OpenSpec.ofChange fnExactReducedOrderSpec)

/-- ITS FALSE NEIGHBOUR: 'it returns false'. Refute it at one input. -/
def fnExactReducedOrderWrong : ChangeSpec := { name := "fnExactReducedOrder", fn := fun _ => fun
  | [d] => { results := [.lit (.bool false)], args := [d] }
  | _ => none }
def FnExactReducedOrderWrongFalsely : Prop := fnExactReducedOrderRow.holds Tryz.pinned (OpenSpec.ofChange fnExactReducedOrderWrong)

/-- 'laws.FnExactFreeNumbersOf': WHATEVER THE INPUT: true; the input reads as it did. -/
def fnExactFreeNumbersOfSpec : ChangeSpec := { name := "fnExactFreeNumbersOf", fn := fun _ => fun
  | [d] => { results := [.lit (.bool true)], args := [d] }
  | _ => none }
def fnExactFreeNumbersOfRow : OpenClaim := { program := "ytnnihdkhblbdgaagreat", sum := "2f11d3902e4deee82b3a602a4075ddc057173a4fea963f208d1805d72a78526f", func := "loop.example/g01100/laws.FnExactFreeNumbersOf", spec := "fnExactFreeNumbersOf", inPlace := ["internal/abi.NoEscape"], unfollowed := true, recurses := true, apart := false }
def FnExactFreeNumbersOfSaid : Prop := fnExactFreeNumbersOfRow.holds Tryz.pinned (OpenSpec.ofChange fnExactFreeNumbersOfSpec)

/-- ITS FALSE NEIGHBOUR: 'it returns false'. Refute it at one input. -/
def fnExactFreeNumbersOfWrong : ChangeSpec := { name := "fnExactFreeNumbersOf", fn := fun _ => fun
  | [d] => { results := [.lit (.bool false)], args := [d] }
  | _ => none }
def FnExactFreeNumbersOfWrongFalsely : Prop := fnExactFreeNumbersOfRow.holds Tryz.pinned (OpenSpec.ofChange fnExactFreeNumbersOfWrong)

/- THE SECOND FORM. 'bulk': how many values and letters a reading holds, each counted each time it is reached (what is shared counts as often as it is met; a slice's spare places count too). A statement '..UptoSaid' is the law's where the arguments, and the package variables that the reading takes, are together of bulk at most 1048576: NARROWER than '..Said'. Prove '..Said' where nothing that the law and all that it calls make is longer than what came in: it says more and counts as full. Else prove '..UptoSaid'. A law counts once. -/
mutual
def uptoBulk {H : Type} : DataW H → Nat
  | .lit (.string bytes) => bytes.length + 1
  | .lit _ => 1
  | .nil => 1
  | .ptr d => uptoBulk d + 1
  | .slice elems spare => uptoBulkAll elems + uptoBulkAll spare + 1
  | .agg parts => uptoBulkAll parts + 1
  | .iface _ d => uptoBulk d + 1
  | .map entries => uptoBulkEntries entries + 1
  | .held _ => 1
def uptoBulkAll {H : Type} : List (DataW H) → Nat
  | [] => 0
  | d :: r => uptoBulk d + uptoBulkAll r
def uptoBulkEntries {H : Type} : List (Lit × DataW H) → Nat
  | [] => 0
  | x :: r => uptoBulkEntry x + uptoBulkEntries r
def uptoBulkEntry {H : Type} : Lit × DataW H → Nat
  | (.string bytes, d) => bytes.length + uptoBulk d + 1
  | (_, d) => uptoBulk d + 1
 end
def uptoSmall : (H : Type) → List (DataW H) → Bool := fun _ ds => decide (uptoBulkAll ds ≤ 1048576)
def OpenSpec.upto (s : _root_.Go.ChangeSpec) : _root_.Go.OpenSpec := { _root_.Go.OpenSpec.ofChange s with cond := some uptoSmall }

/-- 'laws.FnExactReducedOrder', WHERE WHAT IT READS IS OF BULK AT MOST 1048576: true; the input reads as it did. -/
def fnExactReducedOrderUptoRow : OpenClaim := { program := "ytnnihdkhblbdgaagreat", sum := "2f11d3902e4deee82b3a602a4075ddc057173a4fea963f208d1805d72a78526f", func := "loop.example/g01100/laws.FnExactReducedOrder", spec := "fnExactReducedOrder", inPlace := ["internal/abi.NoEscape"], unfollowed := true, recurses := true, apart := false, narrowed := true }
def FnExactReducedOrderUptoSaid : Prop := fnExactReducedOrderUptoRow.holds Tryz.pinned (OpenSpec.upto fnExactReducedOrderSpec)

/-- 'laws.FnExactFreeNumbersOf', WHERE WHAT IT READS IS OF BULK AT MOST 1048576: true; the input reads as it did. -/
def fnExactFreeNumbersOfUptoRow : OpenClaim := { program := "ytnnihdkhblbdgaagreat", sum := "2f11d3902e4deee82b3a602a4075ddc057173a4fea963f208d1805d72a78526f", func := "loop.example/g01100/laws.FnExactFreeNumbersOf", spec := "fnExactFreeNumbersOf", inPlace := ["internal/abi.NoEscape"], unfollowed := true, recurses := true, apart := false, narrowed := true }
def FnExactFreeNumbersOfUptoSaid : Prop := fnExactFreeNumbersOfUptoRow.holds Tryz.pinned (OpenSpec.upto fnExactFreeNumbersOfSpec)

end Rows
end Go.Proofs.YtnnihdkhblbdgaaGreat
