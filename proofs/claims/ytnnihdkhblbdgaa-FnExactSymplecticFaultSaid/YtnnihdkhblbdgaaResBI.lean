/-
  A test beside a code.
-/
import Derived.Test.YtnnihdkhblbdgaaRes1
namespace Go.Proofs.Ytnnihdkhblbdgaa
open Go.RowKit Fld
set_option linter.unusedVariables false
set_option linter.unusedSimpArgs false
set_option maxRecDepth 100000

/-- a test beside a code -/
def ResBI (r : Bool × Int) (w : World) (e : Ending) (w' : World) : Prop := e = .returned (.tuple #[.bool r.1, .int .i64 r.2]) ∧ Below w.heap.size w w'
theorem ResBI.of {r : Bool × Int} {w w' : World} {b : Bool} {k : Int} (h : r = (b, k)) (hb : Below w.heap.size w w') : ResBI r w (.returned (.tuple #[.bool b, .int .i64 k])) w' := by
  subst h; exact ⟨rfl, hb⟩
end Go.Proofs.Ytnnihdkhblbdgaa
