/-
  A result beside a code, handed back.
-/
import Derived.Test.YtfllcdcgfpjabaaRes1
namespace Go.Proofs.Ytfllcdcgfpjabaa
open Go.RowKit Fld
set_option linter.unusedVariables false

theorem ResI.of' {r : Int × Int} {w w' : World} {x k : Int} (h : r = (x, k)) (hb : Below w.heap.size w w') : ResI r w (.returned (.tuple #[.int .i64 x, .int .i64 k])) w' := by
  subst h; exact ⟨rfl, hb⟩
end Go.Proofs.Ytfllcdcgfpjabaa
