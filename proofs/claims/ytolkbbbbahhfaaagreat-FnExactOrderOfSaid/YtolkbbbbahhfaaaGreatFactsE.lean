/-
  The program may be entered.
-/
import Derived.Test.YtolkbbbbahhfaaaGreatBase
namespace Go.Proofs.YtolkbbbbahhfaaaGreat.Facts
open Go Go.ChangeShapes Go.WideShapes Go.ChangeAt Go.RowKit
theorem k24 : (Tryz.prog.mayEnter) = true := by kernel_rfl
end Go.Proofs.YtolkbbbbahhfaaaGreat.Facts
