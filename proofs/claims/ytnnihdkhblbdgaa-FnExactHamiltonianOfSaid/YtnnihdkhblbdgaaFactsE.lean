/-
  The program may be entered.
-/
import Derived.Test.YtnnihdkhblbdgaaBase
namespace Go.Proofs.Ytnnihdkhblbdgaa.Facts
open Go Go.ChangeShapes Go.WideShapes Go.ChangeAt Go.RowKit
theorem k24 : (Try.prog.mayEnter) = true := by kernel_rfl
end Go.Proofs.Ytnnihdkhblbdgaa.Facts
