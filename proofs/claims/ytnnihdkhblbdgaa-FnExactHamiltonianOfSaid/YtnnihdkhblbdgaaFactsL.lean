/-
  What the program lifts, and its make.
-/
import Derived.Test.YtnnihdkhblbdgaaBase
namespace Go.Proofs.Ytnnihdkhblbdgaa.Facts
open Go Go.ChangeShapes Go.WideShapes Go.ChangeAt Go.RowKit
theorem klf : (Try.prog.liftsFinal == false) = true := by kernel_rfl
theorem kmk : (Try.prog.make == some .cut) = true := by kernel_rfl
end Go.Proofs.Ytnnihdkhblbdgaa.Facts
