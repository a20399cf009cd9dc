/-
  What the program lifts, and its make.
-/
import Derived.Test.YtnnihdkhblbdgaaGreatBase
namespace Go.Proofs.YtnnihdkhblbdgaaGreat.Facts
open Go Go.ChangeShapes Go.WideShapes Go.ChangeAt Go.RowKit
theorem klf : (Tryz.prog.liftsFinal == false) = true := by kernel_rfl
theorem kmk : (Tryz.prog.make == some .cut) = true := by kernel_rfl
end Go.Proofs.YtnnihdkhblbdgaaGreat.Facts
