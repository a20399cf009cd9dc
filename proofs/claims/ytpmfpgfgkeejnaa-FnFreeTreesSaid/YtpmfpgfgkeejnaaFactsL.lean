/-
  What the program lifts, and its make.
-/
import Derived.Test.YtpmfpgfgkeejnaaBase
namespace Go.Proofs.Ytpmfpgfgkeejnaa.Facts
open Go Go.ChangeShapes Go.WideShapes Go.ChangeAt Go.RowKit
theorem klf : (Try.prog.liftsFinal == false) = true := by kernel_rfl
theorem kmk : (Try.prog.make == some .cut) = true := by kernel_rfl
end Go.Proofs.Ytpmfpgfgkeejnaa.Facts
