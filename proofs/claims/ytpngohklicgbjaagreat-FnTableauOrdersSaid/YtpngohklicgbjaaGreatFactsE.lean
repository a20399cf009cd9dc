/-
  The program may be entered.
-/
import Derived.Test.YtpngohklicgbjaaGreatBase
namespace Go.Proofs.YtpngohklicgbjaaGreat.Facts
open Go Go.ChangeShapes Go.WideShapes Go.ChangeAt Go.RowKit
theorem k24 : (Tryz.prog.mayEnter) = true := by kernel_rfl
end Go.Proofs.YtpngohklicgbjaaGreat.Facts
