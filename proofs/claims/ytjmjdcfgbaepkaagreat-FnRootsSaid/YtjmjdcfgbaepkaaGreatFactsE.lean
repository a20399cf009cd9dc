/-
  The program may be entered.
-/
import Derived.Test.YtjmjdcfgbaepkaaGreatBase
namespace Go.Proofs.YtjmjdcfgbaepkaaGreat.Facts
open Go Go.ChangeShapes Go.WideShapes Go.ChangeAt Go.RowKit
theorem k24 : (Tryz.prog.mayEnter) = true := by kernel_rfl
end Go.Proofs.YtjmjdcfgbaepkaaGreat.Facts
