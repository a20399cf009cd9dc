/-
  The program may be entered.
-/
import Derived.Test.YtchimobmkmgkmaaBase
namespace Go.Proofs.Ytchimobmkmgkmaa.Facts
open Go Go.ChangeShapes Go.WideShapes Go.ChangeAt Go.RowKit
theorem k24 : (Try.prog.mayEnter) = true := by kernel_rfl
end Go.Proofs.Ytchimobmkmgkmaa.Facts
