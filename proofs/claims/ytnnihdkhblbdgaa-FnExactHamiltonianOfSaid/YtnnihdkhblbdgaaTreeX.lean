/-
  Trees: the model's test and its canonical lists, beside the program's.
-/
import Derived.Test.YtnnihdkhblbdgaaCan
import Derived.Test.YtnnihdkhblbdgaaSCan
namespace Go.Proofs.Ytnnihdkhblbdgaa
open Go.RowKit Fld
set_option linter.unusedVariables false
set_option linter.unusedSimpArgs false
set_option maxRecDepth 100000

end Go.Proofs.Ytnnihdkhblbdgaa
