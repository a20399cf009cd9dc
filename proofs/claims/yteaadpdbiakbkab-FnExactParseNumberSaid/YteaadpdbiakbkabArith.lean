/-
  What the operations on two numbers answer, the program's and the model's alike: a number beside a code.
-/
import Derived.Test.YteaadpdbiakbkabTests
namespace Go.Proofs.Yteaadpdbiakbkab
open Go.RowKit Fld
set_option linter.unusedVariables false
set_option linter.unusedSimpArgs false

end Go.Proofs.Yteaadpdbiakbkab
