/-
  What the operations on two numbers answer, the program's and the model's alike: a number beside a code.
-/
import Derived.Test.YtcjomceaiokciaaDoorTests
namespace Go.Proofs.YtcjomceaiokciaaDoor
open Go.RowKit Fld
set_option linter.unusedVariables false
set_option linter.unusedSimpArgs false
set_option maxRecDepth 100000

end Go.Proofs.YtcjomceaiokciaaDoor
