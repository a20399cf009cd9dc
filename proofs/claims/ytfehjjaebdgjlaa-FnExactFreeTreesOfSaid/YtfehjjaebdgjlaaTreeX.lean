/-
  Trees: the model's test and its canonical lists, beside the program's.
-/
import Derived.Test.YtfehjjaebdgjlaaCan
import Derived.Test.YtfehjjaebdgjlaaSCan
namespace Go.Proofs.Ytfehjjaebdgjlaa
open Go.RowKit Fld
set_option linter.unusedVariables false
set_option linter.unusedSimpArgs false
set_option maxRecDepth 100000

end Go.Proofs.Ytfehjjaebdgjlaa
