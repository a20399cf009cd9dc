/-
  The model's branches and symmetries; what SymmetryOf answers.
-/
import Derived.Test.YtplpcodknidgpaaSym
import Derived.Test.YtplpcodknidgpaaSame
namespace Go.Proofs.Ytplpcodknidgpaa
open Go.RowKit Fld
set_option linter.unusedVariables false
set_option linter.unusedSimpArgs false
set_option maxRecDepth 100000

end Go.Proofs.Ytplpcodknidgpaa
