/-
  What the small functions on numbers answer, the program's and the model's: remainders, sums, products, powers, inverses.
-/
import Derived.Test.YtpmfpgfgkeejnaaBase
import Derived.Test.YtpmfpgfgkeejnaaField
import Derived.IntWalk
namespace Go.Proofs.Ytpmfpgfgkeejnaa
open Go.RowKit Fld
set_option linter.unusedVariables false
set_option linter.unusedSimpArgs false
set_option maxRecDepth 100000

theorem tmod_fix (n : Int) : (n.tmod 10007 + 10007) % 10007 = n % 10007 := by
  rw [Int.tmod_eq_emod]; split <;> omega
theorem tmod_bd (n : Int) : -10006 ≤ n.tmod 10007 ∧ n.tmod 10007 ≤ 10006 := by
  rw [Int.tmod_eq_emod]; split <;> omega

end Go.Proofs.Ytpmfpgfgkeejnaa
