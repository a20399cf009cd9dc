/-
  The numbers of a matrix by row and column, and its determinant, plainly.
-/
import Derived.Test.YtnnihdkhblbdgaaDet
import Derived.Test.YtnnihdkhblbdgaaMat
namespace Go.Proofs.Ytnnihdkhblbdgaa
open Go.RowKit Fld
open Det (det sm sgn sk)
set_option linter.unusedVariables false

/-- the number in the row i and the column j -/
def ent (m : List (List Int)) (i j : Nat) : Int := (m.getD i []).getD j 0
theorem ent_at {m : List (List Int)} {i j : Nat} {r : List Int} {x : Int} (h : m[i]? = some r) (hx : r[j]? = some x) : ent m i j = x := by
  unfold ent; rw [getD_of h, List.getD_eq_getElem?_getD, hx]; rfl
/-- the determinant, as a number of the field -/
def detL (m : List (List Int)) : Int := det m.length (ent m) % 10007
theorem detL_lo (m : List (List Int)) : 0 ≤ detL m := Int.emod_nonneg _ (by omega)
theorem detL_hi (m : List (List Int)) : detL m < 10007 := Int.emod_lt_of_pos _ (by omega)
end Go.Proofs.Ytnnihdkhblbdgaa
