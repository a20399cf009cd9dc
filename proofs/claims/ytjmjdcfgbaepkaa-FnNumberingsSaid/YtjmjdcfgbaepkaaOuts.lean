/-
  What contracts give, taken out for the walks of laws: a list or a number beside a code.
-/
import Derived.Test.YtjmjdcfgbaepkaaRes1
import Derived.Test.YtjmjdcfgbaepkaaLikeI
namespace Go.Proofs.Ytjmjdcfgbaepkaa
open Go.RowKit Fld
set_option linter.unusedVariables false
set_option linter.unusedSimpArgs false
set_option maxRecDepth 100000

theorem resL_out {a : List Int} {k : Int} {r : List Int × Int} {w w' : World} {e : Ending} (h : ResL r w e w') (hr : r = (a, k)) : ∃ A c, e = .returned (.tuple #[.slice A a.length c, .int .i64 k]) ∧ Lst w' A a ∧ a.length ≤ c ∧ Below w.heap.size w w' := by
  subst hr
  obtain ⟨_, A, c, rfl, o1, hb⟩ := h
  exact ⟨A, c, rfl, row_of_own o1, (own_cap o1).1, hb⟩
theorem resI_out {x k : Int} {r : Int × Int} {w w' : World} {e : Ending} (h : ResI r w e w') (hr : r = (x, k)) : e = .returned (.tuple #[.int .i64 x, .int .i64 k]) ∧ Below w.heap.size w w' := by
  subst hr; exact h
end Go.Proofs.Ytjmjdcfgbaepkaa
