/-
  PROVED: for every two integers the law FnExactDivideNumbers returns true: DivideNumbers answers as its model.
  CONDITIONS: none; every argument that the types hold.
-/
import Derived.Test.YteaadpdbiakbkaaPower
import Derived.Test.YteaadpdbiakbkaaFFnExactDivideNumbers
namespace Go.Proofs.Yteaadpdbiakbkaa.fnExactDivideNumbers
open Go.ChangeShapes Go.WideShapes Go.ChangeAt Go.RowKit Fld
set_option linter.unusedVariables false

theorem walk (w : World) (a0 : Int) (w0 : (Lit.int .i64 a0).wf = true) (a1 : Int) (w1 : (Lit.int .i64 a1).wf = true) : Calls Try.prog 12 #[.int .i64 a0, .int .i64 a1] w fun e w' => e = .returned (.bool true) ∧ Below w.heap.size w w' := by
  go_enter Try.func12, Try.ntmps12
  go_wp2_with (first | (go_at_call 17; refine (sDivideNumbers_any _ _ _).mono ?_; rintro e w' ⟨rfl, rfl⟩) | (go_at_call 16; refine (divideNumbers_any _ _ _).mono ?_; rintro e w' ⟨rfl, hb⟩))
  go_ret
  exact ⟨rfl, hb⟩
/-- the statement -/
theorem holds : Rows.FnExactDivideNumbersSaid := of_walk walk
end Go.Proofs.Yteaadpdbiakbkaa.fnExactDivideNumbers
