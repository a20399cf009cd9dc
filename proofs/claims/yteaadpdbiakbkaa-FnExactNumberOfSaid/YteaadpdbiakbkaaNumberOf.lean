/-
  PROVED: for every two integers the law FnExactNumberOf returns true: NumberOf answers as its model.
  CONDITIONS: none; every argument that the types hold.
-/
import Derived.Test.YteaadpdbiakbkaaPower
import Derived.Test.YteaadpdbiakbkaaFFnExactNumberOf
namespace Go.Proofs.Yteaadpdbiakbkaa.fnExactNumberOf
open Go.ChangeShapes Go.WideShapes Go.ChangeAt Go.RowKit Fld
set_option linter.unusedVariables false

theorem walk (w : World) (a0 : Int) (w0 : (Lit.int .i64 a0).wf = true) (a1 : Int) (w1 : (Lit.int .i64 a1).wf = true) : Calls Try.prog 8 #[.int .i64 a0, .int .i64 a1] w fun e w' => e = .returned (.bool true) ∧ Below w.heap.size w w' := by
  go_enter Try.func8, Try.ntmps8
  go_wp2_with (first | (go_at_call 44; refine (sNumberOf_any _ _ _).mono ?_; rintro e w' ⟨rfl, rfl⟩) | (go_at_call 45; refine (numberOf_any _ _ _).mono ?_; rintro e w' ⟨rfl, rfl⟩))
  go_ret
  exact ⟨rfl, Below.refl _ _⟩
/-- the statement -/
theorem holds : Rows.FnExactNumberOfSaid := of_walk walk
end Go.Proofs.Yteaadpdbiakbkaa.fnExactNumberOf
