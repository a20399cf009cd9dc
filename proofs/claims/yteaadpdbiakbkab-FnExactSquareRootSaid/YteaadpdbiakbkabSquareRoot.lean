/-
  PROVED: for every integer the law FnExactSquareRoot returns true: SquareRoot answers as its model.
  CONDITIONS: none; every argument that the types hold.
-/
import Derived.Test.YteaadpdbiakbkabRoots
import Derived.Test.YteaadpdbiakbkabFFnExactSquareRoot
namespace Go.Proofs.Yteaadpdbiakbkab.fnExactSquareRoot
open Go.ChangeShapes Go.WideShapes Go.ChangeAt Go.RowKit Fld
set_option linter.unusedVariables false

theorem walk (w : World) (a0 : Int) (w0 : (Lit.int .i64 a0).wf = true) : Calls Try.prog 3 #[.int .i64 a0] w fun e w' => e = .returned (.bool true) ∧ Below w.heap.size w w' := by
  go_enter Try.func3, Try.ntmps3
  go_wp2_with fail
  refine (sSquareRoot_any _ _).mono ?_
  rintro e w' ⟨v, c, rfl, hv, rfl⟩
  have HV := Lib.hid hv
  clear hv
  go_wp2_with fail
  refine (squareRoot_any _ _).mono ?_
  rintro e w' ⟨v', c', rfl, hv', rfl⟩
  obtain ⟨rfl, rfl⟩ := HV.out.uniq hv'
  clear hv' HV
  go_wp2
  go_ret
  exact ⟨rfl, Below.refl _ _⟩
/-- the statement -/
theorem holds : Rows.FnExactSquareRootSaid := of_walk walk
end Go.Proofs.Yteaadpdbiakbkab.fnExactSquareRoot
