/-
  PROVED: for every text the law FnExactParseNumber returns true: ParseNumber answers as its model.
  CONDITIONS: none; every argument that the types hold.
-/
import Derived.Test.YteaadpdbiakbkabSOf
import Derived.Test.YteaadpdbiakbkabFFnExactParseNumber
namespace Go.Proofs.Yteaadpdbiakbkab.fnExactParseNumber
open Go.ChangeShapes Go.WideShapes Go.ChangeAt Go.RowKit Fld
set_option linter.unusedVariables false

theorem walk (w : World) (a0 : ByteArray) (w0 : a0.size ≤ maxLen) : Calls Try.prog 5 #[.string a0] w fun e w' => e = .returned (.bool true) ∧ Below w.heap.size w w' := by
  by_cases hm : a0.size ≤ 1048576
  · go_enter Try.func5, Try.ntmps5
    go_wp2_with (first | (go_at_call 16; refine (sParseNumber_any _ _ hm).mono ?_; rintro e w' ⟨rfl, bel1⟩) | (go_at_call 17; refine (parseNumber_any _ _ hm).mono ?_; rintro e w'2 ⟨rfl, bel2⟩))
    go_ret
    exact ⟨rfl, bel1.trans (bel2.mono bel1.size)⟩
  · go_enter Try.func5, Try.ntmps5
    go_wp2
    go_ret
    exact ⟨rfl, Below.refl _ _⟩
/-- the statement -/
theorem holds : Rows.FnExactParseNumberSaid := of_walk walk
end Go.Proofs.Yteaadpdbiakbkab.fnExactParseNumber
