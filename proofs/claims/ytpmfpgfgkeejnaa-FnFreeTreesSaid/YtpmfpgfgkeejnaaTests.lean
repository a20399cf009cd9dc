/-
  What the tests on numbers answer, of one number, two numbers and lists, the program's and the model's.
-/
import Derived.Test.YtpmfpgfgkeejnaaNum
namespace Go.Proofs.Ytpmfpgfgkeejnaa
open Go.RowKit Fld
set_option linter.unusedVariables false
set_option linter.unusedSimpArgs false
set_option maxRecDepth 100000

theorem l01In_any (n l h : Int) (w : World) : Calls Try.prog 18 #[.int .i64 n, .int .i64 l, .int .i64 h] w fun e w' => e = .returned (.bool (isIn n l h)) ∧ w = w' := by
  by_cases h0 : l ≤ n
  · by_cases h1 : n ≤ h
    · have H := Lib.hid (isIn_yes h0 h1)
      go_enter Try.func18, Try.ntmps18
      go_wp2
      go_ret
      exact ⟨ret_bool H.out.symm, rfl⟩
    · have H := Lib.hid (isIn_no (l := l) (.inr (Int.not_le.1 h1)))
      go_enter Try.func18, Try.ntmps18
      go_wp2
      go_ret
      exact ⟨ret_bool H.out.symm, rfl⟩
  · have H := Lib.hid (isIn_no (h := h) (.inl (Int.not_le.1 h0)))
    go_enter Try.func18, Try.ntmps18
    go_wp2
    go_ret
    exact ⟨ret_bool H.out.symm, rfl⟩
end Go.Proofs.Ytpmfpgfgkeejnaa
