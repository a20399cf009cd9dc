/-
  PROVED: for every list the law FnExactSumOf returns true: SumOf answers as its model and leaves its list alone.
  CONDITIONS: none; every argument that the types hold.
-/
import Derived.Test.YteaadpdbiakbkabSlices
import Derived.Test.YteaadpdbiakbkabFFnExactSumOf
namespace Go.Proofs.Yteaadpdbiakbkab.fnExactSumOf
open Go.ChangeShapes Go.WideShapes Go.ChangeAt Go.RowKit Fld
set_option linter.unusedVariables false

set_option maxHeartbeats 400000 in
theorem walk (w : World) (a0 : Option Addr) (len0 cap0 : Nat) (z0 : List Int) (w0 : IsRow .i64 w a0 len0 cap0 z0) : Calls Try.prog 6 #[.slice a0 len0 cap0] w fun e w' => e = .returned (.bool true) ∧ Below w.heap.size w w' := by
  obtain ⟨hl, hlc, hcm, hrow, _⟩ := w0
  have HL := Lib.hid hl
  clear hl
  by_cases hb : len0 ≤ 1048576
  · go_enter Try.func6, Try.ntmps6
    go_wp2_with fail
    refine (toInt64S_any _ len0 _ w.heap.size z0 _ HL.out hb (Nat.le_refl _) hrow).mono ?_
    rintro e w1 ⟨A1, c1, rfl, own1, bel1⟩
    have r1 := row_of_own own1
    go_wp2_with fail
    refine (sSumOf_any _ len0 _ _ z0 _ HL.out (by omega) r1).mono ?_
    rintro e w' ⟨rfl, rfl⟩
    go_wp2_with fail
    refine (toInt64S_any _ len0 _ w.heap.size z0 _ HL.out hb bel1.size (hrow.below bel1 (Nat.le_refl _))).mono ?_
    rintro e w2 ⟨A2, c2, rfl, own2, bel2⟩
    have r2 := row_of_own own2
    have bel3 : Below w.heap.size w w2 := bel1.trans (bel2.mono bel1.size)
    go_wp2_with fail
    refine (sumOf_any _ len0 _ _ z0 _ HL.out (by omega) r2).mono ?_
    rintro e w' ⟨rfl, rfl⟩
    go_wp2_with fail
    refine (toInt64S_any _ len0 _ w.heap.size z0 _ HL.out hb bel3.size (hrow.below bel3 (Nat.le_refl _))).mono ?_
    rintro e w3 ⟨A3, c3, rfl, own3, bel4⟩
    have r3 := row_of_own own3
    have r2' := r2.below bel4 (Nat.le_refl _)
    have bel5 : Below w.heap.size w w3 := bel3.trans (bel4.mono bel3.size)
    go_wp2_with fail
    refine (eqInt64S_any _ _ len0 len0 _ _ _ _ z0 z0 _ HL.out HL.out (by omega) (by omega) r2' r3).mono ?_
    rintro e w' ⟨rfl, m, rfl⟩
    have t := eqL_self z0
    go_wp2
    go_ret
    exact ⟨rfl, below_drewN bel5 _⟩
  · unfold maxLen at hcm
    go_enter Try.func6, Try.ntmps6
    go_wp2
    go_ret
    exact ⟨rfl, Below.refl _ _⟩
/-- the statement -/
theorem holds : Rows.FnExactSumOfSaid := of_walk walk
end Go.Proofs.Yteaadpdbiakbkab.fnExactSumOf
