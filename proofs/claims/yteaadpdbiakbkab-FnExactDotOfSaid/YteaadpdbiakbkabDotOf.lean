/-
  PROVED: for every two lists the law FnExactDotOf returns true: DotOf answers as its model and leaves its lists alone.
  CONDITIONS: none; every argument that the types hold.
-/
import Derived.Test.YteaadpdbiakbkabDot
import Derived.Test.YteaadpdbiakbkabFFnExactDotOf
namespace Go.Proofs.Yteaadpdbiakbkab.fnExactDotOf
open Go.ChangeShapes Go.WideShapes Go.ChangeAt Go.RowKit Fld
set_option linter.unusedVariables false

set_option maxHeartbeats 800000 in
theorem walk (w : World) (a0 : Option Addr) (len0 cap0 : Nat) (z0 : List Int) (w0 : IsRow .i64 w a0 len0 cap0 z0) (a1 : Option Addr) (len1 cap1 : Nat) (z1 : List Int) (w1 : IsRow .i64 w a1 len1 cap1 z1) : Calls Try.prog 7 #[.slice a0 len0 cap0, .slice a1 len1 cap1] w fun e w' => e = .returned (.bool true) ∧ Below w.heap.size w w' := by
  obtain ⟨hl0, hlc0, hcm0, row0, _⟩ := w0
  obtain ⟨hl1, hlc1, hcm1, row1, _⟩ := w1
  have HL0 := Lib.hid hl0
  have HL1 := Lib.hid hl1
  clear hl0 hl1
  unfold maxLen at hcm0 hcm1
  have b0 : Below w.heap.size w w := Below.refl _ _
  by_cases hb0 : len0 ≤ 1048576
  · by_cases hb1 : len1 ≤ 1048576
    · go_enter Try.func7, Try.ntmps7
      go_wp2_with fail
      refine (toInt64S_any _ len0 _ w.heap.size z0 _ HL0.out hb0 b0.size (row0.below b0 (Nat.le_refl _))).mono ?_
      rintro e u1 ⟨A1, c1, rfl, own1, be1⟩
      have r1 := row_of_own own1
      have b1 : Below w.heap.size w u1 := b0.trans (be1.mono b0.size)
      go_wp2_with fail
      refine (toInt64S_any _ len1 _ w.heap.size z1 _ HL1.out hb1 b1.size (row1.below b1 (Nat.le_refl _))).mono ?_
      rintro e u2 ⟨A2, c2, rfl, own2, be2⟩
      have r2 := row_of_own own2
      have b2 : Below w.heap.size w u2 := b1.trans (be2.mono b1.size)
      have q1 := r1.below be2 (Nat.le_refl _)
      go_wp2_with fail
      refine (sDotOf_any _ _ len0 len1 _ _ _ _ z0 z1 _ HL0.out HL1.out hb0 hb1 be2.size (Nat.le_refl _) q1 r2).mono ?_
      rintro e u3 ⟨rfl, be3⟩
      have b3 : Below w.heap.size w u3 := b2.trans (be3.mono b2.size)
      go_wp2_with fail
      refine (toInt64S_any _ len0 _ w.heap.size z0 _ HL0.out hb0 b3.size (row0.below b3 (Nat.le_refl _))).mono ?_
      rintro e u4 ⟨A4, c4, rfl, own4, be4⟩
      have r4 := row_of_own own4
      have b4 : Below w.heap.size w u4 := b3.trans (be4.mono b3.size)
      go_wp2_with fail
      refine (toInt64S_any _ len1 _ w.heap.size z1 _ HL1.out hb1 b4.size (row1.below b4 (Nat.le_refl _))).mono ?_
      rintro e u5 ⟨A5, c5, rfl, own5, be5⟩
      have r5 := row_of_own own5
      have b5 : Below w.heap.size w u5 := b4.trans (be5.mono b4.size)
      have q4 := r4.below be5 (Nat.le_refl _)
      go_wp2_with fail
      refine (dotOf_any' _ _ len0 len1 _ _ _ _ z0 z1 _ HL0.out HL1.out hb0 hb1 be5.size (Nat.le_refl _) q4 r5).mono ?_
      rintro e u6 ⟨rfl, be6⟩
      have b6 : Below w.heap.size w u6 := b5.trans (be6.mono b5.size)
      have q4' := q4.below be6 be5.size
      have q5 := r5.below be6 (Nat.le_refl _)
      go_wp2_with fail
      refine (toInt64S_any _ len0 _ w.heap.size z0 _ HL0.out hb0 b6.size (row0.below b6 (Nat.le_refl _))).mono ?_
      rintro e u7 ⟨A7, c7, rfl, own7, be7⟩
      have r7 := row_of_own own7
      have b7 : Below w.heap.size w u7 := b6.trans (be7.mono b6.size)
      have q4'' := q4'.below be7 (Nat.le_trans be5.size be6.size)
      have q5' := q5.below be7 be6.size
      have t0 := eqL_self z0
      have t1 := eqL_self z1
      go_wp2_with fail
      refine (eqInt64S_any _ _ len0 len0 _ _ _ _ z0 z0 _ HL0.out HL0.out (by omega) (by omega) q4'' r7).mono ?_
      rintro e u8 ⟨rfl, m8, rfl⟩
      have b8 : Below w.heap.size w (u7.drewN m8) := below_drewN b7 _
      have q5'' := q5'.drewN m8
      go_wp2_with fail
      refine (toInt64S_any _ len1 _ w.heap.size z1 _ HL1.out hb1 b8.size (row1.below b8 (Nat.le_refl _))).mono ?_
      rintro e u9 ⟨A9, c9, rfl, own9, be9⟩
      have r9 := row_of_own own9
      have b9 : Below w.heap.size w u9 := b8.trans (be9.mono b8.size)
      have q5s := q5''.below be9 (Nat.le_trans be6.size be7.size)
      go_wp2_with fail
      refine (eqInt64S_any _ _ len1 len1 _ _ _ _ z1 z1 _ HL1.out HL1.out (by omega) (by omega) q5s r9).mono ?_
      rintro e u10 ⟨rfl, m10, rfl⟩
      go_wp2
      go_ret
      exact ⟨rfl, below_drewN b9 _⟩
    · go_enter Try.func7, Try.ntmps7
      go_wp2
      go_ret
      exact ⟨rfl, Below.refl _ _⟩
  · go_enter Try.func7, Try.ntmps7
    go_wp2
    go_ret
    exact ⟨rfl, Below.refl _ _⟩
/-- the statement -/
theorem holds : Rows.FnExactDotOfSaid := of_walk walk
end Go.Proofs.Yteaadpdbiakbkab.fnExactDotOf
