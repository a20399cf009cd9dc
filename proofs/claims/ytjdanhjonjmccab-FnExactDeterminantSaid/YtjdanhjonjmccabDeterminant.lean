/-
  PROVED: for every list of lists the law FnExactDeterminant returns true: Determinant answers as its model and leaves its list alone.
  CONDITIONS: none; every argument that the types hold.
-/
import Derived.Test.YtjdanhjonjmccabSysOf
import Derived.Test.YtjdanhjonjmccabFFnExactDeterminant
namespace Go.Proofs.Ytjdanhjonjmccab.fnExactDeterminant
open Go.ChangeShapes Go.WideShapes Go.ChangeAt Go.RowKit Fld
set_option linter.unusedVariables false

theorem resI_at {r : Int × Int} {w w' : World} {e : Ending} {a k : Int} (h : ResI r w e w') (hr : r = (a, k)) : e = .returned (.tuple #[.int .i64 a, .int .i64 k]) ∧ Below w.heap.size w w' := by
  subst hr; exact h
set_option maxRecDepth 100000 in
set_option maxHeartbeats 4000000 in
theorem walk (w : World) (a0 : Option Addr) (len0 cap0 : Nat) (z0 : List (List Int)) (w0 : IsMat w a0 len0 cap0 z0) : Calls Try.prog 7 #[.slice a0 len0 cap0] w fun e w' => e = .returned (.bool true) ∧ Below w.heap.size w w' := by
  obtain ⟨hl0, hlc0, hcm0, mat0, _⟩ := w0
  have HL0 := Lib.hid hl0
  clear hl0
  unfold maxLen at hcm0
  by_cases hf0 : len0 + total z0 ≤ 1048576
  · have S0 := Lib.hid (szR_pos (left := 1048576) (used := len0 + total z0) (by omega))
    obtain ⟨a, k, hr⟩ : ∃ a k, detA z0 = (a, k) := ⟨_, _, rfl⟩
    have HR := Lib.hid hr
    have ta : (a != a) = false := bne_f rfl
    have tk : (k != k) = false := bne_f rfl
    clear hr
    go_enter Try.func7, Try.ntmps7
    go_wp2_with fail
    refine (szInt64SS_any _ len0 _ _ z0 _ _ HL0.out (by omega) mat0 (by omega) (by omega)).mono ?_
    rintro e w' ⟨rfl, rfl⟩
    rw [S0.out]
    go_wp2_with fail
    refine (toInt64SS_any _ len0 _ w.heap.size z0 _ HL0.out (by omega) (by omega) (Nat.le_refl _) (by exact mat0)).mono ?_
    rintro e u1 ⟨AC, cC, vsC, rfl, oC, be1⟩
    have b1 : Below w.heap.size w u1 := ⟨be1.os, be1.tape, be1.output, be1.size, be1.block⟩
    have HC := Lib.hid oC
    clear oC be1
    go_wp2_with fail
    refine (sDeterminant_any _ len0 _ u1.heap.size z0 _ HL0.out (by omega) (Nat.le_refl _) (by exact HC.out.mat)).mono ?_
    rintro e u2 hN
    obtain ⟨rfl, y⟩ := resI_at hN HR.out
    have b2 := b1.trans (y.mono b1.size)
    clear HC y b1
    go_wp2_with fail
    refine (toInt64SS_any _ len0 _ w.heap.size z0 _ HL0.out (by omega) (by omega) (by exact b2.size) (by exact mat0.below b2 (Nat.le_refl _))).mono ?_
    rintro e u3 ⟨AX, cX, vsX, rfl, oX, y⟩
    have b3 : Below w.heap.size w u3 := b2.trans ((show Below u2.heap.size u2 u3 from ⟨y.os, y.tape, y.output, y.size, y.block⟩).mono b2.size)
    have HX := Lib.hid oX
    clear oX y b2
    go_wp2_with fail
    refine (pDeterminant_any _ len0 _ u3.heap.size z0 _ HL0.out (by omega) (Nat.le_refl _) (by exact HX.out.mat)).mono ?_
    rintro e u4 hN
    obtain ⟨rfl, y⟩ := resI_at hN HR.out
    have b4 := b3.trans (y.mono b3.size)
    have z4 := y.size
    have HX4 := Lib.hid ((HX.out.mat).below y (Nat.le_refl _))
    clear HX y b3
    go_wp2_with fail
    refine (toInt64SS_any _ len0 _ w.heap.size z0 _ HL0.out (by omega) (by omega) (by exact b4.size) (by exact mat0.below b4 (Nat.le_refl _))).mono ?_
    rintro e u5 ⟨AD, cD, vsD, rfl, oD, y⟩
    have y5 : Below u4.heap.size u4 u5 := ⟨y.os, y.tape, y.output, y.size, y.block⟩
    have b5 : Below w.heap.size w u5 := b4.trans (y5.mono b4.size)
    have HD := Lib.hid oD
    have z34 : u3.heap.size ≤ u4.heap.size := z4
    have HX5 := Lib.hid (HX4.out.below y5 z34)
    clear oD y b4 y5 HX4
    go_wp2_with fail
    refine (eqInt64SS_any _ _ len0 len0 _ _ _ _ z0 z0 _ HL0.out HL0.out (by omega) (by omega) (by exact HX5.out) (by exact HD.out.mat)).mono ?_
    rintro e v ⟨rfl, j, rfl⟩
    rw [eqM_self]
    go_wp2
    go_ret
    exact ⟨rfl, below_drewN b5 _⟩
  · have S0 := Lib.hid (szR_neg (left := 1048576) (used := len0 + total z0) (by omega))
    go_enter Try.func7, Try.ntmps7
    go_wp2_with fail
    refine (szInt64SS_any _ len0 _ _ z0 _ _ HL0.out (by omega) mat0 (by omega) (by omega)).mono ?_
    rintro e w' ⟨rfl, rfl⟩
    rw [S0.out]
    go_wp2
    go_ret
    exact ⟨rfl, Below.refl _ _⟩
/-- the statement -/
theorem holds : Rows.FnExactDeterminantSaid := of_walk walk
end Go.Proofs.Ytjdanhjonjmccab.fnExactDeterminant
