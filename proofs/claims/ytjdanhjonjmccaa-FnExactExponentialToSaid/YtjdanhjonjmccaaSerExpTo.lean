/-
  What the exponential of the variable is, the program's and the model's alike.
-/
import Derived.Test.YtjdanhjonjmccaaArr3
import Derived.Test.YtjdanhjonjmccaaSerU
import Derived.Test.YtjdanhjonjmccaaSerTest
namespace Go.Proofs.Ytjdanhjonjmccaa
open Go.RowKit Fld Ser
set_option linter.unusedVariables false
set_option linter.unusedSimpArgs false

theorem pwr_vr : ∀ n k, pwr vr n k = if n = k then 1 else 0 := fun n => by
  induction n with
  | zero => intro k; show one k = _; unfold one; by_cases e : k = 0 <;> simp [e] <;> omega
  | succ n ih =>
    intro k
    show sm (k + 1) (fun i => pwr vr n i * vr (k - i)) = _
    by_cases e : n + 1 = k
    · rw [if_pos e, sm_one (k := n) (by omega) (fun i hi hne => by rw [ih, if_neg (by omega)]; omega), ih, if_pos rfl]
      show 1 * vr (k - n) = 1
      unfold vr; rw [if_pos (by omega)]; rfl
    · rw [if_neg e]
      refine sm_zero (fun i hi => ?_)
      rw [ih]
      by_cases e2 : n = i
      · unfold vr; rw [if_neg (show ¬ (k - i = 1) by omega)]; omega
      · rw [if_neg e2]; omega
theorem cmp_vr_right (a : Nat → Int) : cmp a vr = a := funext fun k => by
  show sm (k + 1) (fun n => a n * pwr vr n k) = a k
  rw [sm_one (k := k) (by omega) (fun i hi hne => by rw [pwr_vr, if_neg hne]; omega), pwr_vr, if_pos rfl]; omega
def expToA (y : Int) : List Int × Int := if isIn y 0 15 = true then (cl (y.toNat + 1) ex, 0) else ([], 2)
theorem expToA_no {y : Int} (h : isIn y 0 15 = false) : expToA y = ([], 2) := if_neg (by rw [h]; simp)
theorem expToA_yes {y : Int} {m : Nat} (h : isIn y 0 15 = true) (hm : y = m) : expToA y = (cl (m + 1) ex, 0) := by
  subst hm; exact if_pos h
set_option maxHeartbeats 1000000 in
theorem sExponentialTo_L (y : Int) (w : World) (hy : -9223372036854775808 ≤ y ∧ y ≤ 9223372036854775807) : Calls Try.prog 47 #[.int .i64 y] w (ResL (expToA y) w) := by
  cases hs : isIn y 0 15
  · have H := Lib.hid (expToA_no hs)
    go_enter Try.func47, Try.ntmps47
    go_wp2_with (go_at_call 82; refine (l01In_any _ _ _ _).mono ?_; rintro e w' ⟨rfl, rfl⟩)
    go_ret2
    exact ResL.nil H.out (Below.refl _ _)
  · obtain ⟨y0, y1⟩ := isIn_iff.1 hs
    obtain ⟨m, rfl⟩ : ∃ m : Nat, y = m := ⟨y.toNat, by omega⟩
    have H := Lib.hid (expToA_yes hs rfl)
    have h0 : co (cl (m + 1) (dl 1)) 0 = 0 := by rw [co_cl _ (by omega)]; rfl
    have HE : Hid (cl (m + 1) (xp (co (cl (m + 1) (dl 1)))) = cl (m + 1) ex) := by
      refine cl_cg ((Cg.cmp (Cg.refl _ _) (co_cg (m + 1) (dl 1))).trans (Cg.of_eq ?_))
      show cmp ex vr = ex
      exact cmp_vr_right ex
    go_enter Try.func47, Try.ntmps47
    go_wp2_with (go_at_call 82; refine (l01In_any _ _ _ _).mono ?_; rintro e w' ⟨rfl, rfl⟩)
    go_wp2_with fail
    refine (l02Unit_any (m + 1) 1 _ (by omega) (by omega)).mono ?_
    rintro e w1 ⟨A1, c1, rfl, o1, b1⟩
    have r1 := row_of_own o1
    have B1 := Lib.hid b1
    clear o1 b1
    go_wp2_with fail
    refine (l02Exp_any A1 (m + 1) c1 _ (cl (m + 1) (dl 1)) _ (cl_length _ _) (by omega) (cl_num _ _) h0 (Nat.le_refl _) r1).mono ?_
    rintro e w2 hN
    rw [HE.out] at hN
    have N := Lib.hid (NewRow.after B1.out hN)
    obtain ⟨A5, c5, rfl, _, _⟩ := hN
    go_wp2
    go_ret2
    obtain ⟨A6, c6, e6, own6, b6⟩ := N.out
    cases e6
    exact ResL.of H.out (cl_length _ _) (by omega) own6 b6
set_option maxHeartbeats 1000000 in
theorem pExponentialTo_L (y : Int) (w : World) (hy : -9223372036854775808 ≤ y ∧ y ≤ 9223372036854775807) : Calls Try.prog 48 #[.int .i64 y] w (ResL (expToA y) w) := by
  by_cases y0 : 0 ≤ y
  · by_cases y1 : y ≤ 15
    · obtain ⟨m, rfl⟩ : ∃ m : Nat, y = m := ⟨y.toNat, by omega⟩
      have H := Lib.hid (expToA_yes (isIn_yes y0 y1) rfl)
      have HE : Hid (cl (m + 1) (co (cl 16 ex)) = cl (m + 1) ex) := cl_cg ((co_cg 16 ex).less (by omega))
      go_enter Try.func48, Try.ntmps48
      go_wp2_with fail
      refine (exponential_any _).mono ?_
      rintro e w1 ⟨rfl, b1⟩
      have B1 := Lib.hid b1
      clear b1
      go_wp2_with fail
      refine (listS_any ex (m + 1) _ (by omega)).mono ?_
      rintro e w2 hN
      have N := Lib.hid (NewRow.after B1.out hN)
      obtain ⟨A5, c5, rfl, _, _⟩ := hN
      go_wp2
      go_ret2
      obtain ⟨A6, c6, e6, own6, b6⟩ := N.out
      cases e6
      exact ResL.of H.out (cl_length _ _) (by omega) own6 b6
    · have H := Lib.hid (expToA_no (isIn_no (l := 0) (.inr (Int.not_le.1 y1))))
      have t1 : 16 ≤ y := by omega
      go_enter Try.func48, Try.ntmps48
      go_wp2
      go_ret2
      exact ResL.nil H.out (Below.refl _ _)
  · have H := Lib.hid (expToA_no (isIn_no (h := 15) (.inl (Int.not_le.1 y0))))
    have t1 : y < 0 := by omega
    go_enter Try.func48, Try.ntmps48
    go_wp2
    go_ret2
    exact ResL.nil H.out (Below.refl _ _)
end Go.Proofs.Ytjdanhjonjmccaa
