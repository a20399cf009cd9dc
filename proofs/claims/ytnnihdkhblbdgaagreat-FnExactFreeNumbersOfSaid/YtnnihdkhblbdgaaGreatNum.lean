/-
  What the small functions on numbers answer, the program's and the model's: remainders, sums, products, powers, inverses.
-/
import Derived.Test.YtnnihdkhblbdgaaGreatBase
import Derived.Test.YtnnihdkhblbdgaaGreatField
import Derived.IntWalk
namespace Go.Proofs.YtnnihdkhblbdgaaGreat
open Go.RowKit Fld
set_option linter.unusedVariables false
set_option linter.unusedSimpArgs false
set_option maxRecDepth 100000

theorem tmod_fix (n : Int) : (n.tmod 10007 + 10007) % 10007 = n % 10007 := by
  rw [Int.tmod_eq_emod]; split <;> omega
theorem tmod_bd (n : Int) : -10006 ≤ n.tmod 10007 ∧ n.tmod 10007 ≤ 10006 := by
  rw [Int.tmod_eq_emod]; split <;> omega

theorem l01Mod_any (n : Int) (w : World) : Calls Tryz.prog 47 #[.int .i64 n] w fun e w' => e = .returned (.int .i64 (n % 10007)) ∧ w = w' := by
  have hb := tmod_bd n
  obtain ⟨hb1, hb2⟩ := hb
  go_enter Tryz.func47, Tryz.ntmps47
  go_wp2
  go_ret
  exact ⟨ret_i64 (tmod_fix n), rfl⟩
theorem reduced_any (n : Int) (w : World) : Calls Tryz.prog 53 #[.int .i64 n] w fun e w' => e = .returned (.int .i64 (n % 10007)) ∧ w = w' := by
  have hb := tmod_bd n
  obtain ⟨hb1, hb2⟩ := hb
  have he := tmod_fix n
  by_cases h : n.tmod 10007 < 0
  · have hr : n.tmod 10007 + 10007 = n % 10007 := by omega
    have H := Lib.hid hr
    clear he hr
    go_enter Tryz.func53, Tryz.ntmps53
    go_wp2
    go_ret
    exact ⟨ret_i64 H.out, rfl⟩
  · have hr : n.tmod 10007 = n % 10007 := by omega
    have H := Lib.hid hr
    clear he hr
    go_enter Tryz.func53, Tryz.ntmps53
    go_wp2
    go_ret
    exact ⟨ret_i64 H.out, rfl⟩
theorem l01Add_any (a b : Int) (w : World) (a0 : 0 ≤ a) (a1 : a < 10007) (b0 : 0 ≤ b) (b1 : b < 10007) : Calls Tryz.prog 41 #[.int .i64 a, .int .i64 b] w fun e w' => e = .returned (.int .i64 ((a + b) % 10007)) ∧ w = w' := by
  go_enter Tryz.func41, Tryz.ntmps41
  go_wp2_with (go_at_call 47; refine (l01Mod_any _ _).mono ?_; rintro e w' ⟨rfl, rfl⟩)
  go_ret
  exact ⟨rfl, rfl⟩
theorem l01Mul_any (a b : Int) (w : World) (a0 : 0 ≤ a) (a1 : a < 10007) (b0 : 0 ≤ b) (b1 : b < 10007) : Calls Tryz.prog 40 #[.int .i64 a, .int .i64 b] w fun e w' => e = .returned (.int .i64 (a * b % 10007)) ∧ w = w' := by
  obtain ⟨m0, m1⟩ := mul_bd a0 a1 b0 b1
  go_enter Tryz.func40, Tryz.ntmps40
  go_wp2_with (go_at_call 47; refine (l01Mod_any _ _).mono ?_; rintro e w' ⟨rfl, rfl⟩)
  go_ret
  exact ⟨rfl, rfl⟩
theorem plus_any (a b : Int) (w : World) (a0 : 0 ≤ a) (a1 : a < 10007) (b0 : 0 ≤ b) (b1 : b < 10007) : Calls Tryz.prog 68 #[.int .i64 a, .int .i64 b] w fun e w' => e = .returned (.int .i64 ((a + b) % 10007)) ∧ w = w' := by
  go_enter Tryz.func68, Tryz.ntmps68
  go_wp2_with (go_at_call 53; refine (reduced_any _ _).mono ?_; rintro e w' ⟨rfl, rfl⟩)
  go_ret
  exact ⟨rfl, rfl⟩
theorem times_any (a b : Int) (w : World) (a0 : 0 ≤ a) (a1 : a < 10007) (b0 : 0 ≤ b) (b1 : b < 10007) : Calls Tryz.prog 89 #[.int .i64 a, .int .i64 b] w fun e w' => e = .returned (.int .i64 (a * b % 10007)) ∧ w = w' := by
  obtain ⟨m0, m1⟩ := mul_bd a0 a1 b0 b1
  go_enter Tryz.func89, Tryz.ntmps89
  go_wp2_with (go_at_call 53; refine (reduced_any _ _).mono ?_; rintro e w' ⟨rfl, rfl⟩)
  go_ret
  exact ⟨rfl, rfl⟩
theorem power_any (a k : Int) (w : World) (a0 : 0 ≤ a) (a1 : a < 10007) (k0 : 0 ≤ k) (k1 : k ≤ 9223372036854775807) : Calls Tryz.prog 75 #[.int .i64 a, .int .i64 k] w fun e w' => e = .returned (.int .i64 (pw a k.toNat)) ∧ w = w' := by
  go_enter Tryz.func75, Tryz.ntmps75
  go_wp2_with fail
  go_loop [0, 1, 5] (fun u v o => ∃ x y p : Int, 0 ≤ x ∧ x < 10007 ∧ 0 ≤ y ∧ y ≤ 9223372036854775807 ∧ 0 ≤ p ∧ p < 10007 ∧ Hid (Eqm (p * x ^ y.toNat) (a ^ k.toNat)) ∧ u = .int .i64 x ∧ v = .int .i64 y ∧ o = .int .i64 p) (fun _ v _ => (intOf v).toNat)
  case atStart => exact ⟨a, k, 1, a0, a1, k0, k1, by omega, by omega, Eqm.of_eq (Int.one_mul _), rfl, rfl, rfl⟩
  case round =>
    obtain ⟨x, y, p, x0, x1, y0, y1, p0, p1, H, rfl, rfl, rfl⟩ := hrel
    by_cases hy : 0 < y
    · obtain ⟨m0, m1⟩ := mul_bd x0 x1 x0 x1
      obtain ⟨n0, n1⟩ := mul_bd p0 p1 x0 x1
      by_cases hodd : y % 2 = 1
      · have ho : ((y % 2) == 1) = true := beq_iff_eq.2 hodd
        have G := Lib.hid (pstep_odd x y p _ hy hodd H.out)
        clear hodd H
        go_wp2_with (go_at_call 89; refine (times_any _ _ _ (by omega) (by omega) (by omega) (by omega)).mono ?_; rintro e w' ⟨rfl, rfl⟩)
        go_round
        case rel => exact ⟨_, _, _, by omega, by omega, by omega, by omega, by omega, by omega, G, rfl, rfl, rfl⟩
        case measure => simp [intOf]; omega
      · have ho : ((y % 2) == 1) = false := beq_eq_false_iff_ne.2 hodd
        have G := Lib.hid (pstep_even x y p _ hy hodd H.out)
        clear hodd H
        go_wp2_with (go_at_call 89; refine (times_any _ _ _ (by omega) (by omega) (by omega) (by omega)).mono ?_; rintro e w' ⟨rfl, rfl⟩)
        go_round
        case rel => exact ⟨_, _, _, by omega, by omega, by omega, by omega, by omega, by omega, G, rfl, rfl, rfl⟩
        case measure => simp [intOf]; omega
    · obtain rfl : y = 0 := by omega
      go_wp2
      go_ret
      exact ⟨ret_i64 (pstep_end x p a _ p0 p1 H.out), rfl⟩
theorem l01Pow_any (a k : Int) (w : World) (a0 : 0 ≤ a) (a1 : a < 10007) (k0 : 0 ≤ k) (k1 : k ≤ 9223372036854775807) : Calls Tryz.prog 70 #[.int .i64 a, .int .i64 k] w fun e w' => e = .returned (.int .i64 (pw a k.toNat)) ∧ w = w' := by
  go_enter Tryz.func70, Tryz.ntmps70
  go_wp2_with fail
  go_loop [0, 1, 5] (fun u v o => ∃ x y p : Int, 0 ≤ x ∧ x < 10007 ∧ 0 ≤ y ∧ y ≤ 9223372036854775807 ∧ 0 ≤ p ∧ p < 10007 ∧ Hid (Eqm (p * x ^ y.toNat) (a ^ k.toNat)) ∧ u = .int .i64 x ∧ v = .int .i64 y ∧ o = .int .i64 p) (fun _ v _ => (intOf v).toNat)
  case atStart => exact ⟨a, k, 1, a0, a1, k0, k1, by omega, by omega, Eqm.of_eq (Int.one_mul _), rfl, rfl, rfl⟩
  case round =>
    obtain ⟨x, y, p, x0, x1, y0, y1, p0, p1, H, rfl, rfl, rfl⟩ := hrel
    by_cases hy : 0 < y
    · obtain ⟨m0, m1⟩ := mul_bd x0 x1 x0 x1
      obtain ⟨n0, n1⟩ := mul_bd p0 p1 x0 x1
      by_cases hodd : y % 2 = 1
      · have ho : ((y % 2) == 1) = true := beq_iff_eq.2 hodd
        have G := Lib.hid (pstep_odd x y p _ hy hodd H.out)
        clear hodd H
        go_wp2_with (go_at_call 40; refine (l01Mul_any _ _ _ (by omega) (by omega) (by omega) (by omega)).mono ?_; rintro e w' ⟨rfl, rfl⟩)
        go_round
        case rel => exact ⟨_, _, _, by omega, by omega, by omega, by omega, by omega, by omega, G, rfl, rfl, rfl⟩
        case measure => simp [intOf]; omega
      · have ho : ((y % 2) == 1) = false := beq_eq_false_iff_ne.2 hodd
        have G := Lib.hid (pstep_even x y p _ hy hodd H.out)
        clear hodd H
        go_wp2_with (go_at_call 40; refine (l01Mul_any _ _ _ (by omega) (by omega) (by omega) (by omega)).mono ?_; rintro e w' ⟨rfl, rfl⟩)
        go_round
        case rel => exact ⟨_, _, _, by omega, by omega, by omega, by omega, by omega, by omega, G, rfl, rfl, rfl⟩
        case measure => simp [intOf]; omega
    · obtain rfl : y = 0 := by omega
      go_wp2
      go_ret
      exact ⟨ret_i64 (pstep_end x p a _ p0 p1 H.out), rfl⟩
theorem l01Inv_any (a : Int) (w : World) (a0 : 0 ≤ a) (a1 : a < 10007) : Calls Tryz.prog 48 #[.int .i64 a] w fun e w' => e = .returned (.int .i64 (inv a)) ∧ w = w' := by
  go_enter Tryz.func48, Tryz.ntmps48
  go_wp2_with (go_at_call 70; refine (l01Pow_any _ _ _ (by omega) (by omega) (by omega) (by omega)).mono ?_; rintro e w' ⟨rfl, rfl⟩)
  go_ret
  exact ⟨rfl, rfl⟩
theorem inverse_any (a : Int) (w : World) (a0 : 0 ≤ a) (a1 : a < 10007) : Calls Tryz.prog 55 #[.int .i64 a] w fun e w' => e = .returned (.int .i64 (inv a)) ∧ w = w' := by
  go_enter Tryz.func55, Tryz.ntmps55
  go_wp2_with (go_at_call 75; refine (power_any _ _ _ (by omega) (by omega) (by omega) (by omega)).mono ?_; rintro e w' ⟨rfl, rfl⟩)
  go_ret
  exact ⟨rfl, rfl⟩
theorem l01Frac_any (p q : Int) (w : World) : Calls Tryz.prog 29 #[.int .i64 p, .int .i64 q] w fun e w' => e = .returned (.int .i64 (p % 10007 * inv (q % 10007) % 10007)) ∧ w = w' := by
  have i0 := inv_lo (q % 10007)
  have i1 := inv_hi (q % 10007)
  go_enter Tryz.func29, Tryz.ntmps29
  go_wp2_with (first | (go_at_call 47; refine (l01Mod_any _ _).mono ?_; rintro e w' ⟨rfl, rfl⟩) | (go_at_call 48; refine (l01Inv_any _ _ (by omega) (by omega)).mono ?_; rintro e w' ⟨rfl, rfl⟩) | (go_at_call 40; refine (l01Mul_any _ _ _ (by omega) (by omega) (by omega) (by omega)).mono ?_; rintro e w' ⟨rfl, rfl⟩))
  go_ret
  exact ⟨rfl, rfl⟩
end Go.Proofs.YtnnihdkhblbdgaaGreat
