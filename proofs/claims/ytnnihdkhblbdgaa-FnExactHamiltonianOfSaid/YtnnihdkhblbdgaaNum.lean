/-
  What the small functions on numbers answer, the program's and the model's: remainders, sums, products, powers, inverses.
-/
import Derived.Test.YtnnihdkhblbdgaaBase
import Derived.Test.YtnnihdkhblbdgaaField
import Derived.IntWalk
namespace Go.Proofs.Ytnnihdkhblbdgaa
open Go.RowKit Fld
set_option linter.unusedVariables false
set_option linter.unusedSimpArgs false
set_option maxRecDepth 100000

theorem tmod_fix (n : Int) : (n.tmod 10007 + 10007) % 10007 = n % 10007 := by
  rw [Int.tmod_eq_emod]; split <;> omega
theorem tmod_bd (n : Int) : -10006 ≤ n.tmod 10007 ∧ n.tmod 10007 ≤ 10006 := by
  rw [Int.tmod_eq_emod]; split <;> omega

theorem l01Mod_any (n : Int) (w : World) : Calls Try.prog 74 #[.int .i64 n] w fun e w' => e = .returned (.int .i64 (n % 10007)) ∧ w = w' := by
  have hb := tmod_bd n
  obtain ⟨hb1, hb2⟩ := hb
  go_enter Try.func74, Try.ntmps74
  go_wp2
  go_ret
  exact ⟨ret_i64 (tmod_fix n), rfl⟩
theorem reduced_any (n : Int) (w : World) : Calls Try.prog 86 #[.int .i64 n] w fun e w' => e = .returned (.int .i64 (n % 10007)) ∧ w = w' := by
  have hb := tmod_bd n
  obtain ⟨hb1, hb2⟩ := hb
  have he := tmod_fix n
  by_cases h : n.tmod 10007 < 0
  · have hr : n.tmod 10007 + 10007 = n % 10007 := by omega
    have H := Lib.hid hr
    clear he hr
    go_enter Try.func86, Try.ntmps86
    go_wp2
    go_ret
    exact ⟨ret_i64 H.out, rfl⟩
  · have hr : n.tmod 10007 = n % 10007 := by omega
    have H := Lib.hid hr
    clear he hr
    go_enter Try.func86, Try.ntmps86
    go_wp2
    go_ret
    exact ⟨ret_i64 H.out, rfl⟩
theorem l01Add_any (a b : Int) (w : World) (a0 : 0 ≤ a) (a1 : a < 10007) (b0 : 0 ≤ b) (b1 : b < 10007) : Calls Try.prog 44 #[.int .i64 a, .int .i64 b] w fun e w' => e = .returned (.int .i64 ((a + b) % 10007)) ∧ w = w' := by
  go_enter Try.func44, Try.ntmps44
  go_wp2_with (go_at_call 74; refine (l01Mod_any _ _).mono ?_; rintro e w' ⟨rfl, rfl⟩)
  go_ret
  exact ⟨rfl, rfl⟩
theorem l01Sub_any (a b : Int) (w : World) (a0 : 0 ≤ a) (a1 : a < 10007) (b0 : 0 ≤ b) (b1 : b < 10007) : Calls Try.prog 104 #[.int .i64 a, .int .i64 b] w fun e w' => e = .returned (.int .i64 ((a - b) % 10007)) ∧ w = w' := by
  go_enter Try.func104, Try.ntmps104
  go_wp2_with (go_at_call 74; refine (l01Mod_any _ _).mono ?_; rintro e w' ⟨rfl, rfl⟩)
  go_ret
  exact ⟨rfl, rfl⟩
theorem l01Mul_any (a b : Int) (w : World) (a0 : 0 ≤ a) (a1 : a < 10007) (b0 : 0 ≤ b) (b1 : b < 10007) : Calls Try.prog 81 #[.int .i64 a, .int .i64 b] w fun e w' => e = .returned (.int .i64 (a * b % 10007)) ∧ w = w' := by
  obtain ⟨m0, m1⟩ := mul_bd a0 a1 b0 b1
  go_enter Try.func81, Try.ntmps81
  go_wp2_with (go_at_call 74; refine (l01Mod_any _ _).mono ?_; rintro e w' ⟨rfl, rfl⟩)
  go_ret
  exact ⟨rfl, rfl⟩
theorem plus_any (a b : Int) (w : World) (a0 : 0 ≤ a) (a1 : a < 10007) (b0 : 0 ≤ b) (b1 : b < 10007) : Calls Try.prog 72 #[.int .i64 a, .int .i64 b] w fun e w' => e = .returned (.int .i64 ((a + b) % 10007)) ∧ w = w' := by
  go_enter Try.func72, Try.ntmps72
  go_wp2_with (go_at_call 86; refine (reduced_any _ _).mono ?_; rintro e w' ⟨rfl, rfl⟩)
  go_ret
  exact ⟨rfl, rfl⟩
theorem times_any (a b : Int) (w : World) (a0 : 0 ≤ a) (a1 : a < 10007) (b0 : 0 ≤ b) (b1 : b < 10007) : Calls Try.prog 51 #[.int .i64 a, .int .i64 b] w fun e w' => e = .returned (.int .i64 (a * b % 10007)) ∧ w = w' := by
  obtain ⟨m0, m1⟩ := mul_bd a0 a1 b0 b1
  go_enter Try.func51, Try.ntmps51
  go_wp2_with (go_at_call 86; refine (reduced_any _ _).mono ?_; rintro e w' ⟨rfl, rfl⟩)
  go_ret
  exact ⟨rfl, rfl⟩
theorem power_any (a k : Int) (w : World) (a0 : 0 ≤ a) (a1 : a < 10007) (k0 : 0 ≤ k) (k1 : k ≤ 9223372036854775807) : Calls Try.prog 124 #[.int .i64 a, .int .i64 k] w fun e w' => e = .returned (.int .i64 (pw a k.toNat)) ∧ w = w' := by
  go_enter Try.func124, Try.ntmps124
  go_wp2_with fail
  go_loop [0, 1, 5] (fun u v o => ∃ x y p : Int, 0 ≤ x ∧ x < 10007 ∧ 0 ≤ y ∧ y ≤ 9223372036854775807 ∧ 0 ≤ p ∧ p < 10007 ∧ Hid (Eqm (p * x ^ y.toNat) (a ^ k.toNat)) ∧ u = .int .i64 x ∧ v = .int .i64 y ∧ o = .int .i64 p) (fun _ v _ => (intOf v).toNat)
  case atStart => exact ⟨a, k, 1, a0, a1, k0, k1, by omega, by omega, Eqm.of_eq (Int.one_mul _), rfl, rfl, rfl⟩
  case round =>
    obtain ⟨x, y, p, x0, x1, y0, y1, p0, p1, H, rfl, rfl, rfl⟩ := hrel
    by_cases hy : 0 < y
    · obtain ⟨m0, m1⟩ := mul_bd x0 x1 x0 x1
      obtain ⟨n0, n1⟩ := mul_bd p0 p1 x0 x1
      by_cases hodd : y % 2 = 1
      · have ho : ((y % 2) == 1) = true := beq_iff_eq.2 hodd
        have G := Lib.hid (pstep_odd x y p _ hy hodd H.out)
        clear hodd H
        go_wp2_with (go_at_call 51; refine (times_any _ _ _ (by omega) (by omega) (by omega) (by omega)).mono ?_; rintro e w' ⟨rfl, rfl⟩)
        go_round
        case rel => exact ⟨_, _, _, by omega, by omega, by omega, by omega, by omega, by omega, G, rfl, rfl, rfl⟩
        case measure => simp [intOf]; omega
      · have ho : ((y % 2) == 1) = false := beq_eq_false_iff_ne.2 hodd
        have G := Lib.hid (pstep_even x y p _ hy hodd H.out)
        clear hodd H
        go_wp2_with (go_at_call 51; refine (times_any _ _ _ (by omega) (by omega) (by omega) (by omega)).mono ?_; rintro e w' ⟨rfl, rfl⟩)
        go_round
        case rel => exact ⟨_, _, _, by omega, by omega, by omega, by omega, by omega, by omega, G, rfl, rfl, rfl⟩
        case measure => simp [intOf]; omega
    · obtain rfl : y = 0 := by omega
      go_wp2
      go_ret
      exact ⟨ret_i64 (pstep_end x p a _ p0 p1 H.out), rfl⟩
end Go.Proofs.Ytnnihdkhblbdgaa
