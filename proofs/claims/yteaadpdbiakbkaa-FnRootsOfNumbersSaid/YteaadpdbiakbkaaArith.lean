/-
  What the operations on two numbers answer, the program's and the model's alike: a number beside a code.
-/
import Derived.Test.YteaadpdbiakbkaaTests
namespace Go.Proofs.Yteaadpdbiakbkaa
open Go.RowKit Fld
set_option linter.unusedVariables false
set_option linter.unusedSimpArgs false

theorem sAddNumbers_any (a b : Int) (w : World) : Calls Try.prog 46 #[.int .i64 a, .int .i64 b] w fun e w' => e = .returned (.tuple #[.int .i64 (pick (allNum [a, b]) ((a + b) % 10007)), .int .i64 (twoCode a b)]) ∧ w = w' := by
  cases h : allNum [a, b]
  · have ht := twoCode_no h
    have H := Lib.hid ht
    clear h
    have hne : (twoCode a b != 0) = true := by rw [ht]; rfl
    clear ht
    go_enter Try.func46, Try.ntmps46
    go_wp2_with (first | (go_at_call 54; refine (l01Two_any _ _ _).mono ?_; rintro e w' ⟨rfl, rfl⟩) | (go_at_call 86; fail))
    go_ret2
    exact ⟨rfl, rfl⟩
  · have ht := twoCode_yes h
    obtain ⟨a0, a1, b0, b1⟩ := ok_two_num h
    have H := Lib.hid ht
    clear h
    have hne : (twoCode a b != 0) = false := by rw [ht]; rfl
    clear ht
    go_enter Try.func46, Try.ntmps46
    go_wp2_with (first | (go_at_call 54; refine (l01Two_any _ _ _).mono ?_; rintro e w' ⟨rfl, rfl⟩) | (go_at_call 86; refine (l01Add_any _ _ _ a0 a1 b0 b1).mono ?_; rintro e w' ⟨rfl, rfl⟩))
    go_ret2
    exact ⟨ret_two_yes rfl rfl H.out.symm, rfl⟩
theorem addNumbers_any (a b : Int) (w : World) : Calls Try.prog 24 #[.int .i64 a, .int .i64 b] w fun e w' => e = .returned (.tuple #[.int .i64 (pick (allNum [a, b]) ((a + b) % 10007)), .int .i64 (twoCode a b)]) ∧ Below w.heap.size w w' := by
  cases h : allNum [a, b]
  · have H := Lib.hid (twoCode_no h)
    go_enter Try.func24, Try.ntmps24
    go_wp2_with (go_at_call 52; refine (areNumbers_any _ 2 _ (w.heap.size + 1) [a, b] _ rfl (by omega) (Row.new w _ (ints [a, b]))).mono ?_; rintro e w' ⟨rfl, rfl⟩)
    go_ret2
    exact ⟨ret_two_no rfl rfl H.out.symm, (Below.refl _ _).alloc (Nat.le_refl _) _⟩
  · have H := Lib.hid (twoCode_yes h)
    obtain ⟨a0, a1, b0, b1⟩ := ok_two_num h
    go_enter Try.func24, Try.ntmps24
    go_wp2_with (first | (go_at_call 52; refine (areNumbers_any _ 2 _ (w.heap.size + 1) [a, b] _ rfl (by omega) (Row.new w _ (ints [a, b]))).mono ?_; rintro e w' ⟨rfl, rfl⟩) | (go_at_call 59; refine (plus_any _ _ _ a0 a1 b0 b1).mono ?_; rintro e w' ⟨rfl, rfl⟩))
    go_ret2
    exact ⟨ret_two_yes rfl rfl H.out.symm, (Below.refl _ _).alloc (Nat.le_refl _) _⟩
theorem sSubtractNumbers_any (a b : Int) (w : World) : Calls Try.prog 47 #[.int .i64 a, .int .i64 b] w fun e w' => e = .returned (.tuple #[.int .i64 (pick (allNum [a, b]) ((a - b) % 10007)), .int .i64 (twoCode a b)]) ∧ w = w' := by
  cases h : allNum [a, b]
  · have ht := twoCode_no h
    have H := Lib.hid ht
    clear h
    have hne : (twoCode a b != 0) = true := by rw [ht]; rfl
    clear ht
    go_enter Try.func47, Try.ntmps47
    go_wp2_with (first | (go_at_call 54; refine (l01Two_any _ _ _).mono ?_; rintro e w' ⟨rfl, rfl⟩) | (go_at_call 87; fail))
    go_ret2
    exact ⟨rfl, rfl⟩
  · have ht := twoCode_yes h
    obtain ⟨a0, a1, b0, b1⟩ := ok_two_num h
    have H := Lib.hid ht
    clear h
    have hne : (twoCode a b != 0) = false := by rw [ht]; rfl
    clear ht
    go_enter Try.func47, Try.ntmps47
    go_wp2_with (first | (go_at_call 54; refine (l01Two_any _ _ _).mono ?_; rintro e w' ⟨rfl, rfl⟩) | (go_at_call 87; refine (l01Sub_any _ _ _ a0 a1 b0 b1).mono ?_; rintro e w' ⟨rfl, rfl⟩))
    go_ret2
    exact ⟨ret_two_yes rfl rfl H.out.symm, rfl⟩
theorem subtractNumbers_any (a b : Int) (w : World) : Calls Try.prog 25 #[.int .i64 a, .int .i64 b] w fun e w' => e = .returned (.tuple #[.int .i64 (pick (allNum [a, b]) ((a - b) % 10007)), .int .i64 (twoCode a b)]) ∧ Below w.heap.size w w' := by
  cases h : allNum [a, b]
  · have H := Lib.hid (twoCode_no h)
    go_enter Try.func25, Try.ntmps25
    go_wp2_with (go_at_call 52; refine (areNumbers_any _ 2 _ (w.heap.size + 1) [a, b] _ rfl (by omega) (Row.new w _ (ints [a, b]))).mono ?_; rintro e w' ⟨rfl, rfl⟩)
    go_ret2
    exact ⟨ret_two_no rfl rfl H.out.symm, (Below.refl _ _).alloc (Nat.le_refl _) _⟩
  · have H := Lib.hid (twoCode_yes h)
    obtain ⟨a0, a1, b0, b1⟩ := ok_two_num h
    go_enter Try.func25, Try.ntmps25
    go_wp2_with (first | (go_at_call 52; refine (areNumbers_any _ 2 _ (w.heap.size + 1) [a, b] _ rfl (by omega) (Row.new w _ (ints [a, b]))).mono ?_; rintro e w' ⟨rfl, rfl⟩) | (go_at_call 60; refine (minus_any _ _ _ a0 a1 b0 b1).mono ?_; rintro e w' ⟨rfl, rfl⟩))
    go_ret2
    exact ⟨ret_two_yes rfl rfl H.out.symm, (Below.refl _ _).alloc (Nat.le_refl _) _⟩
theorem sMultiplyNumbers_any (a b : Int) (w : World) : Calls Try.prog 48 #[.int .i64 a, .int .i64 b] w fun e w' => e = .returned (.tuple #[.int .i64 (pick (allNum [a, b]) (a * b % 10007)), .int .i64 (twoCode a b)]) ∧ w = w' := by
  cases h : allNum [a, b]
  · have ht := twoCode_no h
    have H := Lib.hid ht
    clear h
    have hne : (twoCode a b != 0) = true := by rw [ht]; rfl
    clear ht
    go_enter Try.func48, Try.ntmps48
    go_wp2_with (first | (go_at_call 54; refine (l01Two_any _ _ _).mono ?_; rintro e w' ⟨rfl, rfl⟩) | (go_at_call 55; fail))
    go_ret2
    exact ⟨rfl, rfl⟩
  · have ht := twoCode_yes h
    obtain ⟨a0, a1, b0, b1⟩ := ok_two_num h
    have H := Lib.hid ht
    clear h
    have hne : (twoCode a b != 0) = false := by rw [ht]; rfl
    clear ht
    go_enter Try.func48, Try.ntmps48
    go_wp2_with (first | (go_at_call 54; refine (l01Two_any _ _ _).mono ?_; rintro e w' ⟨rfl, rfl⟩) | (go_at_call 55; refine (l01Mul_any _ _ _ a0 a1 b0 b1).mono ?_; rintro e w' ⟨rfl, rfl⟩))
    go_ret2
    exact ⟨ret_two_yes rfl rfl H.out.symm, rfl⟩
theorem multiplyNumbers_any (a b : Int) (w : World) : Calls Try.prog 23 #[.int .i64 a, .int .i64 b] w fun e w' => e = .returned (.tuple #[.int .i64 (pick (allNum [a, b]) (a * b % 10007)), .int .i64 (twoCode a b)]) ∧ Below w.heap.size w w' := by
  cases h : allNum [a, b]
  · have H := Lib.hid (twoCode_no h)
    go_enter Try.func23, Try.ntmps23
    go_wp2_with (go_at_call 52; refine (areNumbers_any _ 2 _ (w.heap.size + 1) [a, b] _ rfl (by omega) (Row.new w _ (ints [a, b]))).mono ?_; rintro e w' ⟨rfl, rfl⟩)
    go_ret2
    exact ⟨ret_two_no rfl rfl H.out.symm, (Below.refl _ _).alloc (Nat.le_refl _) _⟩
  · have H := Lib.hid (twoCode_yes h)
    obtain ⟨a0, a1, b0, b1⟩ := ok_two_num h
    go_enter Try.func23, Try.ntmps23
    go_wp2_with (first | (go_at_call 52; refine (areNumbers_any _ 2 _ (w.heap.size + 1) [a, b] _ rfl (by omega) (Row.new w _ (ints [a, b]))).mono ?_; rintro e w' ⟨rfl, rfl⟩) | (go_at_call 58; refine (times_any _ _ _ a0 a1 b0 b1).mono ?_; rintro e w' ⟨rfl, rfl⟩))
    go_ret2
    exact ⟨ret_two_yes rfl rfl H.out.symm, (Below.refl _ _).alloc (Nat.le_refl _) _⟩
end Go.Proofs.Yteaadpdbiakbkaa
