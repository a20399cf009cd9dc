/-
  What the tests on numbers answer, of one number, two numbers and lists, the program's and the model's.
-/
import Derived.Test.YtnnihdkhblbdgaaNum
namespace Go.Proofs.Ytnnihdkhblbdgaa
open Go.RowKit Fld
set_option linter.unusedVariables false
set_option linter.unusedSimpArgs false
set_option maxRecDepth 100000

theorem isNumber_any (a : Int) (w : World) : Calls Try.prog 101 #[.int .i64 a] w fun e w' => e = .returned (.bool (isNum a)) ∧ w = w' := by
  by_cases h0 : 0 ≤ a
  · by_cases h1 : a < 10007
    · have H := Lib.hid (isNum_iff.2 ⟨h0, h1⟩)
      go_enter Try.func101, Try.ntmps101
      go_wp2
      go_ret
      exact ⟨ret_bool H.out.symm, rfl⟩
    · have H := Lib.hid (isNum_no.2 (.inr (Int.not_lt.1 h1)))
      go_enter Try.func101, Try.ntmps101
      go_wp2
      go_ret
      exact ⟨ret_bool H.out.symm, rfl⟩
  · have H := Lib.hid (isNum_no.2 (.inl (Int.not_le.1 h0)))
    go_enter Try.func101, Try.ntmps101
    go_wp2
    go_ret
    exact ⟨ret_bool H.out.symm, rfl⟩
theorem l01In_any (n l h : Int) (w : World) : Calls Try.prog 55 #[.int .i64 n, .int .i64 l, .int .i64 h] w fun e w' => e = .returned (.bool (isIn n l h)) ∧ w = w' := by
  by_cases h0 : l ≤ n
  · by_cases h1 : n ≤ h
    · have H := Lib.hid (isIn_yes h0 h1)
      go_enter Try.func55, Try.ntmps55
      go_wp2
      go_ret
      exact ⟨ret_bool H.out.symm, rfl⟩
    · have H := Lib.hid (isIn_no (l := l) (.inr (Int.not_le.1 h1)))
      go_enter Try.func55, Try.ntmps55
      go_wp2
      go_ret
      exact ⟨ret_bool H.out.symm, rfl⟩
  · have H := Lib.hid (isIn_no (h := h) (.inl (Int.not_le.1 h0)))
    go_enter Try.func55, Try.ntmps55
    go_wp2
    go_ret
    exact ⟨ret_bool H.out.symm, rfl⟩
theorem sIsNumber_any (a : Int) (w : World) : Calls Try.prog 98 #[.int .i64 a] w fun e w' => e = .returned (.bool (isNum a)) ∧ w = w' := by
  go_enter Try.func98, Try.ntmps98
  go_wp2_with (go_at_call 55; refine (l01In_any _ _ _ _).mono ?_; rintro e w' ⟨rfl, rfl⟩)
  go_ret
  exact ⟨ret_bool (isIn_num a), rfl⟩
theorem areNumbers_any (A : Option Addr) (n c B : Nat) (xs : List Int) (w : World) (hl : xs.length = n) (hn : n ≤ 9223372036854775807) (h : Row w B A (ints xs)) :
    Calls Try.prog 64 #[.slice A n c] w fun e w' => e = .returned (.bool (allNum xs)) ∧ w = w' := by
  have HL := Lib.hid hl
  clear hl
  go_enter Try.func64, Try.ntmps64
  go_wp2_with fail
  go_loop [7] (fun i => ∃ k : Nat, k ≤ n ∧ i = .int .i64 k ∧ Hid (allNum (xs.take k) = true)) (fun i => n - (intOf i).toNat)
  case atStart => exact ⟨0, Nat.zero_le _, rfl, rfl⟩
  case round =>
    obtain ⟨k, hk, rfl, HT⟩ := hrel
    by_cases hlt : k < n
    · obtain ⟨x, hx⟩ := at_lt (show k < xs.length by rw [HL.out]; exact hlt)
      obtain ⟨b, o, rfl, _, hc⟩ := h k _ (ints_at hx)
      cases hnum : isNum x
      · have G := Lib.hid (allNum_no hx hnum)
        clear hx
        go_wp2_with (go_at_call 101; refine (isNumber_any _ _).mono ?_; rintro e w' ⟨rfl, rfl⟩)
        go_ret
        exact ⟨ret_bool G.out.symm, rfl⟩
      · have G := Lib.hid (allNum_take hx HT.out hnum)
        clear hx HT
        go_wp2_with (go_at_call 101; refine (isNumber_any _ _).mono ?_; rintro e w' ⟨rfl, rfl⟩)
        go_round
        case rel => exact ⟨k + 1, by omega, by go_num, G⟩
        case measure => simp [intOf]; omega
    · have G := Lib.hid HT.out
      clear HT
      go_wp2
      go_ret
      exact ⟨ret_bool (by have := G.out; rw [List.take_of_length_le (by rw [HL.out]; omega)] at this; exact this.symm), rfl⟩
end Go.Proofs.Ytnnihdkhblbdgaa
