/-
  Does a node exist?
-/
import Derived.Test.YtgicbmfcojfjcaaLev
namespace Go.Proofs.Ytgicbmfcojfjcaa
open Go.RowKit Fld
set_option linter.unusedVariables false
set_option linter.unusedSimpArgs false
set_option maxRecDepth 100000

theorem hasNode_any' (A : Option Addr) (n c : Nat) (k : Int) (w : World) (hn : n ≤ 1048576) : Calls Try.prog 121 #[.slice A n c, .int .i64 k] w fun e w' => e = .returned (.bool (decide (0 ≤ k ∧ k < (n : Int)))) ∧ ∃ m, w' = w.drewN m := by
  by_cases h0 : 0 ≤ k
  · by_cases h1 : k < (n : Int)
    · have G : Hid (decide (0 ≤ k ∧ k < (n : Int)) = true) := decide_eq_true ⟨h0, h1⟩
      have d0 : decide (0 ≤ k) = true := decide_eq_true h0
      have d1 : decide (k < (n : Int)) = true := decide_eq_true h1
      go_enter Try.func121, Try.ntmps121
      go_wp2
      go_ret
      exact ⟨by first | rfl | exact ret_bool G.out.symm, 0, rfl⟩
    · have G : Hid (decide (0 ≤ k ∧ k < (n : Int)) = false) := decide_eq_false (fun h => h1 h.2)
      have d0 : decide (0 ≤ k) = true := decide_eq_true h0
      have d1 : decide (k < (n : Int)) = false := decide_eq_false h1
      go_enter Try.func121, Try.ntmps121
      go_wp2
      go_ret
      exact ⟨by first | rfl | exact ret_bool G.out.symm, 0, rfl⟩
  · have G : Hid (decide (0 ≤ k ∧ k < (n : Int)) = false) := decide_eq_false (fun h => h0 h.1)
    have d0 : decide (0 ≤ k) = false := decide_eq_false h0
    go_enter Try.func121, Try.ntmps121
    go_wp2
    go_ret
    exact ⟨by first | rfl | exact ret_bool G.out.symm, 0, rfl⟩
end Go.Proofs.Ytgicbmfcojfjcaa
