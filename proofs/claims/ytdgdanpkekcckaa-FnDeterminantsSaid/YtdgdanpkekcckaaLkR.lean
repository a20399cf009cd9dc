/-
  The laws' comparison of lists of lists, where they are alike.
-/
import Derived.Test.YtdgdanpkekcckaaLikeI
import Derived.Test.YtdgdanpkekcckaaNestc
import Derived.BigQuiet
namespace Go.Proofs.Ytdgdanpkekcckaa
open Go.RowKit Fld
set_option linter.unusedVariables false
set_option linter.unusedSimpArgs false
set_option maxRecDepth 100000

theorem likeR_same (A A' : Option Addr) (n c c' B B' : Nat) (xs : List Int) (w : World) (hl : xs.length = n) (hn : n ≤ 9223372036854775807) (h : Row w B A (ints xs)) (h' : Row w B' A' (ints xs)) :
    Calls Try.prog 26 #[.slice A n c, .slice A' n c'] w fun e w' => e = .returned (.bool true) ∧ ∃ m, w' = w.drewN m := by
  refine (likeInts_any A A' n n c c' B B' xs xs w hl hl hn hn h h').mono ?_
  rintro e w' ⟨rfl, m, rfl⟩
  exact ⟨by rw [eqL_self], m, rfl⟩
set_option maxHeartbeats 1000000 in
theorem likeRows_yes (A A' : Option Addr) (n c c' B B' : Nat) (m : List (List Int)) (w : World) (hl : m.length = n) (hn : n ≤ 1048576) (h : Mat w B A m) (h' : Mat w B' A' m) :
    Calls Try.prog 13 #[.slice A n c, .slice A' n c'] w fun e w' => e = .returned (.bool true) ∧ ∃ d, w' = w.drewN d := by
  have HL := Lib.hid hl
  clear hl
  go_enter Try.func13, Try.ntmps13
  go_wp2_with fail
  go_loopw [5] (fun i wr => ∃ k d : Nat, k ≤ n ∧ i = .int .i64 k ∧ wr = w.drewN d) (fun i _ => n - (intOf i).toNat)
  case atStart => exact ⟨0, 0, Nat.zero_le _, rfl, rfl⟩
  case round =>
    obtain ⟨k, d, hk, rfl, rfl⟩ := hrel
    by_cases hlt : k < n
    · obtain ⟨r, hr⟩ := at_lt (show k < m.length by rw [HL.out]; exact hlt)
      obtain ⟨b, o, Ak, ck, rfl, _, hc, hck, hcm, hrow⟩ := h k r hr
      obtain ⟨b', o', Ak', ck', rfl, _, hc', _, _, hrow'⟩ := h' k r hr
      have hrl : r.length ≤ 9223372036854775807 := by unfold maxLen at hcm; omega
      have HR := Lib.hid hrow
      have HR' := Lib.hid hrow'
      clear hr hrow hrow'
      go_wp2_with fail
      go_quiet ((go_at_call 26; first | exact quiet_any (likeR_same _ _ _ _ _ B B' r _ rfl hrl HR.out HR'.out) | exact Calls.quiet_of (likeR_same _ _ _ _ _ B B' r _ rfl hrl HR.out HR'.out)))
      go_wp2
      go_roundw
      case rel => exact ⟨k + 1, _, by omega, by go_num, rfl⟩
      case measure => simp [intOf]; omega
    · obtain rfl : k = n := by omega
      go_wp2
      go_ret
      exact ⟨rfl, _, rfl⟩
end Go.Proofs.Ytdgdanpkekcckaa
