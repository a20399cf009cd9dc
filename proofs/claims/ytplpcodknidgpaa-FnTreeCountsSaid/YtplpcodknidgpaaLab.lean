/-
  Labellings, the program's and the model's.
-/
import Derived.Test.YtplpcodknidgpaaSymS
import Derived.BigRegion
namespace Go.Proofs.Ytplpcodknidgpaa
open Go.RowKit Fld
set_option linter.unusedVariables false
set_option linter.unusedSimpArgs false
set_option maxRecDepth 100000

def factN : Nat → Int
  | 0 => 1
  | k+1 => factN k * ((k : Int) + 1)
theorem factN_small : ∀ k, k ≤ 8 → 1 ≤ factN k ∧ factN k ≤ 40320 := by decide +kernel
set_option maxHeartbeats 1000000 in
theorem labellings_any (x : List UInt8) (w : World) (hx : Tr.isTx x = true) : Calls Try.prog 27 #[.string ⟨x.toArray⟩] w (Res1 (((factN (x.length / 2)).tdiv (Tr.sy x)).tdiv (Tr.den x)) w) := by
  obtain ⟨⟨h2, h16⟩, _, _⟩ := Tr.br_parts hx
  have C0 := nodes_any x w (by omega)
  have CS := fun w => symmetry_any x w hx
  have CD := fun w => density_any x w hx
  obtain ⟨hd1, hd2⟩ := Tr.den_bd hx
  have hs1 : 1 ≤ Tr.sy x ∧ Tr.sy x ≤ 1000000 := by
    obtain ⟨e, hk, _⟩ := Tr.sy_parts hx
    rw [e]; exact (hk _ (Nat.le_refl _)).1
  obtain ⟨N, hN⟩ : ∃ N, N = x.length / 2 := ⟨_, rfl⟩
  have hN8 : N ≤ 8 := by omega
  obtain ⟨S, hS⟩ : ∃ S : ByteArray, S = ⟨x.toArray⟩ := ⟨_, rfl⟩
  obtain ⟨sv, hsv⟩ : ∃ v, v = Tr.sy x := ⟨_, rfl⟩
  obtain ⟨dv, hdv⟩ : ∃ v, v = Tr.den x := ⟨_, rfl⟩
  rw [← hS, ← hN] at C0
  rw [← hS, ← hsv] at CS
  rw [← hS, ← hdv] at CD
  rw [← hsv] at hs1
  rw [← hdv] at hd1 hd2
  rw [← hS, ← hN, ← hsv, ← hdv]
  clear hx hN hS hsv hdv h2 h16
  go_enter Try.func27, Try.ntmps27
  go_wp2_with fail
  refine C0.mono ?_
  rintro e w0 ⟨rfl, rfl⟩
  go_wp2_with fail
  go_loop [3, 7] (fun v i => ∃ (k : Nat) (a : Int), k ≤ N ∧ v = .int .i64 a ∧ i = .int .i64 k ∧ Hid (a = factN k)) (fun _ i => N - (intOf i).toNat)
  case atStart => exact ⟨0, 1, Nat.zero_le _, rfl, rfl, rfl⟩
  case round =>
    obtain ⟨k, a, hk, rfl, rfl, HA⟩ := hrel
    by_cases hlt : k < N
    · have HS : Hid (a * ((k : Int) + 1) = factN (k + 1)) := by rw [Hid, HA.out]; rfl
      have hb := factN_small (k + 1) (by omega)
      rw [← HS.out] at hb
      have hw1 : IntKind.i64.wrap (a * ((k : Int) + 1)) = a * ((k : Int) + 1) := IntWalk.i64_in _ (by omega)
      clear HA hb
      go_wp2
      go_round
      case rel => exact ⟨k + 1, _, by omega, rfl, by go_num, HS.out⟩
      case measure => simp [intOf]; omega
    · obtain rfl : k = N := by omega
      have hb := factN_small k hN8
      rw [← HA.out] at hb
      have HRR : Hid ((a.tdiv sv).tdiv dv = ((factN k).tdiv sv).tdiv dv) := by rw [Hid, HA.out]
      have ts : (sv == 0) = false := beq_f (by omega)
      have td : (dv == 0) = false := beq_f (by omega)
      have hq1 : 0 ≤ a.tdiv sv ∧ a.tdiv sv ≤ 40320 := by
        rw [Int.tdiv_eq_ediv_of_nonneg (by omega)]
        exact ⟨Int.ediv_nonneg (by omega) (by omega), Int.le_trans (Int.ediv_le_self _ (by omega)) (by omega)⟩
      have hq2 : 0 ≤ (a.tdiv sv).tdiv dv ∧ (a.tdiv sv).tdiv dv ≤ 40320 := by
        rw [Int.tdiv_eq_ediv_of_nonneg (by omega)]
        exact ⟨Int.ediv_nonneg (by omega) (by omega), Int.le_trans (Int.ediv_le_self _ (by omega)) (by omega)⟩
      have hw1 : IntKind.i64.wrap (a.tdiv sv) = a.tdiv sv := IntWalk.i64_in _ (by omega)
      have hw2 : IntKind.i64.wrap ((a.tdiv sv).tdiv dv) = (a.tdiv sv).tdiv dv := IntWalk.i64_in _ (by omega)
      clear HA hb
      go_wp2_with fail
      go_region_with (first | (go_at_call 42; refine (CS _).mono ?_; rintro e w2 ⟨rfl, bel2⟩) | (go_at_call 43; refine (CD _).mono ?_; rintro e w3 ⟨rfl, bel3⟩))
      all_goals
        try simp only [Act.put, List.setIfInBounds_toArray, List.set_cons_zero, List.set_cons_succ, List.getElem_toArray, List.getElem_cons_zero, List.getElem_cons_succ]
        first
          | have GB := Lib.hid ((below_undrew' bel2).trans (bel3.mono bel2.size))
          | have GB := Lib.hid ((below_undrew' bel3).trans (bel2.mono bel3.size))
        clear bel2 bel3
        go_wp2
        go_ret
        exact Res1.of HRR.out.symm GB.out
end Go.Proofs.Ytplpcodknidgpaa
