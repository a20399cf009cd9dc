/-
  Heights: the greatest level.
-/
import Derived.Test.YtgicbmfcojfjcaaLev
namespace Go.Proofs.Ytgicbmfcojfjcaa
open Go.RowKit Fld
set_option linter.unusedVariables false
set_option linter.unusedSimpArgs false
set_option maxRecDepth 100000

def maxTo (t : List Int) (k : Nat) : Int := (t.take k).foldl (fun m x => if m < x then x else m) 0
theorem maxTo_step {t : List Int} {k : Nat} {x : Int} (h : t[k]? = some x) : maxTo t (k + 1) = if maxTo t k < x then x else maxTo t k := by
  unfold maxTo; rw [List.take_add_one, h, Option.toList_some, List.foldl_append]; rfl
def heightA (t : List Int) : Int × Int := if Tr.isLv t = true then (maxTo t t.length, 0) else (0, 1)
theorem heightA_yes {t : List Int} (h : Tr.isLv t = true) : heightA t = (maxTo t t.length, 0) := if_pos h
theorem heightA_no {t : List Int} (h : Tr.isLv t = false) : heightA t = (0, 1) := if_neg (by rw [h]; simp)
theorem ResI.of' {r : Int × Int} {w w' : World} {x k : Int} (h : r = (x, k)) (hb : Below w.heap.size w w') : ResI r w (.returned (.tuple #[.int .i64 x, .int .i64 k])) w' := by
  subst h; exact ⟨rfl, hb⟩
theorem slicesMax_any (A : Option Addr) (n c B : Nat) (t : List Int) (w : World) (hl : t.length = n) (h1 : 1 ≤ n) (hn : n ≤ 1048576) (h0 : t.getD 0 0 = 0) (h : Row w B A (ints t)) :
    Calls Try.prog 114 #[.slice A n c] w fun e w' => e = .returned (.int .i64 (maxTo t n)) ∧ w = w' := by
  obtain ⟨z, hz⟩ := at_lt (show 0 < t.length by omega)
  obtain ⟨b, o, rfl, _, hcz⟩ := h 0 _ (ints_at hz)
  rw [Nat.add_zero] at hcz
  have HL := Lib.hid hl
  have ez : z = 0 := by rw [lv_at hz] at h0; exact h0
  subst ez
  have n0' : (0 : Int) < (n : Int) := by omega
  have hm1 : Hid (maxTo t 1 = 0) := by rw [Hid, maxTo_step hz]; unfold maxTo; rfl
  clear hl hz h0
  go_enter Try.func114, Try.ntmps114
  go_wp2_with fail
  go_loop [3, 4] (fun m i => ∃ k : Nat, 1 ≤ k ∧ k ≤ n ∧ m = .int .i64 (maxTo t k) ∧ i = .int .i64 k) (fun _ i => n - (intOf i).toNat)
  case atStart => exact ⟨1, Nat.le_refl _, h1, by rw [hm1.out], rfl⟩
  case round =>
    obtain ⟨k, k1, hk, rfl, rfl⟩ := hrel
    by_cases hlt : k < n
    · obtain ⟨x, hx⟩ := at_lt (show k < t.length by rw [HL.out]; exact hlt)
      obtain ⟨_, _, e1, _, hc⟩ := h k _ (ints_at hx)
      cases e1
      have G := Lib.hid (maxTo_step hx)
      obtain ⟨m, hm⟩ : ∃ m, m = maxTo t k := ⟨_, rfl⟩
      rw [← hm] at G ⊢
      clear hx hm
      go_wp2
      go_round
      case rel => exact ⟨k + 1, by omega, by omega, by rw [G.out], by go_num⟩
      case measure => simp [intOf]; omega
    · obtain rfl : k = n := by omega
      go_wp2
      go_ret
      exact ⟨rfl, rfl⟩
theorem pHeightOf_L (A : Option Addr) (n c B : Nat) (t : List Int) (w : World) (hl : t.length = n) (hn : n ≤ 1048576) (hB : B ≤ w.heap.size) (h : Row w B A (ints t)) :
    Calls Try.prog 59 #[.slice A n c] w (ResI (heightA t) w) := by
  have C0 := isLevels_any A n c B t w hl (by omega) h
  cases hlv : Tr.isLv t
  · have G := Lib.hid (heightA_no hlv)
    rw [hlv] at C0
    go_enter Try.func59, Try.ntmps59
    go_wp2_with fail
    refine C0.mono ?_
    rintro e w' ⟨rfl, m, rfl⟩
    go_wp2
    go_ret2
    exact ResI.of' G.out (below_drewN (Below.refl _ _) _)
  · have G := Lib.hid (heightA_yes hlv)
    rw [hlv] at C0
    have h3 := Tr.isLv_iff.1 hlv
    have C1 := fun m => slicesMax_any A n c B t (w.drewN m) hl (by have := h3.1; omega) hn h3.2.2.1 (h.drewN m)
    rw [hl] at G
    clear hl hlv h3
    go_enter Try.func59, Try.ntmps59
    go_wp2_with fail
    refine C0.mono ?_
    rintro e w' ⟨rfl, m, rfl⟩
    go_wp2_with fail
    refine (C1 m).mono ?_
    rintro e w' ⟨rfl, rfl⟩
    go_wp2
    go_ret2
    exact ResI.of' G.out (below_drewN (Below.refl _ _) _)
end Go.Proofs.Ytgicbmfcojfjcaa
