/-
  The model's Determinant: what it answers at every list of lists.
-/
import Derived.Test.YtdgdanpkekcckaaSDetB
import Derived.Test.YtdgdanpkekcckaaRes1
namespace Go.Proofs.Ytdgdanpkekcckaa
open Go.RowKit Fld
open Det (det sm sgn sk)
set_option linter.unusedVariables false
set_option linter.unusedSimpArgs false
set_option maxRecDepth 100000

theorem detOf_all : ∀ n, n ≤ 8 → DetOf n
  | 0, _ => detOf_zero
  | n+1, h => by
    have IH : DetOf (n + 1 - 1) := detOf_all n (by omega)
    by_cases h4 : n + 1 ≤ 4
    · exact detOf_small (n + 1) (by omega) h4 IH
    · exact detOf_large (n + 1) (by omega) h IH
def detA (m : List (List Int)) : Int × Int := if isMatB m = true then (if m.length = (m.getD 0 []).length then (detL m, 0) else (0, 5)) else (0, 1)
theorem detA_no1 {m : List (List Int)} (h : isMatB m = false) : detA m = (0, 1) := if_neg (by rw [h]; simp)
theorem detA_no5 {m : List (List Int)} (h : isMatB m = true) (h5 : m.length ≠ (m.getD 0 []).length) : detA m = (0, 5) := (if_pos h).trans (if_neg h5)
theorem detA_yes {m : List (List Int)} (h : isMatB m = true) (h5 : m.length = (m.getD 0 []).length) : detA m = (detL m, 0) := (if_pos h).trans (if_pos h5)
theorem ResI.of {r : Int × Int} {w w' : World} {a k : Int} (h : r = (a, k)) (hb : Below w.heap.size w w') : ResI r w (.returned (.tuple #[.int .i64 a, .int .i64 k])) w' := by subst h; exact ⟨rfl, hb⟩
set_option maxHeartbeats 800000 in
theorem sDeterminant_any (A : Option Addr) (n c B : Nat) (m : List (List Int)) (w : World) (hl : m.length = n) (hn : n ≤ 1048576) (hB : B ≤ w.heap.size) (h : Mat w B A m) :
    Calls Try.prog 7 #[.slice A n c] w (ResI (detA m) w) := by
  cases hm : isMatB m
  · have H := Lib.hid (detA_no1 hm)
    have HC := matCode_no hm
    have t : (matCode m != 0) = true := bne_t (by rw [HC]; omega)
    have HL := Lib.hid hl
    clear HC hl hm
    go_enter Try.func7, Try.ntmps7
    go_wp2_with fail
    refine (l01Matrix_any _ _ _ B m _ HL.out (by omega) h).mono ?_
    rintro e w' ⟨rfl, j, rfl⟩
    go_wp2
    go_ret2
    exact ResI.of H.out (below_drewN (Below.refl _ _) _)
  · obtain ⟨m1, m8, q1, q8, mw, mn⟩ := isMatB_parts hm
    have HC := matCode_yes hm
    have t : (matCode m != 0) = false := bne_f (by rw [HC])
    obtain ⟨r, hr⟩ := at_lt (show 0 < m.length by omega)
    have er : m.getD 0 [] = r := getD_of hr
    obtain ⟨ba, oa, Ak, ck, rfl, hba, hca, _, _, _⟩ := h 0 r hr
    rw [Nat.add_zero] at hca
    have n0 : (0 : Int) < (n : Int) := by omega
    have HL := Lib.hid hl
    by_cases hq : n = r.length
    · have H := Lib.hid (detA_yes hm (by rw [er, hl]; exact hq))
      have tq := bne_f (show (n : Int) = (r.length : Int) by omega)
      have HW : Hid (Wide m n) := by rw [Hid, hq, ← er]; exact mw
      have HN := Lib.hid mn
      have HD := Lib.hid (detOf_all n (by omega))
      clear HC hl hm hr er mw mn hq
      go_enter Try.func7, Try.ntmps7
      go_wp2_with fail
      refine (l01Matrix_any _ _ _ B m _ HL.out (by omega) h).mono ?_
      rintro e w' ⟨rfl, j, rfl⟩
      go_wp2_with fail
      refine (HD.out _ _ B m _ HL.out HW.out HN.out (by exact hB) (by exact h)).mono ?_
      rintro e w1 ⟨rfl, b1⟩
      have B1 : Below w.heap.size w w1 := ⟨b1.os, b1.tape, b1.output, b1.size, b1.block⟩
      go_wp2
      go_ret2
      exact ResI.of H.out B1
    · have H := Lib.hid (detA_no5 hm (by rw [er, hl]; exact hq))
      have tq := bne_t (show (n : Int) ≠ (r.length : Int) by omega)
      clear HC hl hm hr er mw mn hq
      go_enter Try.func7, Try.ntmps7
      go_wp2_with fail
      refine (l01Matrix_any _ _ _ B m _ HL.out (by omega) h).mono ?_
      rintro e w' ⟨rfl, j, rfl⟩
      go_wp2
      go_ret2
      exact ResI.of H.out (below_drewN (Below.refl _ _) _)
end Go.Proofs.Ytdgdanpkekcckaa
