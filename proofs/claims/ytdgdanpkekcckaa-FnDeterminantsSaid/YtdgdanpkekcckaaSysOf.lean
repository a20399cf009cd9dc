/-
  The copy that the program's elimination starts from, and the program's Determinant.
-/
import Derived.Test.YtdgdanpkekcckaaSysO
import Derived.Test.YtdgdanpkekcckaaReduce
import Derived.Test.YtdgdanpkekcckaaSDetC
import Derived.OwnWalk
namespace Go.Proofs.Ytdgdanpkekcckaa
open Go.RowKit Fld
set_option linter.unusedVariables false
set_option linter.unusedSimpArgs false
set_option maxRecDepth 100000


theorem detL_of {m : List (List Int)} {n : Nat} (hl : m.length = n) : Det.det n (ent m) % 10007 = detL m := by unfold detL; rw [hl]
set_option maxHeartbeats 800000 in
theorem pDeterminant_any (A : Option Addr) (n c B : Nat) (m : List (List Int)) (w : World) (hl : m.length = n) (hn : n ≤ 1048576) (hB : B ≤ w.heap.size) (h : Mat w B A m) :
    Calls Try.prog 6 #[.slice A n c] w (ResI (detA m) w) := by
  cases hm : isMatB m
  · have H := Lib.hid (detA_no1 hm)
    have HL := Lib.hid hl
    have HM := Lib.hid hm
    clear hl hm
    go_enter Try.func6, Try.ntmps6
    go_wp2_with fail
    refine (isMatrix_any _ _ _ B m _ HL.out (by omega) h).mono ?_
    rintro e w' ⟨rfl, rfl⟩
    rw [HM.out]
    go_wp2
    go_ret2
    exact ResI.of H.out (Below.refl _ _)
  · obtain ⟨m1, m8, q1, q8, mw, mn⟩ := isMatB_parts hm
    obtain ⟨r, hr⟩ := at_lt (show 0 < m.length by omega)
    have er : m.getD 0 [] = r := getD_of hr
    obtain ⟨ba, oa, Ak, ck, rfl, hba, hca, _, _, _⟩ := h 0 r hr
    rw [Nat.add_zero] at hca
    have n0 : (0 : Int) < (n : Int) := by omega
    have HL := Lib.hid hl
    have HM := Lib.hid hm
    by_cases hq : n = r.length
    · have H := Lib.hid (detA_yes hm (by rw [er, hl]; exact hq))
      have tq := bne_f (show (n : Int) = (r.length : Int) by omega)
      have HW : Hid (Wide m n) := by rw [Hid, hq, ← er]; exact mw
      have HN := Lib.hid mn
      have n8 : n ≤ 8 := by omega
      have hB' := Lib.hid hB
      clear hl hm hr er mw mn hq
      go_enter Try.func6, Try.ntmps6
      go_wp2_with fail
      refine (isMatrix_any _ _ _ B m _ HL.out (by omega) h).mono ?_
      rintro e w' ⟨rfl, rfl⟩
      rw [HM.out]
      go_wp2_with fail
      refine (systemOf_any _ n _ B n m _ HL.out n8 HW.out (by omega) hB h).mono ?_
      rintro e w2 hN
      obtain ⟨A5, c5, vs, rfl, own, b5⟩ := hN
      rcases own.outer.1.2 with ⟨_, e2⟩ | ⟨g, cap, cur, hv, hg1, _⟩
      · omega
      · injection hv with e1 e2 e3
        subst e1 e3
        have hg2 : g < w2.heap.size := own.outer.2 g rfl
        have B5 := Lib.hid b5
        clear b5
        go_wp2_with fail
        refine (reduce_any g n c5 w.heap.size w2.heap.size n m vs _ HW.out HN.out n8 (Nat.le_refl _) (by omega) (Nat.le_refl _) ⟨hg1, hg2⟩ own).mono ?_
        rintro e w3 ⟨rfl, hw3⟩
        rw [detL_of HL.out]
        have B6 := Lib.hid (B5.out.trans (hw3.below (Nat.le_refl _) B5.out.size))
        clear hw3
        go_wp2
        go_ret2
        exact ResI.of H.out B6.out
    · have H := Lib.hid (detA_no5 hm (by rw [er, hl]; exact hq))
      have tq := bne_t (show (n : Int) ≠ (r.length : Int) by omega)
      clear hl hm hr er mw mn hq
      go_enter Try.func6, Try.ntmps6
      go_wp2_with fail
      refine (isMatrix_any _ _ _ B m _ HL.out (by omega) h).mono ?_
      rintro e w' ⟨rfl, rfl⟩
      rw [HM.out]
      go_wp2
      go_ret2
      exact ResI.of H.out (Below.refl _ _)
end Go.Proofs.Ytdgdanpkekcckaa
