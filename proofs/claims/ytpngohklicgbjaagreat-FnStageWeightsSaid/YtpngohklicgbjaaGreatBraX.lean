/-
  What BranchesOf answers, the program's and the model's.
-/
import Derived.Test.YtpngohklicgbjaaGreatBra
import Derived.Test.YtpngohklicgbjaaGreatSrtF
import Derived.Test.YtpngohklicgbjaaGreatResM
namespace Go.Proofs.YtpngohklicgbjaaGreat.Tr
set_option maxRecDepth 100000
def chkG (t : List Int) : Bool := decide ((sortT (brT (txt t))).map lvl = branL t) && decide ((branL t).length + ((branL t).map List.length).sum ≤ 100) && decide ((branL t).length = (brT (txt t)).length) && isTx (txt t)
theorem chkG_all : allLv.all chkG = true := by decide +kernel
end Go.Proofs.YtpngohklicgbjaaGreat.Tr
namespace Go.Proofs.YtpngohklicgbjaaGreat
open Go.RowKit Fld
set_option linter.unusedVariables false
set_option linter.unusedSimpArgs false
set_option maxRecDepth 100000

theorem bran_parts {t : List Int} (h : Tr.isLv t = true) : (Tr.sortT (Tr.brT (Tr.txt t))).map Tr.lvl = Tr.branL t ∧ (Tr.branL t).length + total (Tr.branL t) ≤ 1048576 ∧ (Tr.branL t).length = (Tr.brT (Tr.txt t)).length ∧ Tr.isTx (Tr.txt t) = true := by
  have h1 := Tr.all_of Tr.chkG_all (Tr.isLv_iff.1 h)
  unfold Tr.chkG at h1
  simp only [Bool.and_eq_true, decide_eq_true_eq] at h1
  exact ⟨h1.1.1.1, by unfold total; omega, h1.1.2, h1.2⟩
theorem tx_brk {x : List UInt8} (h : Tr.isTx x = true) : Brk x := by
  unfold Tr.isTx at h
  simp only [Bool.and_eq_true, beq_iff_eq] at h
  rw [← h.2]; exact txt_brk _ _
def branchesA (t : List Int) : List (List Int) × Int := if Tr.isLv t = true then (Tr.branL t, 0) else ([], 1)
theorem branchesA_yes {t : List Int} (h : Tr.isLv t = true) : branchesA t = (Tr.branL t, 0) := if_pos h
theorem branchesA_no {t : List Int} (h : Tr.isLv t = false) : branchesA t = ([], 1) := if_neg (by rw [h]; simp)
theorem pBranchesOf_L (A : Option Addr) (n c B : Nat) (t : List Int) (w : World) (hl : t.length = n) (hn : n ≤ 1048576) (hB : B ≤ w.heap.size) (h : Row w B A (ints t)) (hc : n ≤ c) :
    Calls Tryz.prog 10 #[.slice A n c] w (ResM (branchesA t) w) := by
  have C0 := isLevels_any A n c B t w hl (by omega) h
  cases hlv : Tr.isLv t
  · have G := Lib.hid (branchesA_no hlv)
    rw [hlv] at C0
    go_enter Tryz.func10, Tryz.ntmps10
    go_wp2_with fail
    refine C0.mono ?_
    rintro e w' ⟨rfl, m, rfl⟩
    go_wp2
    go_ret2
    exact ResM.nil G.out (below_drewN (Below.refl _ _) _)
  · rw [hlv] at C0
    obtain ⟨b1, b8⟩ := lv_bd hlv
    rw [hl] at b1 b8
    have HL := Lib.hid hl
    obtain ⟨hs1, hs2, hs3, hs4⟩ := bran_parts hlv
    have G := Lib.hid (branchesA_yes hlv)
    have HT := Lib.hid hs2
    have HS := Lib.hid hs1
    obtain ⟨hx16, hbr, hb7⟩ := Tr.br_parts hs4
    have HBB : Hid (∀ s ∈ Tr.brT (Tr.txt t), s.length ≤ 16 ∧ Brk s) := fun s hs => by
      obtain ⟨q1, q2⟩ := hbr s hs
      exact ⟨by omega, tx_brk q1⟩
    have H7 : Hid ((Tr.brT (Tr.txt t)).length ≤ 12) := by rw [Hid]; omega
    have C3 := fun w => branches_any (Tr.txt t) w hs4
    clear hl hlv hs1 hs2 hs3 hs4 hx16 hbr hb7
    go_enter Tryz.func10, Tryz.ntmps10
    go_wp2_with fail
    refine C0.mono ?_
    rintro e w' ⟨rfl, m, rfl⟩
    go_wp2_with fail
    refine (treeOf_any A n c B t _ HL.out b1 b8 hc (by exact hB) (h.drewN m)).mono ?_
    rintro e w2 ⟨rfl, bel2⟩
    have HB2 : Hid (Below w.heap.size w w2) := below_undrew' bel2
    have hs2 : w.heap.size ≤ w2.heap.size := HB2.out.size
    clear bel2
    go_wp2_with fail
    refine (C3 _).mono ?_
    rintro e w3 ⟨A3, q3, c3, rfl, hq3, own3, bel3⟩
    have HB3 : Hid (Below w.heap.size w w3) := HB2.out.trans (bel3.mono hs2)
    have hs3 := bel3.size
    have HO3 := Lib.hid own3
    have hq12 : q3 ≤ 12 := by rw [hq3]; exact H7.out
    clear bel3 own3 hq3
    go_wp2_with fail
    refine (forestOf_any A3 w2.heap.size q3 c3 (Tr.brT (Tr.txt t)) w3 hq12 HBB.out hs3 HO3.out).mono ?_
    rintro e w4 ⟨A4, c4, vs4, rfl, own4, bel4⟩
    rw [HS.out] at own4
    have GO := Lib.hid (own4.more hs2 (Nat.le_refl _))
    have GB : Hid (Below w.heap.size w w4) := HB3.out.trans (bel4.mono hs2)
    clear own4 bel4
    go_wp2
    go_ret2
    exact ResM.of G.out HT.out GO.out GB.out
end Go.Proofs.YtpngohklicgbjaaGreat
