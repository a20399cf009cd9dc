/-
  Cutting, gone through.
-/
import Derived.Test.YtnnihdkhblbdgaaGrfP
namespace Go.Proofs.Ytnnihdkhblbdgaa.Tr
set_option maxRecDepth 100000

/-! ## cutting -/
def chkJ (t : List Int) : Bool := !decide (can t = t) || (List.range t.length).all fun k => decide (k = 0) || (decide (txt (trunkL t k) = (cutF 8 (txt t) k).1) && decide (txt (branchL t k) = (cutF 8 (txt t) k).2) && isLv (trunkL t k) && isLv (branchL t k))
theorem chkJ_all : allLv.all chkJ = true := by decide +kernel
theorem cut_at {t : List Int} (ht : isLv t = true) (hc : can t = t) {k : Nat} (h1 : 1 ≤ k) (hk : k < t.length) : txt (trunkL t k) = (cutF 8 (txt t) k).1 ∧ txt (branchL t k) = (cutF 8 (txt t) k).2 ∧ isLv (trunkL t k) = true ∧ isLv (branchL t k) = true := by
  have h2 := all_of chkJ_all (isLv_iff.1 ht)
  unfold chkJ at h2
  rw [decide_eq_true hc] at h2
  simp only [Bool.not_true, Bool.false_or, List.all_eq_true] at h2
  have h3 := h2 k (by rw [List.mem_range]; exact hk)
  rw [decide_eq_false (show ¬ k = 0 by omega), Bool.false_or] at h3
  simp only [Bool.and_eq_true, decide_eq_true_eq] at h3
  exact ⟨h3.1.1.1, h3.1.1.2, h3.1.2, h3.2⟩
end Go.Proofs.Ytnnihdkhblbdgaa.Tr
