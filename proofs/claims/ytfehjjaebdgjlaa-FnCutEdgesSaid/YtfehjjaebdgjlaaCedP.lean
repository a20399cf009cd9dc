/-
  Plain: a branch that was cut off can be grafted back.
-/
import Derived.Test.YtfehjjaebdgjlaaGrfP
import Derived.Test.YtfehjjaebdgjlaaGrfU
namespace Go.Proofs.Ytfehjjaebdgjlaa.Tr
set_option maxRecDepth 100000

def chkCed (t : List Int) : Bool := !decide (can t = t) || (List.range (t.length - 1)).all fun k => decide ((can (trunkL t (k + 1))).length + (can (branchL t (k + 1))).length = t.length) && decide (1 ≤ cntT (txt t) (txt (can (trunkL t (k + 1)))) (txt (can (branchL t (k + 1)))) (t.length - 1)) && (List.range (can (trunkL t (k + 1))).length).any fun j => decide (can (gl (can (trunkL t (k + 1))) j (can (branchL t (k + 1)))) = t)
theorem chkCed_all : allLv.all chkCed = true := by decide +kernel
theorem cut_back {t : List Int} (h : isLv t = true) (hc : can t = t) {k : Nat} (h1 : 1 ≤ k) (hk : k < t.length) :
    (can (trunkL t k)).length + (can (branchL t k)).length = t.length ∧ 1 ≤ cntT (txt t) (txt (can (trunkL t k))) (txt (can (branchL t k))) (t.length - 1) ∧ ∃ j, j < (can (trunkL t k)).length ∧ can (gl (can (trunkL t k)) j (can (branchL t k))) = t := by
  obtain ⟨m, rfl⟩ : ∃ m, k = m + 1 := ⟨k - 1, by omega⟩
  have h2 := all_of chkCed_all (isLv_iff.1 h)
  unfold chkCed at h2
  rw [hc] at h2
  simp only [decide_true, Bool.not_true, Bool.false_or, List.all_eq_true, List.mem_range, Bool.and_eq_true, decide_eq_true_eq, List.any_eq_true] at h2
  obtain ⟨⟨a, b⟩, j, c, d⟩ := h2 m (by omega)
  exact ⟨a, b, j, c, d⟩
end Go.Proofs.Ytfehjjaebdgjlaa.Tr
