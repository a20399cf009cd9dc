/-
  Rerooting: what the model's recursion needs, as plain facts.
-/
import Derived.Test.YtnnihdkhblbdgaaGrfQ
import Derived.Test.YtnnihdkhblbdgaaCutP
import Derived.Test.YtnnihdkhblbdgaaSCan
namespace Go.Proofs.Ytnnihdkhblbdgaa.Tr
set_option maxRecDepth 100000

def chkV (t : List Int) : Bool := (List.range (t.length - 1)).all fun k => decide (t.getD (parL t (t.getD (k + 1) 0 - 1) (k + 1)) 0 = t.getD (k + 1) 0 - 1) && decide (parL t (t.getD (k + 1) 0 - 1) (k + 1) ≤ k) && decide (parL t (t.getD (k + 1) 0 - 1) (k + 1) < (trunkL t (k + 1)).length) && isLv (trunkL t (k + 1)) && isLv (branchL t (k + 1))
theorem chkV_all : allLv.all chkV = true := by decide +kernel
theorem par_parts {t : List Int} (h : isLv t = true) {k : Nat} (hk : k + 1 < t.length) :
    t.getD (parL t (t.getD (k + 1) 0 - 1) (k + 1)) 0 = t.getD (k + 1) 0 - 1 ∧ parL t (t.getD (k + 1) 0 - 1) (k + 1) ≤ k ∧ parL t (t.getD (k + 1) 0 - 1) (k + 1) < (trunkL t (k + 1)).length ∧ isLv (trunkL t (k + 1)) = true ∧ isLv (branchL t (k + 1)) = true := by
  have h1 := all_of chkV_all (isLv_iff.1 h)
  unfold chkV at h1
  rw [List.all_eq_true] at h1
  have h2 := h1 k (by rw [List.mem_range]; omega)
  simp only [Bool.and_eq_true, decide_eq_true_eq] at h2
  exact ⟨h2.1.1.1.1, h2.1.1.1.2, h2.1.1.2, h2.1.2, h2.2⟩
end Go.Proofs.Ytnnihdkhblbdgaa.Tr
namespace Go.Proofs.Ytnnihdkhblbdgaa
/-- rerooted lists are level lists with as many nodes -/
theorem turn_lv : ∀ (d : Nat) (t : List Int) (k : Nat), Tr.isLv t = true → k < t.length → k < d → Tr.isLv (Tr.turnF d t k) = true ∧ (Tr.turnF d t k).length = t.length
  | 0, t, k, _, _, hd => by omega
  | d+1, t, 0, h, hk, hd => by
    rw [Tr.turnF]
    exact lv_can h
  | d+1, t, k+1, h, hk, hd => by
    rw [Tr.turnF]
    obtain ⟨_, p2, p3, p4, p5⟩ := Tr.par_parts h hk
    obtain ⟨i1, i2⟩ := turn_lv d _ _ p4 p3 (by omega)
    have l1 := trunk_length (t := t) (k := k + 1) hk
    have l2 := branch_length (t := t) (k := k + 1) hk
    have hE := Tr.endL_le (t := t) (k := k + 1) hk
    have h8 := (Tr.isLv_iff.1 h).2.1
    have b1 := (Tr.isLv_iff.1 p5).1
    obtain ⟨g1, g2⟩ := Tr.graft_root p5 i1 (by omega)
    obtain ⟨c1, c2⟩ := lv_can g2
    refine ⟨c1, ?_⟩
    rw [c2, Tr.gl_length (Tr.endL_le (by omega)).2]
    omega
end Go.Proofs.Ytnnihdkhblbdgaa
