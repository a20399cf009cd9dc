/-
  Grafting at the root, gone through.
-/
import Derived.Test.YtnnihdkhblbdgaaGrfP
namespace Go.Proofs.Ytnnihdkhblbdgaa.Tr
set_option maxRecDepth 100000

def chkH (u : List Int) : Bool := upTo (8 - u.length) fun v => decide (txt (gl u 0 v) = grfF 8 (txt u) 0 (txt v)) && isLv (gl u 0 v)
theorem chkH_all : allLv.all chkH = true := by decide +kernel
theorem graft_root {u v : List Int} (hu : isLv u = true) (hv : isLv v = true) (h8 : u.length + v.length ≤ 8) : txt (gl u 0 v) = grfF 8 (txt u) 0 (txt v) ∧ isLv (gl u 0 v) = true := by
  have h1 := all_of chkH_all (isLv_iff.1 hu)
  unfold chkH at h1
  have h2 := upTo_of h1 hv (by omega)
  simp only [Bool.and_eq_true, decide_eq_true_eq] at h2
  exact h2
end Go.Proofs.Ytnnihdkhblbdgaa.Tr
