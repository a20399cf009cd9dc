/-
  Grafting at all nodes, gone through.
-/
import Derived.Test.YtfehjjaebdgjlaaGrfP
namespace Go.Proofs.Ytfehjjaebdgjlaa.Tr
set_option maxRecDepth 100000

def chkI (u : List Int) : Bool := upTo (8 - u.length) fun v => (List.range u.length).all fun k => decide (txt (gl u k v) = grfF 8 (txt u) k (txt v)) && isLv (gl u k v)
def chkI' (u : List Int) : Bool := !decide (can u = u) || chkI u
theorem chkI_all : allLv.all chkI' = true := by decide +kernel
theorem graft_at {u v : List Int} (hu : isLv u = true) (hc : can u = u) (hv : isLv v = true) (h8 : u.length + v.length ≤ 8) {k : Nat} (hk : k < u.length) : txt (gl u k v) = grfF 8 (txt u) k (txt v) ∧ isLv (gl u k v) = true := by
  have h1 := all_of chkI_all (isLv_iff.1 hu)
  unfold chkI' chkI at h1
  rw [decide_eq_true hc] at h1
  have h2 := upTo_of (by simpa using h1) hv (by omega)
  rw [List.all_eq_true] at h2
  have h3 := h2 k (by rw [List.mem_range]; exact hk)
  simp only [Bool.and_eq_true, decide_eq_true_eq] at h3
  exact h3
end Go.Proofs.Ytfehjjaebdgjlaa.Tr
