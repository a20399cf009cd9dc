/-
  The model's list of all trees with n nodes, plainly.
-/
import Derived.Test.YtgklilckjpbdnaaTreeN
namespace Go.Proofs.Ytgklilckjpbdnaa
set_option maxRecDepth 100000

theorem grow_trees {n : Nat} (h1 : 1 ≤ n) (h8 : n ≤ 8) : Tr.growF (n - 1) [0] [] = Tr.treesL n := by
  have h := List.all_eq_true.1 Tr.grow_eq (n - 1) (by rw [List.mem_range]; omega)
  rw [show n - 1 + 1 = n from by omega] at h
  exact eq_of_beq h
end Go.Proofs.Ytgklilckjpbdnaa
