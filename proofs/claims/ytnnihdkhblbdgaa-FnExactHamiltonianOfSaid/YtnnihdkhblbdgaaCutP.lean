/-
  How long what a cut leaves is.
-/
import Derived.Test.YtnnihdkhblbdgaaGrfR
import Derived.Test.YtnnihdkhblbdgaaCan
namespace Go.Proofs.Ytnnihdkhblbdgaa
open Go.RowKit Fld
set_option linter.unusedVariables false
set_option maxRecDepth 100000

theorem trunk_length {t : List Int} {k : Nat} (hk : k < t.length) : (Tr.trunkL t k).length = t.length - (Tr.endL t k - k) := by
  obtain ⟨h1, h2⟩ := Tr.endL_le hk
  unfold Tr.trunkL
  rw [List.length_append, List.length_take, List.length_drop]; omega
theorem branch_length {t : List Int} {k : Nat} (hk : k < t.length) : (Tr.branchL t k).length = Tr.endL t k - k := by
  obtain ⟨h1, h2⟩ := Tr.endL_le hk
  unfold Tr.branchL
  rw [List.length_map, List.length_take, List.length_drop]; omega
end Go.Proofs.Ytnnihdkhblbdgaa
