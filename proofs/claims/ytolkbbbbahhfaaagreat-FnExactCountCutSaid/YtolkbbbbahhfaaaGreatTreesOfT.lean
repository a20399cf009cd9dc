/-
  The texts of the trees of a list of level lists.
-/
import Derived.Test.YtolkbbbbahhfaaaGreatForest
import Derived.Test.YtolkbbbbahhfaaaGreatForestS
import Derived.Test.YtolkbbbbahhfaaaGreatFill
import Derived.Test.YtolkbbbbahhfaaaGreatTreesOfU
namespace Go.Proofs.YtolkbbbbahhfaaaGreat
open Go.RowKit Fld
set_option linter.unusedVariables false
set_option linter.unusedSimpArgs false
set_option maxRecDepth 100000

theorem for_rows {f : List (List Int)} (h : isFor f = true) : ∀ r ∈ f, isTr r = true := fun r hr => by
  unfold isFor at h
  rw [Bool.and_eq_true] at h
  obtain ⟨k, hk⟩ := List.mem_iff_getElem?.1 hr
  have hlt : k < f.length := by
    rcases Nat.lt_or_ge k f.length with g | g
    · exact g
    · rw [List.getElem?_eq_none g] at hk; cases hk
  exact okAt_tr (okTo_at h.1 hlt) hk
theorem for_total {f : List (List Int)} (h : isFor f = true) : total f ≤ 8 := by
  unfold isFor at h
  rw [Bool.and_eq_true] at h
  simpa using h.2
theorem total_cons (x : List Int) (f : List (List Int)) : total (x :: f) = x.length + total f := by simp [total]
theorem len_total : ∀ {f : List (List Int)}, (∀ r ∈ f, 1 ≤ r.length) → f.length ≤ total f
  | [], _ => Nat.zero_le _
  | x :: f, h => by
    have h1 := len_total (f := f) (fun r hr => h r (by simp [hr]))
    have h2 := h x (by simp)
    rw [total_cons, List.length_cons]; omega
theorem flat_txt : ∀ {f : List (List Int)}, (∀ r ∈ f, Tr.isLv r = true) → (f.map Tr.txt).flatten.length = 2 * total f
  | [], _ => by simp [total]
  | x :: f, h => by
    have h1 := flat_txt (f := f) (fun r hr => h r (by simp [hr]))
    have h2 := (lv_txt (h x (by simp))).2.2.2
    rw [total_cons, List.map_cons, List.flatten_cons, List.length_append, h1, h2]; omega
end Go.Proofs.YtolkbbbbahhfaaaGreat
