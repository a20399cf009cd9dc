/-
  Level lists: what the tests answer, the program's and the model's.
-/
import Derived.Test.YtnnihdkhblbdgaaSlices
import Derived.Test.YtnnihdkhblbdgaaTree
import Derived.Test.YtnnihdkhblbdgaaRes1
namespace Go.Proofs.Ytnnihdkhblbdgaa
open Go.RowKit Fld
set_option linter.unusedVariables false
set_option linter.unusedSimpArgs false
set_option maxRecDepth 100000

theorem below_undrew' {w w' : World} {a : Nat} (h : Below (w.drewN a).heap.size (w.drewN a) w') : Below w.heap.size w w' := ⟨h.os, h.tape, h.output, h.size, h.block⟩
theorem lv_at {t : List Int} {k : Nat} {x : Int} (h : t[k]? = some x) : t.getD k 0 = x := by rw [List.getD_eq_getElem?_getD, h]; rfl
/-- the steps up to a place are those of a level list -/
def StepsTo (t : List Int) (k : Nat) : Prop := ∀ i, i < k → 1 ≤ i → 1 ≤ t.getD i 0 ∧ t.getD i 0 ≤ t.getD (i - 1) 0 + 1
theorem StepsTo.one (t : List Int) : StepsTo t 1 := fun i h1 h2 => by omega
theorem StepsTo.step {t : List Int} {k : Nat} {x y : Int} (h : StepsTo t k) (hx : t.getD k 0 = x) (hy : t.getD (k - 1) 0 = y) (h1 : 1 ≤ x) (h2 : x ≤ y + 1) : StepsTo t (k + 1) := fun i hi h3 => by
  by_cases e : i = k
  · subst e; rw [hx, hy]; exact ⟨h1, h2⟩
  · exact h i (by omega) h3
theorem StepsTo.lv {t : List Int} {n : Nat} (h : StepsTo t n) (hl : t.length = n) (h1 : 1 ≤ n) (h8 : n ≤ 8) (h0 : t.getD 0 0 = 0) : Tr.isLv t = true :=
  Tr.isLv_iff.2 ⟨by omega, by omega, h0, fun i hi h2 => h i (by omega) h2⟩
theorem StepsTo.le {t : List Int} {n : Nat} (h : StepsTo t n) (h0 : t.getD 0 0 = 0) : ∀ k, k < n → t.getD k 0 ≤ (k : Int)
  | 0, _ => by rw [h0]; exact Int.le_refl _
  | k+1, hk => by
    have h1 := StepsTo.le h h0 k (by omega)
    have h2 := (h (k + 1) hk (by omega)).2
    rw [Nat.add_sub_cancel] at h2
    omega
theorem lv_no_len {t : List Int} (h : t.length = 0 ∨ 8 < t.length) : Tr.isLv t = false := by
  apply Bool.eq_false_iff.2
  intro e
  obtain ⟨h0, h1, _⟩ := Tr.isLv_iff.1 e
  omega
theorem lv_no_head {t : List Int} (h : t.getD 0 0 ≠ 0) : Tr.isLv t = false := by
  apply Bool.eq_false_iff.2
  intro e
  exact h (Tr.isLv_iff.1 e).2.2.1
theorem lv_no_at {t : List Int} {k : Nat} {x y : Int} (hx : t.getD k 0 = x) (hy : t.getD (k - 1) 0 = y) (hk : k < t.length) (h1 : 1 ≤ k) (h : x < 1 ∨ y + 1 < x) : Tr.isLv t = false := by
  apply Bool.eq_false_iff.2
  intro e
  have := (Tr.isLv_iff.1 e).2.2.2 k hk h1
  rw [hx, hy] at this
  omega
theorem lv_no_big {t : List Int} {k : Nat} {y : Int} (hy : t.getD k 0 = y) (hk : k < t.length) (h : 8 < y) : Tr.isLv t = false := by
  apply Bool.eq_false_iff.2
  intro e
  have h1 := Tr.isLv_iff.1 e
  have h2 : StepsTo t t.length := h1.2.2.2
  have := h2.le h1.2.2.1 k hk
  have := h1.2.1
  omega
theorem StepsTo.bd {t : List Int} {n k : Nat} {y : Int} (h : StepsTo t n) (h0 : t.getD 0 0 = 0) (hk : k < n) (hy : t.getD k 0 = y) : 0 ≤ y ∧ y ≤ (k : Int) := by
  have h1 := h.le h0 k hk
  rw [hy] at h1
  refine ⟨?_, h1⟩
  rcases Nat.eq_zero_or_pos k with e | e
  · rw [e, h0] at hy; omega
  · have := (h k hk e).1; rw [hy] at this; omega
end Go.Proofs.Ytnnihdkhblbdgaa
