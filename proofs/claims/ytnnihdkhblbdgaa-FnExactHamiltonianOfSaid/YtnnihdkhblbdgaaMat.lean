/-
  Matrices: what is one, columns, products, the program's and the model's alike.
-/
import Derived.Test.YtnnihdkhblbdgaaNestc
import Derived.Test.YtnnihdkhblbdgaaGrow
import Derived.Deep.AppendLies
import Derived.Deep.RegionHeld3
import Derived.Outline
namespace Go.Proofs.Ytnnihdkhblbdgaa
open Go.RowKit Fld
set_option linter.unusedVariables false
set_option linter.unusedSimpArgs false
set_option maxRecDepth 100000

def colAt (m : List (List Int)) (k : Nat) : List Int := m.map fun r => r.getD k 0
theorem colAt_at {m : List (List Int)} {k j : Nat} {r : List Int} {x : Int} (h : m[j]? = some r) (hx : r[k]? = some x) : (colAt m k)[j]? = some x := by
  unfold colAt; rw [List.getElem?_map, h]; simp [hx]
theorem colAt_length (m : List (List Int)) (k : Nat) : (colAt m k).length = m.length := by simp [colAt]
/-- all rows have q numbers -/
def Wide (m : List (List Int)) (q : Nat) : Prop := ∀ r ∈ m, r.length = q
theorem Wide.at_ {m : List (List Int)} {q j : Nat} {r : List Int} (h : Wide m q) (hr : m[j]? = some r) : r.length = q := h r (List.mem_of_getElem? hr)
/-! what is a matrix -/
def okRows (q : Nat) (m : List (List Int)) : Bool := m.all fun r => decide (r.length = q) && allNum r
def isMatB (m : List (List Int)) : Bool := decide (1 ≤ m.length ∧ m.length ≤ 8 ∧ 1 ≤ (m.getD 0 []).length ∧ (m.getD 0 []).length ≤ 8) && okRows (m.getD 0 []).length m
def matCode (m : List (List Int)) : Int := if isMatB m = true then 0 else 1
theorem matCode_yes {m : List (List Int)} (h : isMatB m = true) : matCode m = 0 := if_pos h
theorem matCode_no {m : List (List Int)} (h : isMatB m = false) : matCode m = 1 := if_neg (by rw [h]; simp)
theorem isMatB_len {m : List (List Int)} (h : m.length = 0 ∨ 8 < m.length) : isMatB m = false := by
  unfold isMatB; rw [decide_eq_false (by omega)]; rfl
theorem getD_of {m : List (List Int)} {k : Nat} {r : List Int} (h : m[k]? = some r) : m.getD k [] = r := by rw [List.getD_eq_getElem?_getD, h]; rfl
theorem isMatB_row {m : List (List Int)} {r : List Int} (hr : m[0]? = some r) (h : r.length = 0 ∨ 8 < r.length) : isMatB m = false := by
  unfold isMatB; rw [getD_of hr, decide_eq_false (by omega)]; rfl
theorem isMatB_bad {m : List (List Int)} {r0 r : List Int} {k : Nat} (h0 : m[0]? = some r0) (hr : m[k]? = some r) (h : r.length ≠ r0.length ∨ allNum r = false) : isMatB m = false := by
  unfold isMatB
  rw [getD_of h0]
  have : okRows r0.length m = false := by
    unfold okRows
    rw [List.all_eq_false]
    refine ⟨r, List.mem_of_getElem? hr, ?_⟩
    rcases h with h | h
    · simp [h]
    · simp [h]
  rw [this, Bool.and_false]
theorem okRows_step {m : List (List Int)} {q k : Nat} {r : List Int} (hr : m[k]? = some r) (hq : r.length = q) (hn : allNum r = true) (h : okRows q (m.take k) = true) : okRows q (m.take (k + 1)) = true := by
  rw [List.take_add_one, hr]
  unfold okRows at *
  simp [h, hq, hn]
theorem isMatB_yes {m : List (List Int)} {r0 : List Int} {n : Nat} (h0 : m[0]? = some r0) (hl : m.length = n) (h1 : 1 ≤ n) (h8 : n ≤ 8) (hq1 : 1 ≤ r0.length) (hq8 : r0.length ≤ 8) (h : okRows r0.length (m.take n) = true) : isMatB m = true := by
  unfold isMatB
  rw [getD_of h0, decide_eq_true (by omega)]
  rw [List.take_of_length_le (by omega)] at h
  rw [h]; rfl
theorem isMatB_parts {m : List (List Int)} (h : isMatB m = true) : 1 ≤ m.length ∧ m.length ≤ 8 ∧ 1 ≤ (m.getD 0 []).length ∧ (m.getD 0 []).length ≤ 8 ∧ Wide m (m.getD 0 []).length ∧ ∀ r ∈ m, allNum r = true := by
  unfold isMatB at h
  rw [Bool.and_eq_true] at h
  obtain ⟨h1, h2⟩ := h
  have h3 := of_decide_eq_true h1
  unfold okRows at h2
  rw [List.all_eq_true] at h2
  refine ⟨h3.1, h3.2.1, h3.2.2.1, h3.2.2.2, fun r hr => ?_, fun r hr => ?_⟩
  · have := h2 r hr; simp at this; exact this.1
  · have := h2 r hr; simp at this; exact this.2

end Go.Proofs.Ytnnihdkhblbdgaa
