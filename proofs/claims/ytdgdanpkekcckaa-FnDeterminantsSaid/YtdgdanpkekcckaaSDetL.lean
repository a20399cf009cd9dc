/-
  The model's determinant above four rows: the first column cleared.
-/
import Derived.Test.YtdgdanpkekcckaaSDet
namespace Go.Proofs.Ytdgdanpkekcckaa
open Go.RowKit Fld
open Det (det sm sgn sk)
set_option linter.unusedVariables false
set_option linter.unusedSimpArgs false
set_option maxRecDepth 100000

/-- a row of what is left when the row i has cleared the first column; f is the inverse -/
def restRow (m : List (List Int)) (i k : Nat) (f : Int) : List Int :=
  (List.range (m.length - 1)).map fun j => (ent m k (j + 1) - ent m k 0 * f % 10007 * ent m i (j + 1) % 10007) % 10007
def restL (m : List (List Int)) (i : Nat) (f : Int) : List (List Int) := (List.range (m.length - 1)).map fun k => restRow m i (sk i k) f
theorem restRow_length (m : List (List Int)) (i k : Nat) (f : Int) : (restRow m i k f).length = m.length - 1 := by simp [restRow]
theorem restL_length (m : List (List Int)) (i : Nat) (f : Int) : (restL m i f).length = m.length - 1 := by simp [restL]
theorem restL_wide (m : List (List Int)) (i : Nat) (f : Int) : Wide (restL m i f) (m.length - 1) := by
  intro r hr
  simp only [restL, List.mem_map] at hr
  obtain ⟨k, _, rfl⟩ := hr
  exact restRow_length ..
theorem restL_num (m : List (List Int)) (i : Nat) (f : Int) : ∀ r ∈ restL m i f, allNum r = true := by
  intro r hr
  simp only [restL, List.mem_map] at hr
  obtain ⟨k, _, rfl⟩ := hr
  unfold allNum
  rw [List.all_eq_true]
  intro x hx
  simp only [restRow, List.mem_map] at hx
  obtain ⟨j, _, rfl⟩ := hx
  exact isNum_iff.2 ⟨Int.emod_nonneg _ (by omega), by have := Int.emod_lt_of_pos (ent m (sk i k) (j + 1) - ent m (sk i k) 0 * f % 10007 * ent m i (j + 1) % 10007) (b := 10007) (by omega); omega⟩
theorem restL_ent {m : List (List Int)} {i k j : Nat} {f : Int} (hk : k < m.length - 1) (hj : j < m.length - 1) :
    ent (restL m i f) k j = (ent m (sk i k) (j + 1) - ent m (sk i k) 0 * f % 10007 * ent m i (j + 1) % 10007) % 10007 := by
  refine ent_at (r := restRow m i (sk i k) f) ?_ ?_
  · unfold restL; rw [List.getElem?_map, List.getElem?_range hk]; rfl
  · unfold restRow; rw [List.getElem?_map, List.getElem?_range hj]; rfl
theorem detL_clear {m : List (List Int)} {i : Nat} {f : Int} (h0 : 0 < m.length) (hi : i < m.length) (hf : (ent m i 0 * f) % 10007 = 1) :
    detL m = sgn i * (ent m i 0 * detL (restL m i f)) % 10007 := by
  obtain ⟨n, hn⟩ : ∃ n, m.length = n + 1 := ⟨m.length - 1, by omega⟩
  have e1 : detL m = det (n + 1) (ent m) % 10007 := by unfold detL; rw [hn]
  have e2 : detL (restL m i f) = det n (fun k j => ent m (sk i k) (j + 1) - ent m (sk i k) 0 * f * ent m i (j + 1)) % 10007 := by
    unfold detL
    rw [restL_length, hn, Nat.add_sub_cancel]
    refine Det.det_mod 10007 fun k hk j hj => ?_
    rw [restL_ent (by omega) (by omega)]
    generalize ent m (sk i k) (j + 1) = a
    generalize ent m (sk i k) 0 = b
    generalize ent m i (j + 1) = c
    rw [Int.emod_emod]
    simp [Int.mul_emod, Int.sub_emod]
  rw [e1, e2, Det.det_clear n (ent m) i f (by omega) hf]
  generalize det n _ = d
  generalize ent m i 0 = a
  simp [Int.mul_emod]
theorem detL_none {m : List (List Int)} (h0 : 0 < m.length) (h : ∀ i, i < m.length → ent m i 0 = 0) : detL m = 0 := by
  unfold detL
  rw [Det.det_col_zero h0 h]; rfl
end Go.Proofs.Ytdgdanpkekcckaa
