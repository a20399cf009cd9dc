/-
  Maps of trees, plainly: which lists are maps, the numbers of nodes at their places, and what is made of them.
-/
import Derived.Test.YtgklilckjpbdnaaTreeAtX
import Derived.Test.YtgklilckjpbdnaaMpQ
import Derived.Test.YtgklilckjpbdnaaCan
namespace Go.Proofs.Ytgklilckjpbdnaa
open Go.RowKit Fld
set_option linter.unusedVariables false
set_option linter.unusedSimpArgs false
set_option maxRecDepth 100000

/-- the numbers of nodes of the trees at the places of a map -/
def lens : List Nat := [0, 1, 2, 3, 3, 4, 4, 4, 4, 5, 5, 5, 5, 5, 5, 5, 5, 5, 6, 6, 6, 6, 6, 6, 6, 6, 6, 6, 6, 6, 6, 6, 6, 6, 6, 6, 6, 6]
theorem lens_len : lens.length = 38 := rfl
theorem lens_bd : ∀ l ∈ lens, l ≤ 6 := by decide
theorem lens_to : lens = 0 :: (treesTo 6).map List.length := by decide +kernel
theorem to_len : (treesTo 6).length = 37 := by
  have := congrArg List.length lens_to
  rw [List.length_cons, List.length_map, lens_len] at this; omega
theorem lens_at {k : Nat} (h : k < 38) : ∃ l, lens[k]? = some l ∧ l ≤ 6 := by
  have h2 : k < lens.length := by rw [lens_len]; exact h
  exact ⟨lens[k], List.getElem?_eq_getElem h2, lens_bd _ (List.getElem_mem h2)⟩
theorem to_at {k : Nat} {t : List Int} (h : (treesTo 6)[k]? = some t) : lens[k + 1]? = some t.length := by
  rw [lens_to, List.getElem?_cons_succ, List.getElem?_map, h]; rfl
/-- the texts of the trees at the places of a map -/
def mapTx : List (List UInt8) := [] :: (treesTo 6).map Tr.txt
theorem mapTx_len : mapTx.length = 38 := by unfold mapTx; rw [List.length_cons, List.length_map, to_len]
theorem mapTx_lens : mapTx.map List.length = lens.map (2 * ·) := by decide +kernel
theorem mapTx_at {k l : Nat} (h : lens[k]? = some l) : ∃ x, mapTx[k]? = some x ∧ x.length = 2 * l := by
  have e : (mapTx.map List.length)[k]? = some (2 * l) := by rw [mapTx_lens, List.getElem?_map, h]; rfl
  rw [List.getElem?_map] at e
  cases hx : mapTx[k]? with
  | none => rw [hx] at e; cases e
  | some x => rw [hx] at e; exact ⟨x, rfl, by simpa using e⟩
/-- up to which number of nodes two maps agree -/
def agrL : List Int → List Int → List Nat → Int
  | x :: xs, y :: ys, l :: ls => if x = y then agrL xs ys ls else (l : Int) - 1
  | _, _, _ => 6
def agrA (a b : List Int) : Int := agrL a b lens
theorem drop_at {α : Type} {L : List α} {k : Nat} {x : α} (h : L[k]? = some x) : L.drop k = x :: L.drop (k + 1) := by
  have hlt : k < L.length := by
    rcases Nat.lt_or_ge k L.length with g | g
    · exact g
    · rw [List.getElem?_eq_none g] at h; cases h
  rw [List.getElem?_eq_getElem hlt] at h
  injection h with h
  rw [List.drop_eq_getElem_cons hlt, h]
theorem agr_next {a b : List Int} {k : Nat} {x y : Int} {l : Nat} (hx : a[k]? = some x) (hy : b[k]? = some y) (hl : lens[k]? = some l) (e : x = y) : agrL (a.drop k) (b.drop k) (lens.drop k) = agrL (a.drop (k + 1)) (b.drop (k + 1)) (lens.drop (k + 1)) := by
  rw [drop_at hx, drop_at hy, drop_at hl, agrL, if_pos e]
theorem agr_stop {a b : List Int} {k : Nat} {x y : Int} {l : Nat} (hx : a[k]? = some x) (hy : b[k]? = some y) (hl : lens[k]? = some l) (e : x ≠ y) : agrL (a.drop k) (b.drop k) (lens.drop k) = (l : Int) - 1 := by
  rw [drop_at hx, drop_at hy, drop_at hl, agrL, if_neg e]
theorem agr_end {a b : List Int} : agrL (a.drop 38) (b.drop 38) (lens.drop 38) = 6 := by
  have e : lens.drop 38 = [] := rfl
  rw [e]
  cases a.drop 38 <;> cases b.drop 38 <;> rfl
theorem agr_start (a b : List Int) : agrA a b = agrL (a.drop 0) (b.drop 0) (lens.drop 0) := rfl
/-- a map with 0 at all trees with more than n nodes -/
def truncL (a : List Int) (n : Int) : List Int := List.zipWith (fun x (l : Nat) => if n < (l : Int) then 0 else x) a lens
theorem truncL_length {a : List Int} (h : a.length = 38) (n : Int) : (truncL a n).length = 38 := by unfold truncL; rw [List.length_zipWith, h, lens_len, Nat.min_self]
theorem truncL_at {a : List Int} {n : Int} {k l : Nat} {x : Int} (hx : a[k]? = some x) (hl : lens[k]? = some l) : (truncL a n)[k]? = some (if n < (l : Int) then 0 else x) := by
  unfold truncL; rw [List.getElem?_zipWith, hx, hl]
def scaleL (a : List Int) (y : Int) : List Int := List.zipWith (fun x l => x * pw y l % 10007) a lens
theorem scaleL_length {a : List Int} (h : a.length = 38) (y : Int) : (scaleL a y).length = 38 := by unfold scaleL; rw [List.length_zipWith, h, lens_len, Nat.min_self]
theorem scaleL_at {a : List Int} {y : Int} {k l : Nat} {x : Int} (hx : a[k]? = some x) (hl : lens[k]? = some l) : (scaleL a y)[k]? = some (x * pw y l % 10007) := by
  unfold scaleL; rw [List.getElem?_zipWith, hx, hl]
/-- the answers -/
def agreeA (a b : List Int) : Int × Int := if isMp a = true ∧ isMp b = true then (agrA a b, 0) else (0, 1)
theorem agreeA_no1 {a b : List Int} (h : isMp a = false) : agreeA a b = (0, 1) := if_neg (by rw [h]; simp)
theorem agreeA_no2 {a b : List Int} (h : isMp b = false) : agreeA a b = (0, 1) := if_neg (by rw [h]; simp)
theorem agreeA_yes {a b : List Int} (h : isMp a = true) (k : isMp b = true) : agreeA a b = (agrA a b, 0) := if_pos ⟨h, k⟩
def truncA (a : List Int) (y : Int) : List Int × Int := if isMp a = true then (if 0 ≤ y ∧ y ≤ 6 then (truncL a y, 0) else ([], 2)) else ([], 1)
theorem truncA_no {a : List Int} {y : Int} (h : isMp a = false) : truncA a y = ([], 1) := if_neg (by rw [h]; simp)
theorem truncA_out {a : List Int} {y : Int} (h : isMp a = true) (hy : ¬ (0 ≤ y ∧ y ≤ 6)) : truncA a y = ([], 2) := by unfold truncA; rw [if_pos h, if_neg hy]
theorem truncA_yes {a : List Int} {y : Int} (h : isMp a = true) (hy : 0 ≤ y ∧ y ≤ 6) : truncA a y = (truncL a y, 0) := by unfold truncA; rw [if_pos h, if_pos hy]
def scaleMA (a : List Int) (y : Int) : List Int × Int := if isMp a = true then (if 0 ≤ y ∧ y < 10007 then (scaleL a y, 0) else ([], 2)) else ([], 1)
theorem scaleMA_no {a : List Int} {y : Int} (h : isMp a = false) : scaleMA a y = ([], 1) := if_neg (by rw [h]; simp)
theorem scaleMA_out {a : List Int} {y : Int} (h : isMp a = true) (hy : ¬ (0 ≤ y ∧ y < 10007)) : scaleMA a y = ([], 2) := by unfold scaleMA; rw [if_pos h, if_neg hy]
theorem scaleMA_yes {a : List Int} {y : Int} (h : isMp a = true) (hy : 0 ≤ y ∧ y < 10007) : scaleMA a y = (scaleL a y, 0) := by unfold scaleMA; rw [if_pos h, if_pos hy]
end Go.Proofs.Ytgklilckjpbdnaa
