/-
  Polynomials of nodes, plainly.
-/
import Derived.Test.YtfllcdcgfpjabaaSerl
import Derived.Test.YtfllcdcgfpjabaaAsP
import Derived.Test.YtfllcdcgfpjabaaDiM
namespace Go.Proofs.Ytfllcdcgfpjabaa
open Go.RowKit Fld Ser
set_option linter.unusedVariables false
set_option linter.unusedSimpArgs false
set_option maxRecDepth 100000

/-- z - x -/
def linF (x : Int) : Nat → Int := fun k => if k = 0 then -x else if k = 1 then 1 else 0
/-- the product of all z - c up to k -/
def plF (c : List Int) : Nat → Nat → Int
  | 0 => one
  | k+1 => cv (plF c k) (linF (c.getD k 0))
theorem cv_lin0 (f : Nat → Int) (x : Int) : cv f (linF x) 0 = -(x * f 0) := by
  unfold cv
  simp [sm, linF, Int.mul_comm]
  exact Int.neg_mul x (f 0)
theorem cv_lin (f : Nat → Int) (x : Int) (j : Nat) : cv f (linF x) (j + 1) = f j - x * f (j + 1) := by
  unfold cv
  show sm (j + 1) _ + f (j + 1) * linF x (j + 1 - (j + 1)) = _
  show (sm j _ + f j * linF x (j + 1 - j)) + _ = _
  rw [sm_zero (n := j) (fun i hi => by unfold linF; rw [if_neg (by omega), if_neg (by omega), Int.mul_zero])]
  rw [show j + 1 - j = 1 by omega, show j + 1 - (j + 1) = 0 by omega]
  unfold linF
  rw [if_neg (by omega), if_pos rfl, if_pos rfl, Int.mul_one, Int.mul_neg, Int.mul_comm (f (j + 1))]
  omega
theorem plF_deg (c : List Int) : ∀ k j, k < j → plF c k j = 0
  | 0, j, h => by show one j = 0; unfold one; rw [if_neg (by omega)]
  | k+1, j, h => by
    obtain ⟨i, rfl⟩ : ∃ i, j = i + 1 := ⟨j - 1, by omega⟩
    show cv _ _ (i + 1) = 0
    rw [cv_lin, plF_deg c k i (by omega), plF_deg c k (i + 1) (by omega), Int.mul_zero, Int.sub_zero]
theorem pl_prog {c : List Int} {k : Nat} {x : Int} (hx : c[k]? = some x) : cl 16 (cv (co (cl 16 (plF c k))) (co (cl 16 (linF x)))) = cl 16 (plF c (k + 1)) := by
  have e : c.getD k 0 = x := by rw [List.getD_eq_getElem?_getD, hx]; rfl
  refine cl_cg ?_
  show Cg 16 _ (cv (plF c k) (linF (c.getD k 0)))
  rw [e]
  exact (co_cg 16 _).cv (co_cg 16 _)
theorem lin_arr (x : Int) : cl 16 (linF x) = (-x % 10007) :: 1 :: List.replicate 14 0 := by
  apply List.ext_getElem?
  intro i
  rcases Nat.lt_or_ge i 16 with g | g
  · rw [cl_at _ g]
    match i with
    | 0 => rfl
    | 1 => rfl
    | i+2 =>
      rw [List.getElem?_cons_succ, List.getElem?_cons_succ, List.getElem?_replicate, if_pos (by omega)]
      unfold linF; rw [if_neg (by omega), if_neg (by omega)]; rfl
  · rw [List.getElem?_eq_none (by rw [cl_length]; exact g), List.getElem?_eq_none (by simp; omega)]
/-- a polynomial times z - x, as the model does it; and what stands after i steps -/
def facC (p : List Int) (x : Int) (j : Nat) : Int := ((if j = 0 then 0 else p.getD (j - 1) 0) - x * p.getD j 0 % 10007) % 10007
def facP (p : List Int) (x : Int) (i : Nat) : List Int := (List.range (p.length + 1)).map fun j => if j < i then facC p x j else if j = i ∧ 0 < i then p.getD (i - 1) 0 else 0
theorem facP_length (p : List Int) (x : Int) (i : Nat) : (facP p x i).length = p.length + 1 := by simp [facP]
theorem facP_at {p : List Int} {x : Int} {i j : Nat} (h : j < p.length + 1) : (facP p x i)[j]? = some (if j < i then facC p x j else if j = i ∧ 0 < i then p.getD (i - 1) 0 else 0) := by
  unfold facP; rw [List.getElem?_map, List.getElem?_range h]; rfl
theorem facP_start (p : List Int) (x : Int) {n : Nat} (h : p.length + 1 = n) : facP p x 0 = List.replicate n 0 := by
  subst h
  rw [List.eq_replicate_iff]
  refine ⟨facP_length _ _ _, fun y hy => ?_⟩
  unfold facP at hy
  obtain ⟨t, _, rfl⟩ := List.mem_map.1 hy
  rw [if_neg (by omega), if_neg (by omega)]
theorem facP_step {p : List Int} {x y : Int} {i : Nat} (hy : p[i]? = some y) : ((facP p x i).set (i + 1) y).set i (((if i = 0 then 0 else p.getD (i - 1) 0) - x * y % 10007) % 10007) = facP p x (i + 1) := by
  have hi := (List.getElem?_eq_some_iff.1 hy).1
  have e : p.getD i 0 = y := by rw [List.getD_eq_getElem?_getD, hy]; rfl
  apply List.ext_getElem?
  intro j
  by_cases hj : j < p.length + 1
  · rw [facP_at hj]
    by_cases e1 : i = j
    · subst e1
      rw [List.getElem?_set_self (by rw [List.length_set, facP_length]; exact hj), if_pos (show i < i + 1 by omega)]
      unfold facC; rw [e]
    · rw [List.getElem?_set_ne e1]
      by_cases e2 : i + 1 = j
      · subst e2
        rw [List.getElem?_set_self (by rw [facP_length]; exact hj), if_neg (by omega), if_pos ⟨rfl, by omega⟩, Nat.add_sub_cancel, e]
      · rw [List.getElem?_set_ne e2, facP_at hj]
        by_cases h1 : j < i
        · rw [if_pos h1, if_pos (by omega)]
        · rw [if_neg h1, if_neg (by omega), if_neg (by omega), if_neg (by omega)]
  · rw [List.getElem?_eq_none (by rw [List.length_set, List.length_set, facP_length]; omega), List.getElem?_eq_none (by rw [facP_length]; omega)]
theorem facP_end {c : List Int} {k : Nat} {x : Int} (hx : c[k]? = some x) : facP (cl (k + 1) (plF c k)) x (k + 1) = cl (k + 2) (plF c (k + 1)) := by
  have ec : c.getD k 0 = x := by rw [List.getD_eq_getElem?_getD, hx]; rfl
  have hl : (cl (k + 1) (plF c k)).length = k + 1 := cl_length _ _
  have hg : ∀ j, (cl (k + 1) (plF c k)).getD j 0 = plF c k j % 10007 := fun j => by
    rw [List.getD_eq_getElem?_getD]
    rcases Nat.lt_or_ge j (k + 1) with g | g
    · rw [cl_at _ g]; rfl
    · rw [List.getElem?_eq_none (by rw [hl]; exact g), plF_deg c k j (by omega)]; rfl
  apply List.ext_getElem?
  intro j
  rcases Nat.lt_or_ge j (k + 2) with g | g
  · rw [facP_at (by rw [hl]; exact g), cl_at _ g]
    congr 1
    show _ = cv (plF c k) (linF (c.getD k 0)) j % 10007
    rw [ec]
    by_cases h1 : j < k + 1
    · rw [if_pos h1]
      unfold facC
      simp only [hg]
      by_cases h0 : j = 0
      · subst h0
        rw [if_pos rfl, cv_lin0]
        have := (Eqm.refl x).mul (Eqm.mod (plF c k 0))
        unfold Eqm at this
        omega
      · obtain ⟨i, rfl⟩ : ∃ i, j = i + 1 := ⟨j - 1, by omega⟩
        rw [if_neg (by omega), cv_lin, Nat.add_sub_cancel]
        have := (Eqm.refl x).mul (Eqm.mod (plF c k (i + 1)))
        unfold Eqm at this
        omega
    · obtain rfl : j = k + 1 := by omega
      rw [if_neg (by omega), if_pos ⟨rfl, by omega⟩, Nat.add_sub_cancel, hg, cv_lin, plF_deg c k (k + 1) (by omega), Int.mul_zero, Int.sub_zero]
  · rw [List.getElem?_eq_none (by rw [facP_length, hl]; omega), List.getElem?_eq_none (by rw [cl_length]; exact g)]
/-- what NodePolynomial answers -/
def nodePolyA (ns : List Int) : List Int × Int := if nodesC ns = 0 then (cl (ns.length + 1) (plF ns ns.length), 0) else ([], nodesC ns)
/-- integrals from 0 to 1 of a polynomial times a power -/
def igP (f : Nat → Int) (m : Nat) : Nat → Int
  | 0 => 0
  | k+1 => (igP f m k + f k % 10007 * inv ((k : Int) + (m : Int) + 1) % 10007) % 10007
theorem igP_bd (f : Nat → Int) (m k : Nat) : 0 ≤ igP f m k ∧ igP f m k < 10007 := by
  cases k with
  | zero => exact ⟨by simp [igP], by simp [igP]⟩
  | succ k => unfold igP; omega
theorem igP_more {f : Nat → Int} {m n : Nat} (h : ∀ j, n ≤ j → f j = 0) : ∀ d, igP f m (n + d) = igP f m n
  | 0 => rfl
  | d+1 => by
    have := igP_bd f m n
    rw [show n + (d + 1) = (n + d) + 1 from rfl, igP, igP_more h d, h (n + d) (by omega), Int.zero_emod, Int.zero_mul, Int.zero_emod]
    omega
noncomputable def orthP (ns : List Int) (m : Nat) : Prop := igP (plF ns ns.length) m (ns.length + 1) = 0
noncomputable def orthA (ns : List Int) : Int × Int := if nodesC ns = 0 then ((ordF (orthP ns) 0 8 : Nat), 0) else (0, nodesC ns)
/-- the model's integral of a polynomial times z^m from 0 to x -/
def igX (p : List Int) (m : Nat) (x : Int) : Nat → Int
  | 0 => 0
  | k+1 => (igX p m x k + p.getD k 0 * (pw x (k + m + 1) * inv ((k : Int) + (m : Int) + 1) % 10007) % 10007) % 10007
theorem igX_bd (p : List Int) (m : Nat) (x : Int) (k : Nat) : 0 ≤ igX p m x k ∧ igX p m x k < 10007 := by
  cases k with
  | zero => exact ⟨by simp [igX], by simp [igX]⟩
  | succ k => unfold igX; omega
theorem igX_next {p : List Int} {m k : Nat} {x y : Int} (hy : p[k]? = some y) : igX p m x (k + 1) = (igX p m x k + y * (pw x (k + m + 1) * inv ((k : Int) + (m : Int) + 1) % 10007) % 10007) % 10007 := by
  rw [igX, List.getD_eq_getElem?_getD, hy]; rfl
theorem pw_one (k : Nat) : pw 1 k = 1 := by unfold pw; rw [Int.one_pow]; rfl
theorem igX_one {f : Nat → Int} {m n : Nat} : ∀ k, k ≤ n → igX (cl n f) m 1 k = igP f m k
  | 0, _ => rfl
  | k+1, h => by
    rw [igX_next (cl_at f (show k < n by omega)), igX_one k (by omega), pw_one, Int.one_mul, Int.emod_eq_of_lt (inv_lo _) (inv_hi _)]
    rfl
end Go.Proofs.Ytfllcdcgfpjabaa
