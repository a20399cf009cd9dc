/-
  What the elimination leaves on the right of a square matrix with the unit matrix beside it is what the rule of Cramer says (plain).
-/
import Derived.Test.YtdgdanpkekcckaaSysM
import Derived.Test.YtdgdanpkekcckaaDetMod
namespace Go.Proofs.Ytdgdanpkekcckaa
open Go.RowKit Fld
open Det (det sm)
set_option linter.unusedVariables false
set_option linter.unusedSimpArgs false
set_option maxRecDepth 100000

theorem ent_getD (m : List (List Int)) (i j : Nat) : ent m i j = (m.getD i []).getD j 0 := rfl
/-- the rows up to k have their 1 on the right -/
def augRow (m : List (List Int)) (n i : Nat) : List Int := m.getD i [] ++ List.replicate n 0
def augL (m : List (List Int)) (n k : Nat) : List (List Int) := (List.range m.length).map fun i => if i < k then (augRow m n i).set (n + i) 1 else augRow m n i
theorem augL_length (m : List (List Int)) (n k : Nat) : (augL m n k).length = m.length := by simp [augL]
theorem augL_at {m : List (List Int)} {n k i : Nat} (hi : i < m.length) : (augL m n k)[i]? = some (if i < k then (augRow m n i).set (n + i) 1 else augRow m n i) := by
  unfold augL; rw [List.getElem?_map, List.getElem?_range hi]; rfl
theorem augL_zero (m : List (List Int)) (n : Nat) : augL m n 0 = padL m n := by
  apply List.ext_getElem?
  intro i
  by_cases hi : i < m.length
  · obtain ⟨r, hr⟩ := at_lt hi
    rw [augL_at hi, padL_at hr, if_neg (by omega)]
    unfold augRow; rw [getD_of hr]
  · rw [List.getElem?_eq_none (by rw [augL_length]; omega), List.getElem?_eq_none (by rw [padL_length]; omega)]
theorem augL_step {m : List (List Int)} {n k : Nat} (hk : k < m.length) : (augL m n k).set k ((augRow m n k).set (n + k) 1) = augL m n (k + 1) := by
  apply List.ext_getElem?
  intro i
  by_cases hi : i < m.length
  · by_cases e : k = i
    · subst e
      rw [List.getElem?_set_self (by rw [augL_length]; exact hk), augL_at hi, if_pos (by omega)]
    · rw [List.getElem?_set_ne e, augL_at hi, augL_at hi]
      by_cases h : i < k
      · rw [if_pos h, if_pos (by omega)]
      · rw [if_neg h, if_neg (by omega)]
  · rw [List.getElem?_eq_none (by rw [List.length_set, augL_length]; omega), List.getElem?_eq_none (by rw [augL_length]; omega)]
theorem augRow_length {m : List (List Int)} {n i : Nat} (hw : Wide m n) (hi : i < m.length) : (augRow m n i).length = n + n := by
  obtain ⟨r, hr⟩ := at_lt hi
  unfold augRow
  rw [getD_of hr, List.length_append, List.length_replicate, hw.at_ hr]
theorem augL_wide {m : List (List Int)} {n k : Nat} (hw : Wide m n) : Wide (augL m n k) (n + n) := by
  intro r hr
  obtain ⟨i, hi⟩ := List.getElem?_of_mem hr
  have hil : i < m.length := by
    rcases Nat.lt_or_ge i m.length with g | g
    · exact g
    · rw [List.getElem?_eq_none (by rw [augL_length]; exact g)] at hi; cases hi
  rw [augL_at hil] at hi
  injection hi with hi
  subst hi
  split
  · rw [List.length_set, augRow_length hw hil]
  · exact augRow_length hw hil
theorem augL_num {m : List (List Int)} {n k : Nat} (hn : ∀ r ∈ m, allNum r = true) : ∀ r ∈ augL m n k, allNum r = true := by
  intro r hr
  obtain ⟨i, hi⟩ := List.getElem?_of_mem hr
  have hil : i < m.length := by
    rcases Nat.lt_or_ge i m.length with g | g
    · exact g
    · rw [List.getElem?_eq_none (by rw [augL_length]; exact g)] at hi; cases hi
  obtain ⟨r0, hr0⟩ := at_lt hil
  have h0 : ∀ x ∈ augRow m n i, isNum x = true := by
    have := hn r0 (List.mem_of_getElem? hr0)
    rw [allNum, List.all_eq_true] at this
    intro x hx
    unfold augRow at hx
    rw [getD_of hr0, List.mem_append, List.mem_replicate] at hx
    rcases hx with hx | hx
    · exact this x hx
    · rw [hx.2]; decide
  rw [augL_at hil] at hi
  injection hi with hi
  subst hi
  rw [allNum, List.all_eq_true]
  intro x hx
  split at hx
  · rcases List.mem_or_eq_of_mem_set hx with h | h
    · exact h0 x h
    · rw [h]; decide
  · exact h0 x hx
theorem augL_left {m : List (List Int)} {n k i j : Nat} (hw : Wide m n) (hi : i < m.length) (hj : j < n) : ent (augL m n k) i j = ent m i j := by
  obtain ⟨r, hr⟩ := at_lt hi
  obtain ⟨x, hx⟩ := at_lt (show j < r.length by rw [hw.at_ hr]; exact hj)
  have e : (augRow m n i)[j]? = some x := by unfold augRow; rw [getD_of hr, List.getElem?_append_left (by rw [hw.at_ hr]; exact hj)]; exact hx
  rw [ent_at hr hx]
  refine ent_at (augL_at hi) ?_
  split
  · rw [List.getElem?_set_ne (by omega)]; exact e
  · exact e
theorem augL_right {m : List (List Int)} {n i l : Nat} (hw : Wide m n) (hl : m.length = n) (hi : i < n) (hlt : l < n) : ent (augL m n n) i (n + l) = if l = i then 1 else 0 := by
  have him : i < m.length := by omega
  obtain ⟨r, hr⟩ := at_lt him
  refine ent_at (augL_at him) ?_
  rw [if_pos hi]
  by_cases e : l = i
  · subst e
    rw [if_pos rfl, List.getElem?_set_self (by rw [augRow_length hw him]; omega)]
  · rw [if_neg e, List.getElem?_set_ne (by omega)]
    unfold augRow
    rw [getD_of hr, List.getElem?_append_right (by rw [hw.at_ hr]; omega), hw.at_ hr, List.getElem?_replicate, if_pos (by omega)]
/-- sums split -/
theorem sm_split (n : Nat) (f : Nat → Int) : ∀ d, sm (n + d) f = sm n f + sm d (fun k => f (n + k))
  | 0 => by show sm n f = sm n f + 0; omega
  | d + 1 => by
    show sm (n + d) f + f (n + d) = sm n f + (sm d (fun k => f (n + k)) + f (n + d))
    rw [sm_split n f d, Int.add_assoc]
/-- Cramer's rule, modulo 10007 -/
theorem cramer_mod (n : Nat) (A : Nat → Nat → Int) (x b : Nat → Int) (k : Nat) (hk : k < n) (hx : ∀ i, i < n → Eqm (sm n (fun j => A i j * x j)) (b i)) :
    Eqm (det n (fun i j => if j = k then b i else A i j)) (x k * det n A) := by
  rw [← Det.cramer n A x (fun i => sm n (fun j => A i j * x j)) k hk (fun _ _ => rfl)]
  refine Det.det_mod 10007 fun i hi j hj => ?_
  by_cases e : j = k
  · rw [if_pos e, if_pos e]; exact (hx i hi).symm
  · rw [if_neg e, if_neg e]
/-- what the rule of Cramer says -/
def cramE (m : List (List Int)) (i l : Nat) : Int := det m.length (fun r j => if j = i then (if r = l then 1 else 0) else ent m r j) % 10007 * inv (detL m) % 10007
theorem inv_ent {w : World} {lo hi n cap g : Nat} {m M : List (List Int)} {vs : List Value} (hl : m.length = n) (hw : Wide m n) (hd : detL m ≠ 0)
    (h : Reduced w lo hi n cap g (n + n) (augL m n n) M vs) {i l : Nat} (hi' : i < n) (hl' : l < n) : ent M i (n + l) = cramE m i l := by
  have hML := h.own.size
  have hX : ∀ j, j < n → Eqm (sm n (fun k => ent m j k * ent M k (n + l))) (if j = l then 1 else 0) := by
    intro j hj
    have hk := h.kil _ (kil_unit hl' h.unit) j hj
    rw [sm_split] at hk
    rw [Det.sm_congr (n := n) (g := fun k => ent m j k * ent M k (n + l)) (fun k hk => by rw [if_pos hk, augL_left hw (by omega) hk])] at hk
    rw [Det.sm_one (n := n) (f := fun k => ent (augL m n n) j (n + k) * (if n + k < n then ent M (n + k) (n + l) else if n + k = n + l then -1 else 0)) j hj (fun k hk hne => by rw [augL_right hw hl hj hk, if_neg hne, Int.zero_mul]), augL_right hw hl hj hj, if_pos rfl, if_neg (by omega)] at hk
    by_cases e : j = l
    · rw [if_pos (by omega)] at hk
      rw [if_pos e]
      unfold Eqm at hk ⊢
      omega
    · rw [if_neg (by omega)] at hk
      rw [if_neg e]
      unfold Eqm at hk ⊢
      omega
  have hc := cramer_mod n (ent m) (fun k => ent M k (n + l)) (fun r => if r = l then 1 else 0) i hi' hX
  obtain ⟨x0, x1⟩ := ent_num h.wide h.num (show i < M.length by omega) (show n + l < n + n by omega)
  have hD : Eqm (det n (ent m)) (detL m) := by rw [← detL_of hl]; exact Eqm.mod' _
  have hinv := inv_mul (detL m) (by have := detL_lo m; omega) (detL_hi m)
  refine Eqm.eq ?_ x0 x1 (Int.emod_nonneg _ (by omega)) (Int.emod_lt_of_pos _ (by omega))
  unfold cramE
  rw [hl]
  refine Eqm.symm ((Eqm.mod _).trans (((Eqm.mod _).mul (Eqm.refl _)).trans (((hc.trans ((Eqm.refl _).mul hD)).mul (Eqm.refl _)).trans ?_)))
  rw [Int.mul_assoc, Int.mul_comm (detL m)]
  exact ((Eqm.refl _).mul hinv).trans (Eqm.of_eq (Int.mul_one _))
end Go.Proofs.Ytdgdanpkekcckaa
