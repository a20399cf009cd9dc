/-
  What a step of the elimination does to the numbers and the determinant (plain).
-/
import Derived.Test.YtdgdanpkekcckaaElim
import Derived.Test.YtdgdanpkekcckaaEnt
import Derived.Test.YtdgdanpkekcckaaGauss
namespace Go.Proofs.Ytdgdanpkekcckaa
open Go.RowKit Fld
open Det (det swp)
set_option linter.unusedVariables false
set_option linter.unusedSimpArgs false
set_option maxRecDepth 100000

theorem ent_of {m : List (List Int)} {i k : Nat} {r : List Int} (hr : m[i]? = some r) : ent m i k = r.getD k 0 := by unfold ent; rw [getD_of hr]
theorem ent_num {m : List (List Int)} {q i k : Nat} (hq : Wide m q) (hn : ∀ r ∈ m, allNum r = true) (hi : i < m.length) (hk : k < q) : 0 ≤ ent m i k ∧ ent m i k < 10007 := by
  obtain ⟨r, hr⟩ := at_lt hi
  obtain ⟨x, hx⟩ := at_lt (show k < r.length by rw [hq.at_ hr]; exact hk)
  rw [ent_at hr hx]
  exact numR (hn r (List.mem_of_getElem? hr)) hx
/-- the numbers behind a step -/
theorem elim_ent {m : List (List Int)} {q c i k : Nat} (hq : Wide m q) (hc : c < m.length) (hi : i < m.length) (hk : k < q) :
    ent (elimL m c) i k = if i = c then ent m c k * inv (ent m c c) % 10007 else (ent m i k - ent m i c * (ent m c k * inv (ent m c c) % 10007) % 10007) % 10007 := by
  obtain ⟨r, hr⟩ := at_lt hc
  obtain ⟨x, hx⟩ := at_lt (show k < r.length by rw [hq.at_ hr]; exact hk)
  have hs : ent m c c = r.getD c 0 := ent_of hr
  have hp : pivL m c = scaleRow r (inv (ent m c c)) := by unfold pivL; rw [getD_of hr, hs]
  have hpk : (pivL m c)[k]? = some (ent m c k * inv (ent m c c) % 10007) := by rw [hp, scaleRow_at hx, ent_at hr hx]
  by_cases e : i = c
  · rw [if_pos e, e]
    exact ent_at (elimL_self hc) hpk
  · rw [if_neg e]
    obtain ⟨ri, hri⟩ := at_lt hi
    obtain ⟨y, hy⟩ := at_lt (show k < ri.length by rw [hq.at_ hri]; exact hk)
    rw [ent_at hri hy, ent_of (k := c) hri]
    exact ent_at (elimL_at hri e) (lessRow_at hy hpk)
theorem elim_wide {m : List (List Int)} {q c : Nat} (hq : Wide m q) (hc : c < m.length) : Wide (elimL m c) q := by
  intro r hr
  unfold elimL at hr
  rw [List.mem_map] at hr
  obtain ⟨i, hi, rfl⟩ := hr
  rw [List.mem_range] at hi
  obtain ⟨rc, hrc⟩ := at_lt hc
  obtain ⟨ri, hri⟩ := at_lt hi
  split
  · unfold pivL; rw [scaleRow_length, getD_of hrc, hq.at_ hrc]
  · rw [lessRow_length, getD_of hri, hq.at_ hri]
theorem elim_num {m : List (List Int)} {c : Nat} : ∀ r ∈ elimL m c, allNum r = true := by
  intro r hr
  unfold elimL at hr
  rw [List.mem_map] at hr
  obtain ⟨i, hi, rfl⟩ := hr
  split
  · unfold pivL
    rw [allNum, List.all_eq_true]
    intro x hx
    obtain ⟨k, hk⟩ := List.getElem?_of_mem hx
    have := scale_num hk
    exact isNum_iff.2 ⟨by omega, by omega⟩
  · rw [allNum, List.all_eq_true]
    intro x hx
    unfold lessRow at hx
    rw [List.mem_map] at hx
    obtain ⟨k, _, rfl⟩ := hx
    exact isNum_iff.2 ⟨by omega, by omega⟩
/-- the determinant behind a step -/
theorem elim_det {m : List (List Int)} {n q c : Nat} (hl : m.length = n) (hq : Wide m q) (hnq : n ≤ q) (hc : c < n) (hx0 : 0 < ent m c c) (hx1 : ent m c c < 10007) : ent m c c * det n (ent (elimL m c)) % 10007 = det n (ent m) % 10007 := by
  refine Det.gauss_step (s := inv (ent m c c)) hc ?_ rfl (fun i hi k hk => ?_)
  · have := inv_mul (ent m c c) hx0 hx1
    rw [Int.mul_comm]; exact this
  · rw [elim_ent hq (by omega) (by omega) (by omega)]
    split
    · exact Int.emod_emod _ _
    · rw [Int.emod_emod]
      generalize ent m i k = a
      generalize ent m i c = b
      generalize ent m c k * inv (ent m c c) = z
      simp [Int.mul_emod, Int.sub_emod]
/-- the columns up to c are unit columns behind a step -/
theorem elim_unit {m : List (List Int)} {n q c : Nat} (hl : m.length = n) (hq : Wide m q) (hn : ∀ r ∈ m, allNum r = true) (hc : c < n) (hcq : c < q) (hx0 : ent m c c ≠ 0)
    (hu : ∀ i, i < n → ∀ k, k < c → ent m i k = if i = k then 1 else 0) : ∀ i, i < n → ∀ k, k < c + 1 → ent (elimL m c) i k = if i = k then 1 else 0 := by
  intro i hi k hk
  have hxx := ent_num hq hn (show c < m.length by omega) hcq
  have hinv : ent m c c * inv (ent m c c) % 10007 = 1 := by
    have := inv_mul (ent m c c) (by omega) hxx.2
    rw [Int.mul_comm]; exact this
  rw [elim_ent hq (by omega) (by omega) (by omega)]
  by_cases hkc : k = c
  · subst hkc
    rw [hinv]
    by_cases e : i = k
    · rw [if_pos e, if_pos e]
    · rw [if_neg e, if_neg e]
      have := ent_num hq hn (show i < m.length by omega) hcq
      omega
  · have h0 : ent m c k = 0 := by rw [hu c hc k (by omega), if_neg (by omega)]
    rw [h0, Int.zero_mul]
    have h1 := hu i hi k (by omega)
    by_cases e : i = c
    · rw [if_pos e, if_neg (by omega)]; rfl
    · rw [if_neg e, h1]
      by_cases e2 : i = k
      · rw [if_pos e2]; simp
      · rw [if_neg e2]; simp
/-- two rows change places -/
theorem swap_ent {m : List (List Int)} {p q : Nat} {r s : List Int} (hp : m[p]? = some r) (hq : m[q]? = some s) (i k : Nat) : ent (swapL m p q r s) i k = swp (ent m) p q i k := by
  have e : (swapL m p q r s).getD i [] = m.getD (if i = p then q else if i = q then p else i) [] := by rw [List.getD_eq_getElem?_getD, List.getD_eq_getElem?_getD, swapL_at hp hq]
  unfold ent swp
  show ((swapL m p q r s).getD i []).getD k 0 = _
  rw [e]
  by_cases e1 : i = p
  · rw [if_pos e1, if_pos e1]
  · rw [if_neg e1, if_neg e1]
    by_cases e2 : i = q
    · rw [if_pos e2, if_pos e2]
    · rw [if_neg e2, if_neg e2]
theorem swap_det {m : List (List Int)} {n p q : Nat} {r s : List Int} (hp : m[p]? = some r) (hq : m[q]? = some s) (hpn : p < n) (hqn : q < n) (hpq : p ≠ q) : det n (ent (swapL m p q r s)) = - det n (ent m) := by
  rw [Det.det_ext (B := swp (ent m) p q) (fun i _ k _ => swap_ent hp hq i k)]
  exact (Det.det_alt n).swap _ p q hpn hqn hpq
/-! what is annihilated behind a step was annihilated ahead of it -/
theorem sm_eqm {n : Nat} {f g : Nat → Int} (h : ∀ k, k < n → Eqm (f k) (g k)) : Eqm (Det.sm n f) (Det.sm n g) := by
  induction n with
  | zero => exact Eqm.refl _
  | succ n ih => exact (ih (fun k hk => h k (by omega))).add (h n (by omega))
/-- every row, by the numbers z, comes to 0 -/
def Kil (m : List (List Int)) (n q : Nat) (z : Nat → Int) : Prop := ∀ i, i < n → Eqm (Det.sm q (fun k => ent m i k * z k)) 0
theorem elim_kil {m : List (List Int)} {n q c : Nat} {z : Nat → Int} (hl : m.length = n) (hq : Wide m q) (hn : ∀ r ∈ m, allNum r = true) (hc : c < n) (hcq : c < q) (hx0 : ent m c c ≠ 0) (h : Kil (elimL m c) n q z) : Kil m n q z := by
  have hxx := ent_num hq hn (show c < m.length by omega) hcq
  have hinv : Eqm (inv (ent m c c) * ent m c c) 1 := inv_mul (ent m c c) (by omega) hxx.2
  intro i hi
  by_cases e : i = c
  · subst e
    refine (sm_eqm (g := fun k => ent m i i * (ent (elimL m i) i k * z k)) (fun k hk => ?_)).trans ?_
    · rw [elim_ent hq (by omega) (by omega) hk, if_pos rfl, ← Int.mul_assoc]
      refine Eqm.mul ?_ (Eqm.refl _)
      refine Eqm.symm ((Eqm.mul (Eqm.refl _) (Eqm.mod _)).trans ?_)
      have e1 : ent m i i * (ent m i k * inv (ent m i i)) = ent m i k * (inv (ent m i i) * ent m i i) := by rw [Int.mul_comm, Int.mul_assoc]
      rw [e1]
      exact (Eqm.mul (Eqm.refl _) hinv).trans (Eqm.of_eq (Int.mul_one _))
    · rw [Det.sm_mul]
      exact (Eqm.mul (Eqm.refl _) (h i hi)).trans (Eqm.of_eq (Int.mul_zero _))
  · refine (sm_eqm (g := fun k => ent (elimL m c) i k * z k + ent m i c * (ent (elimL m c) c k * z k)) (fun k hk => ?_)).trans ?_
    · rw [elim_ent hq (by omega) (by omega) hk, if_neg e, elim_ent hq (by omega) (by omega) hk, if_pos rfl, ← Int.mul_assoc, ← Int.add_mul]
      refine Eqm.mul ?_ (Eqm.refl _)
      generalize ent m c k * inv (ent m c c) % 10007 = u
      generalize ent m i c * u = v
      generalize ent m i k = y
      unfold Eqm
      omega
    · rw [Det.sm_add, Det.sm_mul]
      exact ((h i hi).add ((Eqm.mul (Eqm.refl _) (h c hc)).trans (Eqm.of_eq (Int.mul_zero _)))).trans (Eqm.refl _)
theorem swap_kil {m : List (List Int)} {n w p q : Nat} {r s : List Int} {z : Nat → Int} (hp : m[p]? = some r) (hq : m[q]? = some s) (hpn : p < n) (hqn : q < n) (h : Kil (swapL m p q r s) n w z) : Kil m n w z := by
  have e : ∀ i, i < n → ∀ j, (∀ k, ent (swapL m p q r s) i k = ent m j k) → Eqm (Det.sm w (fun k => ent m j k * z k)) 0 := fun i hi j hj => by
    have := h i hi
    rw [Det.sm_congr (fun k _ => by rw [hj k])] at this
    exact this
  intro i hi
  by_cases e1 : i = p
  · exact e q hqn i fun k => by
      rw [swap_ent hp hq]; unfold swp
      by_cases e2 : q = p
      · rw [if_pos e2, e1, e2]
      · rw [if_neg e2, if_pos rfl, e1]
  · by_cases e2 : i = q
    · exact e p hpn i fun k => by rw [swap_ent hp hq]; unfold swp; rw [if_pos rfl, e2]
    · exact e i hi i fun k => by rw [swap_ent hp hq]; unfold swp; rw [if_neg e1, if_neg e2]
/-- unit columns on the left and X on the right annihilate the columns of X with their numbers -1: so A X is 1 where row and column are equal -/
theorem kil_unit {M : List (List Int)} {n : Nat} {l : Nat} (hl : l < n) (hu : ∀ i, i < n → ∀ k, k < n → ent M i k = if i = k then 1 else 0) :
    Kil M n (n + n) (fun k => if k < n then ent M k (n + l) else if k = n + l then -1 else 0) := by
  intro i hi
  have h2 : ∀ d, Det.sm (n + d) (fun k => ent M i k * (if k < n then ent M k (n + l) else if k = n + l then -1 else 0)) = Det.sm n (fun k => ent M i k * ent M k (n + l)) + Det.sm d (fun k => ent M i (n + k) * (if k = l then -1 else 0)) := by
    intro d
    induction d with
    | zero => rw [Nat.add_zero, Det.sm_congr (n := n) (g := fun k => ent M i k * ent M k (n + l)) (fun k hk => by rw [if_pos hk])]; simp [Det.sm]
    | succ d ih =>
      have e1 : ∀ (m : Nat) (f : Nat → Int), Det.sm (m + 1) f = Det.sm m f + f m := fun _ _ => rfl
      have e2 : (if n + d < n then ent M (n + d) (n + l) else if n + d = n + l then (-1 : Int) else 0) = if d = l then -1 else 0 := by
        rw [if_neg (by omega)]
        by_cases e : d = l
        · rw [if_pos (by omega), if_pos e]
        · rw [if_neg (by omega), if_neg e]
      rw [← Nat.add_assoc, e1, e1, ih, e2, Int.add_assoc]
  rw [h2, Det.sm_one i hi (fun k hk hne => by rw [hu i hi k hk, if_neg (fun e => hne e.symm), Int.zero_mul]), hu i hi i hi, if_pos rfl,
    Det.sm_one l hl (fun k hk hne => by rw [if_neg hne, Int.mul_zero]), if_pos rfl]
  exact Eqm.of_eq (by omega)
end Go.Proofs.Ytdgdanpkekcckaa
