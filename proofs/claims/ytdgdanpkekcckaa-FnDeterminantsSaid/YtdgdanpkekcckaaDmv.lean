/-
  Products and inverses of square matrices over the field: plain.
-/
import Derived.Test.YtdgdanpkekcckaaDmu
import Derived.Test.YtdgdanpkekcckaaInvL
import Derived.Test.YtdgdanpkekcckaaMul
import Derived.Test.YtdgdanpkekcckaaSDetC
namespace Go.Proofs.Ytdgdanpkekcckaa
open Go.RowKit Fld
set_option linter.unusedVariables false
set_option linter.unusedSimpArgs false
set_option maxRecDepth 100000

/-- a square matrix of numbers of the field -/
structure Sq (n : Nat) (m : List (List Int)) : Prop where
  len : m.length = n
  one : 1 ≤ n
  eight : n ≤ 8
  wide : Wide m n
  num : ∀ r ∈ m, allNum r = true
theorem Sq.row0 {n : Nat} {m : List (List Int)} (h : Sq n m) : (m.getD 0 []).length = n := by
  obtain ⟨r, hr⟩ := at_lt (show 0 < m.length by have := h.len; have := h.one; omega)
  rw [getD_of hr]
  exact h.wide r (List.mem_of_getElem? hr)
theorem Sq.mat {n : Nat} {m : List (List Int)} (h : Sq n m) : isMatB m = true := by
  obtain ⟨r, hr⟩ := at_lt (show 0 < m.length by have := h.len; have := h.one; omega)
  have hl := h.wide r (List.mem_of_getElem? hr)
  refine isMatB_yes hr h.len h.one h.eight (by have := h.one; omega) (by have := h.eight; omega) ?_
  rw [List.take_of_length_le (by have := h.len; omega)]
  unfold okRows
  rw [List.all_eq_true]
  intro s hs
  rw [h.num s hs, h.wide s hs, hl]
  simp
theorem Sq.of {m : List (List Int)} (h : isMatB m = true) (h5 : m.length = (m.getD 0 []).length) : Sq m.length m := by
  obtain ⟨p1, p2, p3, p4, p5, p6⟩ := isMatB_parts h
  exact ⟨rfl, p1, p2, by rw [h5]; exact p5, p6⟩
theorem Sq.det {n : Nat} {m : List (List Int)} (h : Sq n m) : detA m = (detL m, 0) := detA_yes h.mat (by rw [h.row0, h.len])
theorem sq_of_det {m : List (List Int)} (h : (detA m).2 = 0) : Sq m.length m := by
  unfold detA at h
  split at h
  · split at h
    · exact Sq.of (by assumption) (by assumption)
    · simp at h
  · simp at h
theorem Sq.ent_num {n i j : Nat} {m : List (List Int)} (h : Sq n m) (hi : i < n) (hj : j < n) : 0 ≤ ent m i j ∧ ent m i j < 10007 := Go.Proofs.Ytdgdanpkekcckaa.ent_num h.wide h.num (by rw [h.len]; exact hi) hj
theorem Sq.ext {n : Nat} {a b : List (List Int)} (ha : Sq n a) (hb : Sq n b) (h : ∀ i, i < n → ∀ j, j < n → ent a i j = ent b i j) : a = b := by
  apply List.ext_getElem?
  intro i
  by_cases hi : i < n
  · obtain ⟨r, hr⟩ := at_lt (show i < a.length by rw [ha.len]; exact hi)
    obtain ⟨s, hs⟩ := at_lt (show i < b.length by rw [hb.len]; exact hi)
    rw [hr, hs]
    congr 1
    have hrl := ha.wide r (List.mem_of_getElem? hr)
    have hsl := hb.wide s (List.mem_of_getElem? hs)
    apply List.ext_getElem?
    intro j
    by_cases hj : j < n
    · obtain ⟨x, hx⟩ := at_lt (show j < r.length by omega)
      obtain ⟨y, hy⟩ := at_lt (show j < s.length by omega)
      have e := h i hi j hj
      rw [ent_at hr hx, ent_at hs hy] at e
      rw [hx, hy, e]
    · rw [List.getElem?_eq_none (by omega), List.getElem?_eq_none (by omega)]
  · rw [List.getElem?_eq_none (by rw [ha.len]; omega), List.getElem?_eq_none (by rw [hb.len]; omega)]
theorem dotK_sm (xs ys : List Int) : ∀ k, dotK xs ys k = Det.sm k (fun i => xs.getD i 0 * ys.getD i 0) % 10007
  | 0 => rfl
  | k+1 => by
    rw [dotK, dotK_sm xs ys k, Det.sm, ← Int.add_emod]
theorem colAt_getD {b : List (List Int)} {j k : Nat} (hk : k < b.length) : (colAt b j).getD k 0 = ent b k j := by
  obtain ⟨r, hr⟩ := at_lt hk
  rw [ent_of hr]
  unfold colAt
  rw [List.getD_eq_getElem?_getD, List.getElem?_map, hr]
  rfl
theorem prod_ent {n i j : Nat} {a b : List (List Int)} (ha : Sq n a) (hb : Sq n b) (hi : i < n) (hj : j < n) : ent (prodM a b) i j = Det.sm n (fun k => ent a i k * ent b k j) % 10007 := by
  obtain ⟨r, hr⟩ := at_lt (show i < a.length by rw [ha.len]; exact hi)
  rw [ent_at (prodM_at hr) (prodRow_at r b (by rw [hb.row0]; exact hj)), ha.wide r (List.mem_of_getElem? hr), dotK_sm]
  refine congrArg (· % 10007) (Det.sm_congr fun k hk => ?_)
  rw [colAt_getD (by rw [hb.len]; exact hk), ent_of hr]
theorem prod_sq {n : Nat} {a b : List (List Int)} (ha : Sq n a) (hb : Sq n b) : Sq n (prodM a b) := by
  refine ⟨by rw [prodM_length, ha.len], ha.one, ha.eight, fun r hr => ?_, fun r hr => ?_⟩
  · unfold prodM at hr
    rw [List.mem_map] at hr
    obtain ⟨s, _, rfl⟩ := hr
    rw [prodRow_length, hb.row0]
  · unfold prodM at hr
    rw [List.mem_map] at hr
    obtain ⟨s, _, rfl⟩ := hr
    rw [allNum_iff]
    intro x hx
    unfold prodRow at hx
    rw [List.mem_map] at hx
    obtain ⟨k, _, rfl⟩ := hx
    exact dotK_bd _ _ _
theorem mul_sq {n : Nat} {a b : List (List Int)} (ha : Sq n a) (hb : Sq n b) : mulA a b = (prodM a b, 0) := mulA_yes ha.mat hb.mat (by rw [ha.row0, hb.len])
theorem prod_det {n : Nat} {a b : List (List Int)} (ha : Sq n a) (hb : Sq n b) : detL (prodM a b) = detL a * detL b % 10007 := by
  unfold detL
  rw [(prod_sq ha hb).len, ha.len, hb.len, ← Int.mul_emod, ← Det.det_prod]
  refine Det.det_mod 10007 fun i hi j hj => ?_
  rw [prod_ent ha hb hi hj, Int.emod_emod]
theorem inv_sq {n : Nat} {m : List (List Int)} (h : Sq n m) : Sq n (invL m) := by
  refine ⟨by rw [invL_length, h.len], h.one, h.eight, by have := invL_wide m; rw [h.len] at this; exact this, fun r hr => ?_⟩
  unfold invL at hr
  rw [List.mem_map] at hr
  obtain ⟨i, _, rfl⟩ := hr
  rw [allNum_iff]
  intro x hx
  unfold invRow at hx
  rw [List.mem_map] at hx
  obtain ⟨l, _, rfl⟩ := hx
  exact ⟨Int.emod_nonneg _ (by omega), Int.emod_lt_of_pos _ (by omega)⟩
theorem invL_ent {n i l : Nat} {m : List (List Int)} (h : Sq n m) (hi : i < n) (hl : l < n) : ent (invL m) i l = Det.cof n (ent m) i l % 10007 * inv (detL m) % 10007 := by
  have e : (invRow m i)[l]? = some (cramE m i l) := by
    unfold invRow
    rw [List.getElem?_map, List.getElem?_range (by rw [h.len]; exact hl)]
    rfl
  rw [ent_at (invL_at (by rw [h.len]; exact hi)) e]
  unfold cramE Det.cof
  rw [h.len]
theorem inv_yes {n : Nat} {m : List (List Int)} (h : Sq n m) (hd : detL m ≠ 0) : invA m = (invL m, 0) := invA_yes h.mat (by rw [h.row0, h.len]) hd
theorem inv_no {n : Nat} {m : List (List Int)} (h : Sq n m) (hd : detL m = 0) : invA m = ([], 5) := invA_no5 h.mat (.inr hd)
def unitRow (n l : Nat) : List Int := (List.replicate n 0).set l 1
def unitM (n k : Nat) : List (List Int) := (List.range k).map fun i => unitRow n i
theorem unitRow_length (n l : Nat) : (unitRow n l).length = n := by simp [unitRow]
theorem unitM_succ (n k : Nat) : unitM n (k + 1) = unitM n k ++ [unitRow n k] := by unfold unitM; rw [List.range_succ, List.map_append]; rfl
theorem unitM_length (n k : Nat) : (unitM n k).length = k := by simp [unitM]
theorem unitM_ent {n i j : Nat} (hi : i < n) (hj : j < n) : ent (unitM n n) i j = if i = j then 1 else 0 := by
  have e : (unitM n n)[i]? = some (unitRow n i) := by unfold unitM; rw [List.getElem?_map, List.getElem?_range hi]; rfl
  have e2 : (unitRow n i)[j]? = some (if i = j then 1 else 0) := by
    unfold unitRow
    by_cases g : i = j
    · subst g; rw [List.getElem?_set_self (by simpa using hi), if_pos rfl]
    · rw [List.getElem?_set_ne g, List.getElem?_replicate, if_pos hj, if_neg g]
  rw [ent_at e e2]
theorem unitM_sq {n : Nat} (h1 : 1 ≤ n) (h8 : n ≤ 8) : Sq n (unitM n n) := by
  refine ⟨unitM_length n n, h1, h8, fun r hr => ?_, fun r hr => ?_⟩
  · unfold unitM at hr
    rw [List.mem_map] at hr
    obtain ⟨i, _, rfl⟩ := hr
    exact unitRow_length n i
  · unfold unitM at hr
    rw [List.mem_map] at hr
    obtain ⟨i, _, rfl⟩ := hr
    rw [allNum_iff]
    intro x hx
    unfold unitRow at hx
    rcases List.mem_or_eq_of_mem_set hx with h | h
    · have := List.eq_of_mem_replicate h; omega
    · omega
theorem back_one {d e c k : Int} (h0 : 0 < d) (h1 : d < 10007) (hd : Eqm e d) (hc : Eqm c (k * e)) : Eqm (c * inv d) k := by
  have h2 := inv_mul d h0 h1
  refine (hc.mul (Eqm.refl _)).trans (((((Eqm.refl k).mul hd)).mul (Eqm.refl _)).trans ?_)
  rw [Int.mul_assoc, Int.mul_comm d]
  exact ((Eqm.refl k).mul h2).trans (Eqm.of_eq (Int.mul_one k))
theorem prod_inv {n : Nat} {m : List (List Int)} (h : Sq n m) (hd : detL m ≠ 0) : prodM m (invL m) = unitM n n := by
  refine (prod_sq h (inv_sq h)).ext (unitM_sq h.one h.eight) fun i hi l hl => ?_
  rw [prod_ent h (inv_sq h) hi hl, unitM_ent hi hl]
  have e : Eqm (Det.sm n (fun k => ent m i k * ent (invL m) k l)) (Det.sm n (fun k => ent m i k * Det.cof n (ent m) k l) * inv (detL m)) := by
    rw [Int.mul_comm, ← Det.sm_mul]
    refine sm_eqm fun k hk => ?_
    rw [invL_ent h hk hl]
    refine ((Eqm.refl _).mul ((Eqm.mod _).trans ((Eqm.mod _).mul (Eqm.refl _)))).trans (Eqm.of_eq ?_)
    rw [← Int.mul_assoc, Int.mul_comm]
  have hD : Eqm (Det.det n (ent m)) (detL m) := by unfold detL; rw [h.len]; exact Eqm.mod' _
  have e2 := e.trans (back_one (k := if i = l then 1 else 0) (by have := detL_lo m; omega) (detL_hi m) hD (Eqm.of_eq (Det.cof_right (ent m) hi hl)))
  unfold Eqm at e2
  rw [e2]
  split <;> rfl
theorem inv_prod {n : Nat} {m : List (List Int)} (h : Sq n m) (hd : detL m ≠ 0) : prodM (invL m) m = unitM n n := by
  refine (prod_sq (inv_sq h) h).ext (unitM_sq h.one h.eight) fun i hi l hl => ?_
  rw [prod_ent (inv_sq h) h hi hl, unitM_ent hi hl]
  have e : Eqm (Det.sm n (fun k => ent (invL m) i k * ent m k l)) (Det.sm n (fun k => Det.cof n (ent m) i k * ent m k l) * inv (detL m)) := by
    rw [Int.mul_comm, ← Det.sm_mul]
    refine sm_eqm fun k hk => ?_
    rw [invL_ent h hi hk]
    refine (((Eqm.mod _).trans ((Eqm.mod _).mul (Eqm.refl _))).mul (Eqm.refl _)).trans (Eqm.of_eq ?_)
    rw [Int.mul_comm (Det.cof n (ent m) i k) (inv (detL m)), Int.mul_assoc]
  have hD : Eqm (Det.det n (ent m)) (detL m) := by unfold detL; rw [h.len]; exact Eqm.mod' _
  have e2 := e.trans (back_one (k := if i = l then 1 else 0) (by have := detL_lo m; omega) (detL_hi m) hD (Eqm.of_eq (Det.cof_left (ent m) hi hl)))
  unfold Eqm at e2
  rw [e2]
  split <;> rfl
end Go.Proofs.Ytdgdanpkekcckaa
