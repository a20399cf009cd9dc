/-
  Plain: tableaus that are scaled, inverted, composed, reordered.
-/
import Derived.Test.YtfllcdcgfpjabaaTabI
import Derived.Test.YtfllcdcgfpjabaaSerl
namespace Go.Proofs.Ytfllcdcgfpjabaa
open Go.RowKit Fld Ser
set_option linter.unusedVariables false
set_option linter.unusedSimpArgs false
set_option maxRecDepth 100000

/-- all numbers of a list times a number -/
def scaleL (y : Int) (r : List Int) : List Int := r.map fun x => x * y % 10007
theorem scaleL_length (y : Int) (r : List Int) : (scaleL y r).length = r.length := by simp [scaleL]
theorem scaleL_at {y x : Int} {r : List Int} {k : Nat} (h : r[k]? = some x) : (scaleL y r)[k]? = some (x * y % 10007) := by
  unfold scaleL; rw [List.getElem?_map, h]; rfl
theorem scaleL_num (y : Int) (r : List Int) : allNum (scaleL y r) = true := by
  rw [allNum_iff]
  intro x hx
  unfold scaleL at hx
  obtain ⟨z, _, rfl⟩ := List.mem_map.1 hx
  omega
theorem scaleL_cl {y : Int} {r : List Int} {n : Nat} (hl : r.length = n) : cl n (sc y (co r)) = scaleL y r := by
  apply List.ext_getElem?
  intro k
  rcases Nat.lt_or_ge k n with g | g
  · obtain ⟨x, hx⟩ := at_lt (show k < r.length by omega)
    rw [cl_at _ g, scaleL_at hx]
    show some (y * co r k % 10007) = _
    rw [co_at hx, Int.mul_comm]
  · rw [List.getElem?_eq_none (by rw [cl_length]; exact g), List.getElem?_eq_none (by rw [scaleL_length]; omega)]
def scaleM (y : Int) (m : List (List Int)) : List (List Int) := m.map (scaleL y)
theorem scaleM_length (y : Int) (m : List (List Int)) : (scaleM y m).length = m.length := by simp [scaleM]

/-- a row less another one -/
def lessL (b : List Int) (r : List Int) : List Int := List.zipWith (fun x y => (x - y) % 10007) r b
theorem lessL_length {b r : List Int} (h : r.length = b.length) : (lessL b r).length = r.length := by simp [lessL, h]
theorem lessL_at {b r : List Int} {x y : Int} {k : Nat} (hx : r[k]? = some x) (hy : b[k]? = some y) : (lessL b r)[k]? = some ((x - y) % 10007) := by
  unfold lessL; rw [List.getElem?_zipWith, hx, hy]
theorem lessL_num (b r : List Int) : allNum (lessL b r) = true := by
  rw [allNum_iff]
  intro x hx
  unfold lessL at hx
  obtain ⟨k, hk⟩ := List.mem_iff_getElem?.1 hx
  rw [List.getElem?_zipWith] at hk
  split at hk
  · injection hk with hk; omega
  · cases hk
/-- the negative of a list -/
def negL (b : List Int) : List Int := lessL b (List.replicate b.length 0)
theorem negL_length (b : List Int) : (negL b).length = b.length := by unfold negL; rw [lessL_length (by simp)]; simp
theorem negL_at {b : List Int} {k : Nat} {y : Int} (h : b[k]? = some y) : (negL b)[k]? = some (-y % 10007) := by
  unfold negL
  have hk : k < b.length := by
    rcases Nat.lt_or_ge k b.length with g | g
    · exact g
    · rw [List.getElem?_eq_none g] at h; cases h
  rw [lessL_at (x := 0) (by simp [hk]) h, Int.zero_sub]
theorem negL_num (b : List Int) : allNum (negL b) = true := lessL_num _ _
theorem negL_scale (b : List Int) : scaleL 10006 b = negL b := by
  apply List.ext_getElem?
  intro k
  rcases Nat.lt_or_ge k b.length with g | g
  · obtain ⟨x, hx⟩ := at_lt g
    rw [scaleL_at hx, negL_at hx]
    congr 1; omega
  · rw [List.getElem?_eq_none (by rw [scaleL_length]; exact g), List.getElem?_eq_none (by rw [negL_length]; exact g)]
theorem lessL_add {b r : List Int} {n : Nat} (hl : r.length = n) (hb : b.length = n) : cl n (ad (co r) (co (negL b))) = lessL b r := by
  apply List.ext_getElem?
  intro k
  rcases Nat.lt_or_ge k n with g | g
  · obtain ⟨x, hx⟩ := at_lt (show k < r.length by omega)
    obtain ⟨y, hy⟩ := at_lt (show k < b.length by omega)
    rw [cl_at _ g, lessL_at hx hy]
    show some ((co r k + co (negL b) k) % 10007) = _
    rw [co_at hx, co_at (negL_at hy)]
    congr 1; omega
  · rw [List.getElem?_eq_none (by rw [cl_length]; exact g), List.getElem?_eq_none (by rw [lessL_length (by omega)]; omega)]
def invM (m : List (List Int)) (b : List Int) : List (List Int) := m.map (lessL b)
theorem invM_length (m : List (List Int)) (b : List Int) : (invM m b).length = m.length := by simp [invM]

/-- x and then y -/
def compM (m : List (List Int)) (b : List Int) (m' : List (List Int)) (n' : Nat) : List (List Int) := m.map (fun r => r ++ List.replicate n' 0) ++ m'.map (fun r => b ++ r)
theorem compM_length (m : List (List Int)) (b : List Int) (m' : List (List Int)) (n' : Nat) : (compM m b m' n').length = m.length + m'.length := by simp [compM]

/-- the places of a list, in an order -/
def takeL (is : List Nat) (r : List Int) : List Int := is.map fun i => r.getD i 0
def takeM (is : List Nat) (m : List (List Int)) : List (List Int) := is.map fun i => takeL is (m.getD i [])
theorem takeL_length (is : List Nat) (r : List Int) : (takeL is r).length = is.length := by simp [takeL]
theorem takeM_length (is : List Nat) (m : List (List Int)) : (takeM is m).length = is.length := by simp [takeM]
theorem takeL_at {is : List Nat} {r : List Int} {k i : Nat} {x : Int} (h : is[k]? = some i) (hx : r[i]? = some x) : (takeL is r)[k]? = some x := by
  unfold takeL; rw [List.getElem?_map, h]; simp [List.getD_eq_getElem?_getD, hx]
theorem takeM_at {is : List Nat} {m : List (List Int)} {k i : Nat} {r : List Int} (h : is[k]? = some i) (hr : m[i]? = some r) : (takeM is m)[k]? = some (takeL is r) := by
  unfold takeM; rw [List.getElem?_map, h]; simp [List.getD_eq_getElem?_getD, hr]

/-! what a list of rows keeps: its width, and numbers -/
structure SchOk (m : List (List Int)) (b : List Int) (n : Nat) : Prop where
  len : m.length = n
  lenb : b.length = n
  wide : Wide m n
  num : ∀ r ∈ m, allNum r = true
  numb : allNum b = true
theorem SchOk.at_ {m : List (List Int)} {b : List Int} {n k : Nat} (h : SchOk m b n) (hk : k < n) : ∃ r, m[k]? = some r ∧ r.length = n ∧ allNum r = true := by
  obtain ⟨r, hr⟩ := at_lt (show k < m.length by rw [h.len]; exact hk)
  exact ⟨r, hr, h.wide.at_ hr, h.num r (List.mem_of_getElem? hr)⟩
theorem SchOk.of_tab {m : List (List Int)} {b : List Int} (h : isTabB m b = true) : SchOk m b b.length := by
  obtain ⟨_, _, t3, t4, t5, t6⟩ := isTabB_parts h
  exact ⟨t3, rfl, t5, t6, t4⟩
theorem SchOk.map {m : List (List Int)} {b : List Int} {n q : Nat} {g : List Int → List Int} (h : SchOk m b n) (hq : ∀ r, r.length = n → (g r).length = n) (hn : ∀ r, allNum (g r) = true) : SchOk (m.map g) (g b) n := by
  refine ⟨by simp [h.len], hq b h.lenb, fun r hr => ?_, fun r hr => ?_, hn b⟩
  · obtain ⟨x, hx, rfl⟩ := List.mem_map.1 hr; exact hq x (h.wide x hx)
  · obtain ⟨x, hx, rfl⟩ := List.mem_map.1 hr; exact hn x
theorem allNum_append {xs ys : List Int} : allNum (xs ++ ys) = (allNum xs && allNum ys) := by unfold allNum; rw [List.all_append]
theorem allNum_zeros (n : Nat) : allNum (List.replicate n (0 : Int)) = true := by rw [allNum_iff]; intro x hx; have := (List.mem_replicate.1 hx).2; omega
theorem SchOk.comp {m m' : List (List Int)} {b b' : List Int} {n n' : Nat} (h : SchOk m b n) (h' : SchOk m' b' n') : SchOk (compM m b m' n') (b ++ b') (n + n') := by
  refine ⟨by rw [compM_length, h.len, h'.len], by rw [List.length_append, h.lenb, h'.lenb], fun r hr => ?_, fun r hr => ?_, by rw [allNum_append, h.numb, h'.numb]; rfl⟩
  · unfold compM at hr
    rcases List.mem_append.1 hr with hr | hr
    · obtain ⟨x, hx, rfl⟩ := List.mem_map.1 hr; rw [List.length_append, h.wide x hx]; simp
    · obtain ⟨x, hx, rfl⟩ := List.mem_map.1 hr; rw [List.length_append, h.lenb, h'.wide x hx]
  · unfold compM at hr
    rcases List.mem_append.1 hr with hr | hr
    · obtain ⟨x, hx, rfl⟩ := List.mem_map.1 hr; rw [allNum_append, h.num x hx, allNum_zeros]; rfl
    · obtain ⟨x, hx, rfl⟩ := List.mem_map.1 hr; rw [allNum_append, h.numb, h'.num x hx]; rfl
theorem getD_at {α : Type} {l : List α} {k : Nat} (d : α) (h : k < l.length) : l[k]? = some (l.getD k d) := by
  rw [List.getD_eq_getElem?_getD, List.getElem?_eq_getElem h]; rfl
theorem takeL_num {is : List Nat} {r : List Int} (h : allNum r = true) : allNum (takeL is r) = true := by
  rw [allNum_iff]
  intro x hx
  unfold takeL at hx
  obtain ⟨i, _, rfl⟩ := List.mem_map.1 hx
  rcases Nat.lt_or_ge i r.length with g | g
  · exact allNum_iff.1 h _ (List.mem_of_getElem? (getD_at 0 g))
  · rw [List.getD_eq_getElem?_getD, List.getElem?_eq_none g]; exact ⟨by decide, by decide⟩
theorem SchOk.take {m : List (List Int)} {b : List Int} {n : Nat} {is : List Nat} (h : SchOk m b n) (hi : ∀ i ∈ is, i < n) : SchOk (takeM is m) (takeL is b) is.length := by
  refine ⟨takeM_length _ _, takeL_length _ _, fun r hr => ?_, fun r hr => ?_, takeL_num h.numb⟩
  · unfold takeM at hr; obtain ⟨x, _, rfl⟩ := List.mem_map.1 hr; exact takeL_length _ _
  · unfold takeM at hr; obtain ⟨i, hi2, rfl⟩ := List.mem_map.1 hr
    exact takeL_num (h.num _ (List.mem_of_getElem? (getD_at [] (by rw [h.len]; exact hi i hi2))))
theorem total_wide {m : List (List Int)} {q : Nat} (h : Wide m q) : total m = m.length * q := by
  induction m with
  | nil => simp [total]
  | cons r t ih =>
    have := ih (fun x hx => h x (List.mem_cons_of_mem _ hx))
    have h2 := h r (List.mem_cons_self ..)
    have e : total (r :: t) = r.length + total t := by simp [total]
    rw [e, this, h2, List.length_cons, Nat.succ_mul]; omega
theorem SchOk.total {m : List (List Int)} {b : List Int} {n : Nat} (h : SchOk m b n) (hn : n ≤ 8) : total m ≤ 64 := by
  rw [total_wide h.wide, h.len]
  have : n * n ≤ 8 * 8 := Nat.mul_le_mul hn hn
  omega
end Go.Proofs.Ytfllcdcgfpjabaa
