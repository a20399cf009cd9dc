/-
  Assumptions of a tableau, plainly: the conditions of the three kinds, and the number up to which they are met.
-/
import Derived.Test.YtfllcdcgfpjabaaTabN
namespace Go.Proofs.Ytfllcdcgfpjabaa
open Go.RowKit Fld
set_option linter.unusedVariables false
set_option linter.unusedSimpArgs false
set_option maxRecDepth 100000

/-- the powers of nodes -/
def pwL (c : List Int) (k : Nat) : List Int := c.map fun x => pw x k
theorem pwL_length (c : List Int) (k : Nat) : (pwL c k).length = c.length := by simp [pwL]
theorem pwL_at {c : List Int} {i k : Nat} {x : Int} (h : c[i]? = some x) : (pwL c k)[i]? = some (pw x k) := by
  unfold pwL; rw [List.getElem?_map, h]; rfl
theorem pwL_num (c : List Int) (k : Nat) : allNum (pwL c k) = true := by
  rw [allNum_iff]
  intro x hx
  unfold pwL at hx
  obtain ⟨r, _, rfl⟩ := List.mem_map.1 hx
  exact ⟨pw_lo _ _, pw_hi _ _⟩
theorem pw_zero (x : Int) : pw x 0 = 1 := by unfold pw; rw [Int.pow_zero]; rfl
theorem pw_next (x : Int) (k : Nat) : pw x (k + 1) = pw x k * x % 10007 := by
  unfold pw; rw [Int.pow_succ]; exact ((Eqm.mod' (x ^ k)).mul (Eqm.refl x)).emod
theorem pwL_zero {c : List Int} {n : Nat} (h : c.length = n) : pwL c 0 = List.replicate n 1 := by
  subst h
  unfold pwL
  rw [List.eq_replicate_iff]
  refine ⟨by simp, fun x hx => ?_⟩
  obtain ⟨r, _, rfl⟩ := List.mem_map.1 hx
  exact pw_zero r
/-- products number by number -/
def prL (a b : List Int) : List Int := (List.range a.length).map fun i => a.getD i 0 * b.getD i 0 % 10007
theorem prL_length (a b : List Int) : (prL a b).length = a.length := by simp [prL]
theorem prL_at {a b : List Int} {i : Nat} {x y : Int} (h : a[i]? = some x) (g : b[i]? = some y) : (prL a b)[i]? = some (x * y % 10007) := by
  have hi := (List.getElem?_eq_some_iff.1 h).1
  unfold prL
  rw [List.getElem?_map, List.getElem?_range hi, Option.map_some, List.getD_eq_getElem?_getD, List.getD_eq_getElem?_getD, h, g]
  rfl
theorem prL_num (a b : List Int) : allNum (prL a b) = true := by
  rw [allNum_iff]
  intro x hx
  unfold prL at hx
  obtain ⟨r, _, rfl⟩ := List.mem_map.1 hx
  omega
theorem pwL_next (c : List Int) (k : Nat) : prL (pwL c k) c = pwL c (k + 1) := by
  apply List.ext_getElem?
  intro i
  cases h : c[i]? with
  | none =>
    have h1 := List.getElem?_eq_none_iff.1 h
    rw [List.getElem?_eq_none (by rw [prL_length, pwL_length]; exact h1), List.getElem?_eq_none (by rw [pwL_length]; exact h1)]
  | some x => rw [prL_at (pwL_at h) h, pwL_at h, pw_next]
/-- sums over a column, with factors -/
def colD (m : List (List Int)) (f : List Int) (j : Nat) : Nat → Int
  | 0 => 0
  | k+1 => (colD m f j k + f.getD k 0 * (m.getD k []).getD j 0 % 10007) % 10007
theorem colD_bd (m : List (List Int)) (f : List Int) (j k : Nat) : 0 ≤ colD m f j k ∧ colD m f j k < 10007 := by
  cases k with
  | zero => exact ⟨by simp [colD], by simp [colD]⟩
  | succ k => unfold colD; omega
theorem colD_next {m : List (List Int)} {f r : List Int} {j k : Nat} {x y : Int} (hf : f[k]? = some x) (hr : m[k]? = some r) (hy : r[j]? = some y) : colD m f j (k + 1) = (colD m f j k + x * y % 10007) % 10007 := by
  rw [colD, List.getD_eq_getElem?_getD, List.getD_eq_getElem?_getD, List.getD_eq_getElem?_getD, hf, hr]
  simp [hy]
/-- what a condition compares: the sum, and the integral times k -/
def sumI (b : List Int) (m : List (List Int)) (c : List Int) (n kind k i : Nat) : Int :=
  if kind = 0 then dotK b (pwL c k) n else if kind = 1 then dotK (m.getD i []) (pwL c k) n else colD m (prL b (pwL c k)) i n
def intI (b c : List Int) (kind k i : Nat) : Int :=
  if kind = 0 then 1 else if kind = 1 then pw (c.getD i 0) k else b.getD i 0 * ((1 - pw (c.getD i 0) k) % 10007) % 10007
theorem sumI_bd (b : List Int) (m : List (List Int)) (c : List Int) (n kind k i : Nat) : 0 ≤ sumI b m c n kind k i ∧ sumI b m c n kind k i < 10007 := by
  unfold sumI
  split
  · exact dotK_bd _ _ _
  · split
    · exact dotK_bd _ _ _
    · exact colD_bd _ _ _ _
theorem intI_bd (b c : List Int) (kind k i : Nat) : 0 ≤ intI b c kind k i ∧ intI b c kind k i < 10007 := by
  unfold intI
  split
  · omega
  · split
    · exact ⟨pw_lo _ _, pw_hi _ _⟩
    · omega
/-- the condition for k + 1 at a stage -/
def metI (b : List Int) (m : List (List Int)) (c : List Int) (n kind k i : Nat) : Prop := sumI b m c n kind k i * ((k + 1 : Nat) : Int) % 10007 = intI b c kind (k + 1) i
def metK (b : List Int) (m : List (List Int)) (c : List Int) (n kind k : Nat) : Prop := ∀ i, i < n → metI b m c n kind k i
theorem frac_met {k : Nat} {x y : Int} (h : k < 16) (x0 : 0 ≤ x) (x1 : x < 10007) (y0 : 0 ≤ y) (y1 : y < 10007) : (x - inv ((k : Int) + 1) * y % 10007) % 10007 = 0 ↔ x * ((k : Int) + 1) % 10007 = y := by
  have hk := inv_mul ((k : Int) + 1) (by omega) (by omega)
  constructor
  · intro h0
    have h1 : Eqm x (inv ((k : Int) + 1) * y) := by unfold Eqm; omega
    have h2 : Eqm (x * ((k : Int) + 1)) y := by
      refine (h1.mul (Eqm.refl ((k : Int) + 1))).trans ?_
      rw [Int.mul_right_comm]
      refine (hk.mul (Eqm.refl y)).trans ?_
      rw [Int.one_mul]; exact Eqm.refl y
    unfold Eqm at h2; omega
  · intro h0
    have h1 : Eqm y (x * ((k : Int) + 1)) := by unfold Eqm; omega
    have h2 : Eqm (inv ((k : Int) + 1) * y) x := by
      refine ((Eqm.refl (inv ((k : Int) + 1))).mul h1).trans ?_
      rw [Int.mul_comm x, ← Int.mul_assoc]
      refine (hk.mul (Eqm.refl x)).trans ?_
      rw [Int.one_mul]; exact Eqm.refl x
    unfold Eqm at h2; omega
/-- the greatest number of those from k to k + f up to which all is met -/
noncomputable def ordF (P : Nat → Prop) : Nat → Nat → Nat
  | k, 0 => k
  | k, f+1 => @ite _ (P k) (Classical.propDecidable _) (ordF P (k + 1) f) k
theorem ordF_eq (P : Nat → Prop) : ∀ (f k q : Nat), k ≤ q → q ≤ k + f → (∀ j, k ≤ j → j < q → P j) → (q = k + f ∨ ¬ P q) → ordF P k f = q
  | 0, k, q, h1, h2, _, _ => by unfold ordF; omega
  | f+1, k, q, h1, h2, h3, h4 => by
    unfold ordF
    by_cases e : k = q
    · subst e
      rw [if_neg (h4.resolve_left (by omega))]
    · rw [if_pos (h3 k (Nat.le_refl _) (by omega))]
      exact ordF_eq P f (k + 1) q (by omega) (by omega) (fun j a b => h3 j (by omega) b) (by rcases h4 with h | h; exact Or.inl (by omega); exact Or.inr h)
theorem ordF_le (P : Nat → Prop) : ∀ (f k : Nat), ordF P k f ≤ k + f
  | 0, k => Nat.le_refl _
  | f+1, k => by
    unfold ordF
    split
    · have := ordF_le P f (k + 1); omega
    · omega
/-- the number up to which a tableau meets the conditions of a kind -/
noncomputable def ordK (m : List (List Int)) (b : List Int) (kind : Nat) : Nat := ordF (metK b m (appL m (List.replicate b.length 1)) b.length kind) 0 16
theorem ordK_le (m : List (List Int)) (b : List Int) (kind : Nat) : ordK m b kind ≤ 16 := by have := ordF_le (metK b m (appL m (List.replicate b.length 1)) b.length kind) 16 0; unfold ordK; omega
theorem ordK_no {m : List (List Int)} {b c : List Int} {n kind q i : Nat} (hb : b.length = n) (hc : c = appL m (List.replicate n 1)) (hq : q < 16) (h : ∀ j, j < q → metK b m c n kind j) (hi : i < n) (hn : ¬ metI b m c n kind q i) : ordK m b kind = q := by
  subst hb hc
  exact ordF_eq _ 16 0 q (by omega) (by omega) (fun j _ hj => h j hj) (Or.inr fun hh => hn (hh i hi))
theorem ordK_yes {m : List (List Int)} {b c : List Int} {n kind : Nat} (hb : b.length = n) (hc : c = appL m (List.replicate n 1)) (h : ∀ j, j < 16 → metK b m c n kind j) : ordK m b kind = 16 := by
  subst hb hc
  exact ordF_eq _ 16 0 16 (by omega) (by omega) (fun j _ hj => h j hj) (Or.inl (by omega))
noncomputable def kindA (kind : Nat) (m : List (List Int)) (b : List Int) : Int × Int := if isTabB m b = true then ((ordK m b kind : Nat), 0) else (0, 1)
noncomputable def quadratureA (m : List (List Int)) (b : List Int) : Int × Int := kindA 0 m b
noncomputable def stageOA (m : List (List Int)) (b : List Int) : Int × Int := kindA 1 m b
noncomputable def columnA (m : List (List Int)) (b : List Int) : Int × Int := kindA 2 m b
def min4 (x y z : Int) : Int := min (min (min 6 x) y) z
noncomputable def impliedA (m : List (List Int)) (b : List Int) : Int × Int :=
  if isTabB m b = true then (min4 ((ordK m b 0 : Nat) : Int) (2 * ((ordK m b 1 : Nat) : Int) + 2) (((ordK m b 1 : Nat) : Int) + ((ordK m b 2 : Nat) : Int) + 1), 0) else (0, 1)
noncomputable def meetsA (m : List (List Int)) (b : List Int) (kind k : Int) : Bool × Int :=
  if isTabB m b = true then (if 0 ≤ kind ∧ kind ≤ 2 ∧ 0 ≤ k ∧ k ≤ 16 then (decide (k ≤ ((ordK m b kind.toNat : Nat) : Int)), 0) else (false, 2)) else (false, 1)
theorem run_min4 (ts : Array TypeId) (t : TypeId) (x y z : Int) (W : World) : (Builtin.min_ ts t #[.int .i64 6, .int .i64 x, .int .i64 y, .int .i64 z]).run Try.prog W = .ok (.int .i64 (min4 x y z)) W := by
  have e : ∀ u v : Int, (if v < u then v else u) = min u v := fun u v => by rw [Int.min_def]; split <;> split <;> omega
  unfold min4
  simp [Builtin.min_, Builtin.min2, e]
end Go.Proofs.Ytfllcdcgfpjabaa
