/-
  Conditions of symplectic and of symmetric tableaus: plain.
-/
import Derived.Test.YtnnihdkhblbdgaaTabI
import Derived.Test.YtnnihdkhblbdgaaEnt
namespace Go.Proofs.Ytnnihdkhblbdgaa
open Go.RowKit Fld
set_option linter.unusedVariables false
set_option linter.unusedSimpArgs false
set_option maxRecDepth 100000

/-- the left side of the condition for i and k -/
def syL (m : List (List Int)) (b : List Int) (i k : Nat) : Int := (b.getD i 0 * ent m i k % 10007 + b.getD k 0 * ent m k i % 10007) % 10007
def syR (b : List Int) (i k : Nat) : Int := b.getD i 0 * b.getD k 0 % 10007
theorem syL_comm (m : List (List Int)) (b : List Int) (i k : Nat) : syL m b i k = syL m b k i := by unfold syL; rw [Int.add_comm]
theorem syR_comm (b : List Int) (i k : Nat) : syR b i k = syR b k i := by unfold syR; rw [Int.mul_comm]
theorem syL_num (m : List (List Int)) (b : List Int) (i k : Nat) : 0 ≤ syL m b i k ∧ syL m b i k < 10007 := ⟨Int.emod_nonneg _ (by omega), Int.emod_lt_of_pos _ (by omega)⟩
theorem syR_num (b : List Int) (i k : Nat) : 0 ≤ syR b i k ∧ syR b i k < 10007 := ⟨Int.emod_nonneg _ (by omega), Int.emod_lt_of_pos _ (by omega)⟩
def syOk (m : List (List Int)) (b : List Int) (i k : Nat) : Prop := syL m b i k = syR b i k
/-- what a search for a fault among the first n finds -/
def IsFault (ok : Nat → Nat → Prop) (n : Nat) (v : List Int) : Prop :=
  (v = [] ∧ ∀ i k, i ≤ k → k < n → ok i k) ∨
  ∃ i k : Nat, v = [(i : Int), (k : Int)] ∧ i ≤ k ∧ k < n ∧ ¬ ok i k ∧ ∀ j l, j ≤ l → l < n → (j < i ∨ (j = i ∧ l < k)) → ok j l
theorem IsFault.eq {ok : Nat → Nat → Prop} {n : Nat} {v v' : List Int} (h : IsFault ok n v) (h' : IsFault ok n v') : v = v' := by
  rcases h with ⟨rfl, h⟩ | ⟨i, k, rfl, h1, h2, h3, h4⟩
  · rcases h' with ⟨rfl, _⟩ | ⟨i, k, rfl, h1, h2, h3, h4⟩
    · rfl
    · exact absurd (h i k h1 h2) h3
  · rcases h' with ⟨rfl, h⟩ | ⟨i', k', rfl, g1, g2, g3, g4⟩
    · exact absurd (h i k h1 h2) h3
    · have a : ¬ (i < i' ∨ (i = i' ∧ k < k')) := fun q => h3 (g4 i k h1 h2 q)
      have b : ¬ (i' < i ∨ (i' = i ∧ k' < k)) := fun q => g3 (h4 i' k' g1 g2 q)
      obtain rfl : i = i' := by omega
      obtain rfl : k = k' := by omega
      rfl
noncomputable def faultOf (ok : Nat → Nat → Prop) (n : Nat) : List Int :=
  @dite _ (∃ v, IsFault ok n v) (Classical.propDecidable _) (fun h => Classical.choose h) (fun _ => [])
theorem IsFault.of {ok : Nat → Nat → Prop} {n : Nat} {v : List Int} (h : IsFault ok n v) : faultOf ok n = v := by
  unfold faultOf
  rw [dif_pos ⟨v, h⟩]
  exact (Classical.choose_spec (⟨v, h⟩ : ∃ v, IsFault ok n v)).eq h
/-- no fault before the row i, and none in this row before the column k -/
def NoF (ok : Nat → Nat → Prop) (n i k : Nat) : Prop := ∀ j l, j ≤ l → l < n → (j < i ∨ (j = i ∧ l < k)) → ok j l
theorem NoF.start (ok : Nat → Nat → Prop) (n : Nat) : NoF ok n 0 0 := fun j l _ _ h => by omega
theorem NoF.enter {ok : Nat → Nat → Prop} {n i : Nat} (h : NoF ok n i 0) : NoF ok n i i := fun j l h1 h2 h3 => h j l h1 h2 (by omega)
theorem NoF.step {ok : Nat → Nat → Prop} {n i k : Nat} (h : NoF ok n i k) (g : ok i k) : NoF ok n i (k + 1) := fun j l h1 h2 h3 => by
  by_cases e : j = i ∧ l = k
  · obtain ⟨rfl, rfl⟩ := e; exact g
  · exact h j l h1 h2 (by omega)
theorem NoF.leave {ok : Nat → Nat → Prop} {n i : Nat} (h : NoF ok n i n) : NoF ok n (i + 1) 0 := fun j l h1 h2 h3 => h j l h1 h2 (by omega)
theorem NoF.none {ok : Nat → Nat → Prop} {n : Nat} (h : NoF ok n n 0) : IsFault ok n [] := .inl ⟨rfl, fun i k h1 h2 => h i k h1 h2 (by omega)⟩
theorem NoF.found {ok : Nat → Nat → Prop} {n i k : Nat} (h : NoF ok n i k) (h1 : i ≤ k) (h2 : k < n) (g : ¬ ok i k) : IsFault ok n [(i : Int), (k : Int)] := .inr ⟨i, k, rfl, h1, h2, g, h⟩
theorem IsFault.less {ok ok' : Nat → Nat → Prop} {n N : Nat} {v : List Int} (h : IsFault ok' N v) (hn : n ≤ N) (he : ∀ i k, i < n → k < n → (ok' i k ↔ ok i k)) (ho : ∀ i k, n ≤ i ∨ n ≤ k → ok' i k) : IsFault ok n v := by
  rcases h with ⟨rfl, h⟩ | ⟨i, k, rfl, h1, h2, h3, h4⟩
  · exact .inl ⟨rfl, fun i k a b => (he i k (by omega) b).1 (h i k a (by omega))⟩
  · have hk : k < n := by
      rcases Nat.lt_or_ge k n with q | q
      · exact q
      · exact absurd (ho i k (.inr q)) h3
    exact .inr ⟨i, k, rfl, h1, hk, fun g => h3 ((he i k (by omega) hk).2 g), fun j l a b c => (he j l (by omega) b).1 (h4 j l a (by omega) c)⟩
theorem fault_some (ok : Nat → Nat → Prop) (n : Nat) : ∃ v, IsFault ok n v := by
  have row : ∀ d i, i + d = n → NoF ok n i 0 → ∃ v, IsFault ok n v := by
    intro d
    induction d with
    | zero => intro i hi h; obtain rfl : i = n := by omega
              exact ⟨[], h.none⟩
    | succ d ih =>
      intro i hi h
      have col : ∀ e k, k + e = n → i ≤ k → NoF ok n i k → ∃ v, IsFault ok n v := by
        intro e
        induction e with
        | zero => intro k hk _ hn; obtain rfl : k = n := by omega
                  exact ih (i + 1) (by omega) hn.leave
        | succ e ih2 =>
          intro k hk hik hn
          by_cases g : ok i k
          · exact ih2 (k + 1) (by omega) (by omega) (hn.step g)
          · exact ⟨_, hn.found hik (by omega) g⟩
      exact col (n - i) i (by omega) (Nat.le_refl _) h.enter
  exact row n 0 (by omega) (NoF.start ok n)
theorem fault_is (ok : Nat → Nat → Prop) (n : Nat) : IsFault ok n (faultOf ok n) := by
  obtain ⟨v, h⟩ := fault_some ok n
  rw [h.of]; exact h
theorem fault_none {ok : Nat → Nat → Prop} {n : Nat} : (faultOf ok n).isEmpty = true ↔ ∀ i k, i ≤ k → k < n → ok i k := by
  constructor
  · intro e
    rcases fault_is ok n with ⟨_, h⟩ | ⟨i, k, h, _⟩
    · exact h
    · rw [h] at e; simp at e
  · intro h
    rw [IsFault.of (.inl ⟨rfl, h⟩ : IsFault ok n [])]; rfl
theorem fault_small (m : List (List Int)) (b : List Int) (n : Nat) : (faultOf (syOk m b) n).length ≤ 2 := by
  unfold faultOf
  split
  · rename_i h
    rcases Classical.choose_spec h with ⟨e, _⟩ | ⟨i, k, e, _⟩
    · rw [e]; simp
    · rw [e]; simp
  · simp
noncomputable def symplA (m : List (List Int)) (b : List Int) : Bool × Int := if isTabB m b = true then ((faultOf (syOk m b) b.length).isEmpty, 0) else (false, 1)
noncomputable def faultSA (m : List (List Int)) (b : List Int) : List Int × Int := if isTabB m b = true then (faultOf (syOk m b) b.length, if (faultOf (syOk m b) b.length).isEmpty = true then 4 else 0) else ([], 1)
/-! symmetric ones -/
def smL (m : List (List Int)) (n i k : Nat) : Int := (ent m i k + ent m (n - 1 - i) (n - 1 - k)) % 10007
theorem smL_num (m : List (List Int)) (n i k : Nat) : 0 ≤ smL m n i k ∧ smL m n i k < 10007 := ⟨Int.emod_nonneg _ (by omega), Int.emod_lt_of_pos _ (by omega)⟩
def SmAll (m : List (List Int)) (b : List Int) : Prop := ∀ i k, i < b.length → k < b.length → smL m b.length i k = b.getD k 0
noncomputable def symmB (m : List (List Int)) (b : List Int) : Bool := @decide (SmAll m b) (Classical.propDecidable _)
noncomputable def symmA (m : List (List Int)) (b : List Int) : Bool × Int := if isTabB m b = true then (symmB m b, 0) else (false, 1)
theorem symmB_yes {m : List (List Int)} {b : List Int} (h : SmAll m b) : symmB m b = true := @decide_eq_true _ (_) h
theorem symmB_no {m : List (List Int)} {b : List Int} (h : ¬ SmAll m b) : symmB m b = false := @decide_eq_false _ (_) h
/-- all conditions before the row i, and those of this row before the column k -/
def SmTo (m : List (List Int)) (b : List Int) (i k : Nat) : Prop := ∀ j l, j < b.length → l < b.length → (j < i ∨ (j = i ∧ l < k)) → smL m b.length j l = b.getD l 0
theorem SmTo.step {m : List (List Int)} {b : List Int} {i k : Nat} (h : SmTo m b i k) (g : smL m b.length i k = b.getD k 0) : SmTo m b i (k + 1) := fun j l h1 h2 h3 => by
  by_cases e : j = i ∧ l = k
  · obtain ⟨rfl, rfl⟩ := e; exact g
  · exact h j l h1 h2 (by omega)
theorem SmTo.leave {m : List (List Int)} {b : List Int} {i k : Nat} (h : SmTo m b i k) (hk : b.length ≤ k) : SmTo m b (i + 1) 0 := fun j l h1 h2 h3 => h j l h1 h2 (by omega)
theorem SmTo.all {m : List (List Int)} {b : List Int} {i k : Nat} (h : SmTo m b i k) (hi : b.length ≤ i) : SmAll m b := fun j l h1 h2 => h j l h1 h2 (by omega)
end Go.Proofs.Ytnnihdkhblbdgaa
