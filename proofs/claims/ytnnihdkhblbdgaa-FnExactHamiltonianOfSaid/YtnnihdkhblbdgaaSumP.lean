/-
  Sums of trees as plain lists of trees with their numbers: a tree put in leaves them in order, each tree once.
-/
import Derived.Test.YtnnihdkhblbdgaaTreeD
namespace Go.Proofs.Ytnnihdkhblbdgaa.Tr
set_option maxRecDepth 100000

/-- where a tree stands, or would stand, in a sum -/
def atL (t : List Int) : List (List Int × Int) → Nat
  | [] => 0
  | e :: r => if beforeL e.1 t then atL t r + 1 else 0
/-- what a round of putting a tree into a sum puts out -/
def putE (t : List Int) (c : Int) (b : Bool) (e : List Int × Int) : List (List Int × Int) := (if b && !decide (e.1 = t) then [(t, c)] else []) ++ [(e.1, if e.1 = t then e.2 + c else e.2)]
def putTo (S : List (List Int × Int)) (t : List Int) (c : Int) (a : Nat) : Nat → List (List Int × Int)
  | 0 => []
  | i+1 => putTo S t c a i ++ putE t c (decide (i = a)) (S.getD i ([], 0))
def putL (S : List (List Int × Int)) (t : List Int) (c : Int) : List (List Int × Int) := putTo S t c (atL t S) S.length ++ (if atL t S = S.length then [(t, c)] else [])
def sumTo (f : Nat → List Int) : Nat → List (List Int × Int)
  | 0 => []
  | n+1 => putL (sumTo f n) (f n) 1
theorem atL_le (t : List Int) : ∀ S, atL t S ≤ S.length
  | [] => Nat.le_refl _
  | e :: r => by rw [atL]; split <;> simp [atL_le t r]
theorem putTo_length (S : List (List Int × Int)) (t : List Int) (c : Int) (a : Nat) : ∀ i, (putTo S t c a i).length ≤ i + (if a < i then 1 else 0)
  | 0 => by simp [putTo]
  | i+1 => by
    have ih := putTo_length S t c a i
    rw [putTo, List.length_append]
    have h : (putE t c (decide (i = a)) (S.getD i ([], 0))).length ≤ if i = a then 2 else 1 := by
      unfold putE
      by_cases e : i = a
      · rw [if_pos e, List.length_append]; split <;> simp
      · simp [e]
    by_cases e : i = a
    · rw [if_pos e] at h; rw [if_neg (by omega)] at ih; rw [if_pos (by omega)]; omega
    · rw [if_neg e] at h
      by_cases g : a < i
      · rw [if_pos g] at ih; rw [if_pos (by omega)]; omega
      · rw [if_neg g] at ih; rw [if_neg (by omega)]; omega
theorem putL_length (S : List (List Int × Int)) (t : List Int) (c : Int) : (putL S t c).length ≤ S.length + 1 := by
  have h := putTo_length S t c (atL t S) S.length
  have := atL_le t S
  unfold putL
  rw [List.length_append]
  by_cases e : atL t S = S.length
  · rw [if_pos e]; rw [if_neg (by omega)] at h; simp; omega
  · rw [if_neg e]; simp; split at h <;> omega
theorem putTo_mem {S : List (List Int × Int)} {t : List Int} {c : Int} {a : Nat} : ∀ {i : Nat} {e : List Int × Int}, i ≤ S.length → e ∈ putTo S t c a i → e.1 = t ∨ ∃ f ∈ S, f.1 = e.1
  | 0, e, _, h => by simp [putTo] at h
  | i+1, e, hi, h => by
    rw [putTo, List.mem_append] at h
    rcases h with h | h
    · exact putTo_mem (by omega) h
    · unfold putE at h
      rw [List.mem_append, List.mem_singleton] at h
      rcases h with h | h
      · split at h
        · rw [List.mem_singleton] at h; left; rw [h]
        · cases h
      · right
        refine ⟨S.getD i ([], 0), ?_, by rw [h]⟩
        rw [List.getD_eq_getElem?_getD, List.getElem?_eq_getElem (show i < S.length by omega)]
        exact List.getElem_mem _
theorem putL_mem {S : List (List Int × Int)} {t : List Int} {c : Int} {e : List Int × Int} (h : e ∈ putL S t c) : e.1 = t ∨ ∃ f ∈ S, f.1 = e.1 := by
  unfold putL at h
  rw [List.mem_append] at h
  rcases h with h | h
  · exact putTo_mem (Nat.le_refl _) h
  · split at h
    · rw [List.mem_singleton] at h; left; rw [h]
    · cases h
theorem sumTo_length (f : Nat → List Int) : ∀ n, (sumTo f n).length ≤ n
  | 0 => Nat.le_refl _
  | n+1 => by
    rw [sumTo]
    have := putL_length (sumTo f n) (f n) 1
    have := sumTo_length f n
    omega
theorem sumTo_mem {f : Nat → List Int} : ∀ {n : Nat} {e : List Int × Int}, e ∈ sumTo f n → ∃ k < n, e.1 = f k
  | 0, e, h => by simp [sumTo] at h
  | n+1, e, h => by
    rw [sumTo] at h
    rcases putL_mem h with h | ⟨g, hg, h⟩
    · exact ⟨n, by omega, h⟩
    · obtain ⟨k, hk, e'⟩ := sumTo_mem hg
      exact ⟨k, by omega, by rw [← h, e']⟩

/-! the order of lists -/
theorem lessL_no : ∀ x : List Int, lessL x x = false
  | [] => rfl
  | a :: x => by rw [lessL, if_pos rfl]; exact lessL_no x
theorem lessL_tr : ∀ {x y z : List Int}, lessL x y = true → lessL y z = true → lessL x z = true
  | [], _, [], _, h => by cases ‹List Int› <;> simp [lessL] at h
  | [], _, _ :: _, _, _ => rfl
  | _ :: _, [], _, h, _ => by simp [lessL] at h
  | _ :: _, _ :: _, [], _, h => by simp [lessL] at h
  | a :: x, b :: y, c :: z, h, k => by
    rw [lessL] at h k ⊢
    by_cases e1 : a = b
    · rw [if_pos e1] at h
      by_cases e2 : b = c
      · rw [if_pos e2] at k; rw [if_pos (by omega)]; exact lessL_tr h k
      · rw [if_neg e2] at k; rw [if_neg (by omega)]; simp only [decide_eq_true_eq] at k ⊢; omega
    · rw [if_neg e1] at h
      simp only [decide_eq_true_eq] at h
      by_cases e2 : b = c
      · rw [if_neg (by omega)]; simp only [decide_eq_true_eq]; omega
      · rw [if_neg e2] at k; simp only [decide_eq_true_eq] at k; rw [if_neg (by omega)]; simp only [decide_eq_true_eq]; omega
theorem lessL_cn : ∀ {x y : List Int}, x.length = y.length → x ≠ y → lessL x y = true ∨ lessL y x = true
  | [], [], _, h => absurd rfl h
  | [], _ :: _, h, _ => by simp at h
  | _ :: _, [], h, _ => by simp at h
  | a :: x, b :: y, h, k => by
    simp only [lessL]
    by_cases e : a = b
    · subst e
      rw [if_pos rfl, if_pos rfl]
      exact lessL_cn (by simpa using h) (fun q => k (by rw [q]))
    · rw [if_neg e, if_neg (Ne.symm e)]
      simp only [decide_eq_true_eq]; omega
theorem bf_no (x : List Int) : beforeL x x = false := by unfold beforeL; rw [if_neg (by simp)]; exact lessL_no x
theorem bf_tr {x y z : List Int} (h : beforeL x y = true) (k : beforeL y z = true) : beforeL x z = true := by
  unfold beforeL at *
  by_cases e1 : x.length = y.length <;> by_cases e2 : y.length = z.length
  · rw [if_neg (by simpa using e1)] at h
    rw [if_neg (by simpa using e2)] at k
    rw [if_neg (by rw [e1, e2]; simp)]
    exact lessL_tr k h
  · rw [if_pos e2] at k
    simp only [decide_eq_true_eq] at k
    rw [if_pos (by omega)]; simp only [decide_eq_true_eq]; omega
  · rw [if_pos e1] at h
    simp only [decide_eq_true_eq] at h
    rw [if_pos (by omega)]; simp only [decide_eq_true_eq]; omega
  · rw [if_pos e1] at h
    rw [if_pos e2] at k
    simp only [decide_eq_true_eq] at h k
    rw [if_pos (by omega)]; simp only [decide_eq_true_eq]; omega
theorem bf_cn {x y : List Int} (h : x ≠ y) : beforeL x y = true ∨ beforeL y x = true := by
  unfold beforeL
  by_cases e : x.length = y.length
  · rw [if_neg (by simpa using e), if_neg (by rw [e]; simp)]
    exact (lessL_cn e h).symm
  · rw [if_pos e, if_pos (Ne.symm e)]
    simp only [decide_eq_true_eq]; omega
theorem bf_ne {x y : List Int} (h : beforeL x y = true) : x ≠ y := fun e => by rw [e, bf_no] at h; cases h
theorem bf_as {x y : List Int} (h : beforeL x y = true) : beforeL y x = false := by
  cases k : beforeL y x
  · rfl
  · have := bf_tr h k; rw [bf_no] at this; cases this
/-! a tree put in, by the list -/
def insU (t : List Int) (c : Int) : List (List Int × Int) → List (List Int × Int)
  | [] => [(t, c)]
  | e :: r => if beforeL e.1 t then e :: insU t c r else if e.1 = t then (e.1, e.2 + c) :: r else (t, c) :: e :: r
def putG (t : List Int) (c : Int) : Nat → List (List Int × Int) → List (List Int × Int)
  | _, [] => []
  | 0, e :: r => putE t c true e ++ r.flatMap (putE t c false)
  | a+1, e :: r => putE t c false e ++ putG t c a r
theorem putG_push (t : List Int) (c : Int) : ∀ (X : List (List Int × Int)) (a : Nat) (e : List Int × Int), putG t c a (X ++ [e]) = putG t c a X ++ putE t c (decide (X.length = a)) e
  | [], 0, e => by simp [putG]
  | [], a+1, e => by simp [putG]
  | f :: X, 0, e => by simp [putG, List.flatMap_append]
  | f :: X, a+1, e => by
    rw [List.cons_append, putG, putG, putG_push t c X a e, List.append_assoc]
    simp
theorem putTo_putG (S : List (List Int × Int)) (t : List Int) (c : Int) (a : Nat) : ∀ i, i ≤ S.length → putTo S t c a i = putG t c a (S.take i)
  | 0, _ => by simp [putTo, putG]
  | i+1, h => by
    have hi : i < S.length := by omega
    rw [putTo, putTo_putG S t c a i (by omega), List.take_add_one, List.getElem?_eq_getElem hi, Option.toList_some, putG_push, List.length_take, Nat.min_eq_left (by omega), List.getD_eq_getElem?_getD, List.getElem?_eq_getElem hi]
    rfl
/-- in order, each tree once -/
def InOrder (S : List (List Int × Int)) : Prop := S.Pairwise fun a b => beforeL a.1 b.1 = true
theorem flat_same {t : List Int} {c : Int} : ∀ {r : List (List Int × Int)}, (∀ e ∈ r, e.1 ≠ t) → r.flatMap (putE t c false) = r
  | [], _ => rfl
  | e :: r, h => by
    rw [List.flatMap_cons, flat_same (r := r) (fun e he => h e (by simp [he]))]
    have := h e (by simp)
    simp [putE, this]
theorem putG_ins {t : List Int} {c : Int} : ∀ {S : List (List Int × Int)}, InOrder S → putG t c (atL t S) S ++ (if atL t S = S.length then [(t, c)] else []) = insU t c S
  | [], _ => rfl
  | e :: r, h => by
    have h' := List.pairwise_cons.1 h
    rw [atL, insU]
    by_cases hb : beforeL e.1 t = true
    · rw [if_pos hb, if_pos hb, putG, List.append_assoc, ← putG_ins h'.2]
      have := bf_ne hb
      simp [putE, this]
    · rw [if_neg hb, if_neg hb, putG, if_neg (by simp)]
      have hb' : beforeL e.1 t = false := by simpa using hb
      by_cases he : e.1 = t
      · rw [if_pos he, flat_same (fun f hf q => by have := h'.1 f hf; rw [q, hb'] at this; cases this)]
        simp [putE, he]
      · rw [if_neg he]
        have hte : beforeL t e.1 = true := by
          rcases bf_cn he with k | k
          · rw [k] at hb'; cases hb'
          · exact k
        rw [flat_same (fun f hf q => bf_ne (bf_tr hte (h'.1 f hf)) q.symm)]
        simp [putE, he]
theorem putL_ins {S : List (List Int × Int)} (h : InOrder S) (t : List Int) (c : Int) : putL S t c = insU t c S := by
  unfold putL
  rw [putTo_putG S t c _ _ (Nat.le_refl _), List.take_length, putG_ins h]
theorem insU_mem {t : List Int} {c : Int} : ∀ {S : List (List Int × Int)} {e : List Int × Int}, e ∈ insU t c S → e.1 = t ∨ e ∈ S
  | [], e, h => by simp [insU] at h; left; rw [h]
  | f :: r, e, h => by
    rw [insU] at h
    split at h
    · rw [List.mem_cons] at h
      rcases h with rfl | h
      · simp
      · rcases insU_mem h with k | k
        · exact .inl k
        · exact .inr (by simp [k])
    · split at h
      · rename_i q
        rw [List.mem_cons] at h
        rcases h with rfl | h
        · exact .inl q
        · exact .inr (by simp [h])
      · rw [List.mem_cons] at h
        rcases h with rfl | h
        · exact .inl rfl
        · exact .inr h
theorem insU_order {t : List Int} {c : Int} : ∀ {S : List (List Int × Int)}, InOrder S → InOrder (insU t c S)
  | [], _ => List.pairwise_singleton _ _
  | e :: r, h => by
    have h' := List.pairwise_cons.1 h
    rw [insU]
    split
    · rename_i hb
      exact List.pairwise_cons.2 ⟨fun f hf => by
        rcases insU_mem hf with k | k
        · rw [k]; exact hb
        · exact h'.1 f k, insU_order h'.2⟩
    · rename_i hb
      split
      · exact List.pairwise_cons.2 ⟨h'.1, h'.2⟩
      · rename_i he
        have hte : beforeL t e.1 = true := by
          rcases bf_cn he with k | k
          · exact absurd k hb
          · exact k
        exact List.pairwise_cons.2 ⟨fun f hf => by
          rw [List.mem_cons] at hf
          rcases hf with rfl | hf
          · exact hte
          · exact bf_tr hte (h'.1 f hf), h⟩
/-- the number of a tree in a sum -/
def look (s : List Int) : List (List Int × Int) → Int
  | [] => 0
  | e :: r => (if e.1 = s then e.2 else 0) + look s r
theorem look_insU (t : List Int) (c : Int) (s : List Int) : ∀ S : List (List Int × Int), look s (insU t c S) = look s S + if s = t then c else 0
  | [] => by
    by_cases h : t = s
    · simp [insU, look, h]
    · simp [insU, look, h, Ne.symm h]
  | e :: r => by
    rw [insU]
    split
    · rw [look, look, look_insU t c s r]; omega
    · split
      · rename_i q
        rw [look, look, q]
        by_cases h : t = s
        · simp [h]; omega
        · simp [h, Ne.symm h]
      · rw [look]
        by_cases h : t = s
        · simp [h]; omega
        · simp [h, Ne.symm h]
theorem look_none {s : List Int} : ∀ {S : List (List Int × Int)}, (∀ e ∈ S, e.1 ≠ s) → look s S = 0
  | [], _ => rfl
  | e :: r, h => by
    rw [look, if_neg (h e (by simp)), look_none (S := r) (fun f hf => h f (by simp [hf]))]; rfl
theorem look_head {e : List Int × Int} {r : List (List Int × Int)} (h : InOrder (e :: r)) : look e.1 (e :: r) = e.2 := by
  have h' := List.pairwise_cons.1 h
  rw [look, if_pos rfl, look_none (fun f hf q => bf_ne (h'.1 f hf) q.symm)]; omega
/-- two sums in order without zeros that have the same numbers are one -/
theorem sums_eq : ∀ {S S' : List (List Int × Int)}, InOrder S → InOrder S' → (∀ e ∈ S, e.2 ≠ 0) → (∀ e ∈ S', e.2 ≠ 0) → (∀ s, look s S = look s S') → S = S'
  | [], [], _, _, _, _, _ => rfl
  | [], e :: r, _, h', _, n', h => by
    have h1 := h e.1
    rw [look_head h'] at h1
    exact absurd h1.symm (n' e (by simp))
  | e :: r, [], h0, _, n, _, h => by
    have h1 := h e.1
    rw [look_head h0] at h1
    exact absurd h1 (n e (by simp))
  | e :: r, e' :: r', h0, h0', n, n', h => by
    have k := List.pairwise_cons.1 h0
    have k' := List.pairwise_cons.1 h0'
    have hee : e.1 = e'.1 := by
      by_cases q : e.1 = e'.1
      · exact q
      · exfalso
        rcases bf_cn q with b | b
        · have h1 := h e.1
          rw [look_head h0, look_none (S := e' :: r') (fun f hf g => by
            rw [List.mem_cons] at hf
            rcases hf with rfl | hf
            · exact q g.symm
            · exact bf_ne (bf_tr b (k'.1 f hf)) g.symm)] at h1
          exact n e (by simp) h1
        · have h1 := h e'.1
          rw [look_head h0', look_none (S := e :: r) (fun f hf g => by
            rw [List.mem_cons] at hf
            rcases hf with rfl | hf
            · exact q g
            · exact bf_ne (bf_tr b (k.1 f hf)) g.symm)] at h1
          exact n' e' (by simp) h1.symm
    have h2 : e.2 = e'.2 := by
      have h1 := h e.1
      rw [look_head h0] at h1
      rw [hee, look_head h0'] at h1
      exact h1
    have e1 : e = e' := Prod.ext hee h2
    subst e1
    rw [sums_eq k.2 k'.2 (fun f hf => n f (by simp [hf])) (fun f hf => n' f (by simp [hf])) (fun s => by
      have := h s
      rw [look, look] at this; omega)]
theorem sumTo_order (f : Nat → List Int) : ∀ n, InOrder (sumTo f n)
  | 0 => List.Pairwise.nil
  | n+1 => by rw [sumTo, putL_ins (sumTo_order f n)]; exact insU_order (sumTo_order f n)
theorem sumTo_ins (f : Nat → List Int) (n : Nat) : sumTo f (n + 1) = insU (f n) 1 (sumTo f n) := by rw [sumTo, putL_ins (sumTo_order f n)]
theorem insU_pos {t : List Int} {c : Int} (hc : 0 < c) : ∀ {S : List (List Int × Int)}, (∀ e ∈ S, 0 < e.2) → ∀ e ∈ insU t c S, 0 < e.2
  | [], _, e, h => by simp [insU] at h; rw [h]; exact hc
  | f :: r, hp, e, h => by
    rw [insU] at h
    split at h
    · rw [List.mem_cons] at h
      rcases h with rfl | h
      · exact hp _ (by simp)
      · exact insU_pos hc (fun f hf => hp f (by simp [hf])) e h
    · split at h
      · rw [List.mem_cons] at h
        rcases h with rfl | h
        · have := hp f (by simp); simp only; omega
        · exact hp e (by simp [h])
      · rw [List.mem_cons] at h
        rcases h with rfl | h
        · exact hc
        · exact hp e h
theorem sumTo_pos (f : Nat → List Int) : ∀ n, ∀ e ∈ sumTo f n, 0 < e.2
  | 0, e, h => by simp [sumTo] at h
  | n+1, e, h => by rw [sumTo_ins] at h; exact insU_pos (by omega) (sumTo_pos f n) e h
/-- how often a list stands among the first ones -/
def cntTo (f : Nat → List Int) (s : List Int) : Nat → Int
  | 0 => 0
  | n+1 => cntTo f s n + if s = f n then 1 else 0
theorem look_sumTo (f : Nat → List Int) (s : List Int) : ∀ n, look s (sumTo f n) = cntTo f s n
  | 0 => rfl
  | n+1 => by rw [sumTo_ins, look_insU, look_sumTo f s n, cntTo]
theorem cntTo_le (f : Nat → List Int) (s : List Int) : ∀ n : Nat, cntTo f s n ≤ (n : Int) ∧ 0 ≤ cntTo f s n
  | 0 => by simp [cntTo]
  | n+1 => by
    have := cntTo_le f s n
    rw [cntTo]; split <;> omega
theorem look_mem {S : List (List Int × Int)} (h : InOrder S) : ∀ {e}, e ∈ S → look e.1 S = e.2 := by
  induction S with
  | nil => intro e he; cases he
  | cons a r ih =>
    intro e he
    have h' := List.pairwise_cons.1 h
    rw [List.mem_cons] at he
    rcases he with rfl | he
    · exact look_head h
    · rw [look, if_neg (bf_ne (h'.1 e he)), ih h'.2 he]; omega
theorem sumTo_le (f : Nat → List Int) (n : Nat) {e : List Int × Int} (h : e ∈ sumTo f n) : 0 < e.2 ∧ e.2 ≤ (n : Int) := by
  have h1 := look_mem (sumTo_order f n) h
  rw [look_sumTo] at h1
  have := cntTo_le f e.1 n
  exact ⟨sumTo_pos f n e h, by omega⟩
/-- each one that was put in is there, and the first one of the sum is the least -/
theorem insU_has {t : List Int} {c : Int} : ∀ {S : List (List Int × Int)}, (∃ e ∈ insU t c S, e.1 = t) ∧ ∀ f ∈ S, ∃ e ∈ insU t c S, e.1 = f.1
  | [] => ⟨⟨(t, c), List.mem_singleton.2 rfl, rfl⟩, fun f h => by cases h⟩
  | a :: r => by
    obtain ⟨⟨e, he, k⟩, h⟩ := insU_has (t := t) (c := c) (S := r)
    rw [insU]
    split
    · exact ⟨⟨e, List.mem_cons_of_mem _ he, k⟩, fun f hf => by
        rw [List.mem_cons] at hf
        rcases hf with rfl | hf
        · exact ⟨_, by simp, rfl⟩
        · obtain ⟨e, he, k⟩ := h f hf
          exact ⟨e, by simp [he], k⟩⟩
    · split
      · rename_i q
        exact ⟨⟨_, List.mem_cons_self, q⟩, fun f hf => by
          rw [List.mem_cons] at hf
          rcases hf with rfl | hf
          · exact ⟨_, List.mem_cons_self, rfl⟩
          · exact ⟨f, by simp [hf], rfl⟩⟩
      · exact ⟨⟨_, List.mem_cons_self, rfl⟩, fun f hf => ⟨f, List.mem_cons_of_mem _ hf, rfl⟩⟩
theorem sumTo_has (f : Nat → List Int) : ∀ {n k : Nat}, k < n → ∃ e ∈ sumTo f n, e.1 = f k
  | 0, k, h => by omega
  | n+1, k, h => by
    rw [sumTo_ins]
    by_cases e : k = n
    · rw [e]; exact insU_has.1
    · obtain ⟨g, hg, q⟩ := sumTo_has f (n := n) (k := k) (by omega)
      obtain ⟨g', h', q'⟩ := insU_has.2 g hg
      exact ⟨g', h', by rw [q', q]⟩
/-- the least one of what was put in stands first -/
theorem sumTo_first {f : Nat → List Int} {n k : Nat} (hk : k < n) (hm : ∀ j < n, f j ≠ f k → beforeL (f k) (f j) = true) : ∃ x, (sumTo f n)[0]? = some (f k, x) := by
  have ho := sumTo_order f n
  obtain ⟨e, he, q⟩ := sumTo_has f hk
  have hmem := fun {e} (h : e ∈ sumTo f n) => sumTo_mem h
  generalize sumTo f n = S at ho he hmem
  cases S with
  | nil => cases he
  | cons a r =>
    have h' := List.pairwise_cons.1 ho
    rw [List.mem_cons] at he
    rcases he with rfl | he
    · exact ⟨e.2, by rw [← q]; rfl⟩
    · exfalso
      obtain ⟨j, hj, qa⟩ := hmem (e := a) (by simp)
      have h1 := h'.1 e he
      rw [q, qa] at h1
      have h2 := hm j hj (bf_ne h1)
      rw [bf_as h1] at h2; cases h2
end Go.Proofs.Ytnnihdkhblbdgaa.Tr
