/-
  Texts of this seat, joined: what several laws lean on.
-/
import Derived.Test.YtjmjdcfgbaepkaaUT1
import Derived.Test.YtjmjdcfgbaepkaaTreeD
import Derived.Test.YtjmjdcfgbaepkaaForest
import Derived.Test.YtjmjdcfgbaepkaaCmpX
import Derived.Test.YtjmjdcfgbaepkaaCan
import Derived.Test.YtjmjdcfgbaepkaaTrnP
import Derived.Test.YtjmjdcfgbaepkaaGrow
import Derived.Test.YtjmjdcfgbaepkaaNest
import Derived.Deep.DeepCutAuto
import Derived.Deep.CutBlock
import Derived.Test.YtjmjdcfgbaepkaaLev
import Derived.Test.YtjmjdcfgbaepkaaParts
import Derived.Test.YtjmjdcfgbaepkaaTreeC
/-
  Sums of trees as plain lists of trees with their numbers: a tree put in leaves them in order, each tree once.
-/
namespace Go.Proofs.Ytjmjdcfgbaepkaa.Tr
set_option maxRecDepth 100000

/-- where a tree stands, or would stand, in a sum -/
def atL (t : List Int) : List (List Int × Int) → Nat
  | [] => 0
  | e :: r => if beforeL e.1 t then atL t r + 1 else 0
/-- what a round of putting a tree into a sum puts out -/
def putE (t : List Int) (c : Int) (b : Bool) (e : List Int × Int) : List (List Int × Int) := (if b && !decide (e.1 = t) then [(t, c)] else []) ++ [(e.1, if e.1 = t then e.2 + c else e.2)]
def putTo (S : List (List Int × Int)) (t : List Int) (c : Int) (a : Nat) : Nat → List (List Int × Int)
  | 0 => []
  | i+1 => putTo S t c a i ++ putE t c (decide (i = a)) (S.getD i ([], 0))
def putL (S : List (List Int × Int)) (t : List Int) (c : Int) : List (List Int × Int) := putTo S t c (atL t S) S.length ++ (if atL t S = S.length then [(t, c)] else [])
def sumTo (f : Nat → List Int) : Nat → List (List Int × Int)
  | 0 => []
  | n+1 => putL (sumTo f n) (f n) 1
theorem atL_le (t : List Int) : ∀ S, atL t S ≤ S.length
  | [] => Nat.le_refl _
  | e :: r => by rw [atL]; split <;> simp [atL_le t r]
theorem putTo_length (S : List (List Int × Int)) (t : List Int) (c : Int) (a : Nat) : ∀ i, (putTo S t c a i).length ≤ i + (if a < i then 1 else 0)
  | 0 => by simp [putTo]
  | i+1 => by
    have ih := putTo_length S t c a i
    rw [putTo, List.length_append]
    have h : (putE t c (decide (i = a)) (S.getD i ([], 0))).length ≤ if i = a then 2 else 1 := by
      unfold putE
      by_cases e : i = a
      · rw [if_pos e, List.length_append]; split <;> simp
      · simp [e]
    by_cases e : i = a
    · rw [if_pos e] at h; rw [if_neg (by omega)] at ih; rw [if_pos (by omega)]; omega
    · rw [if_neg e] at h
      by_cases g : a < i
      · rw [if_pos g] at ih; rw [if_pos (by omega)]; omega
      · rw [if_neg g] at ih; rw [if_neg (by omega)]; omega
theorem putL_length (S : List (List Int × Int)) (t : List Int) (c : Int) : (putL S t c).length ≤ S.length + 1 := by
  have h := putTo_length S t c (atL t S) S.length
  have := atL_le t S
  unfold putL
  rw [List.length_append]
  by_cases e : atL t S = S.length
  · rw [if_pos e]; rw [if_neg (by omega)] at h; simp; omega
  · rw [if_neg e]; simp; split at h <;> omega
theorem putTo_mem {S : List (List Int × Int)} {t : List Int} {c : Int} {a : Nat} : ∀ {i : Nat} {e : List Int × Int}, i ≤ S.length → e ∈ putTo S t c a i → e.1 = t ∨ ∃ f ∈ S, f.1 = e.1
  | 0, e, _, h => by simp [putTo] at h
  | i+1, e, hi, h => by
    rw [putTo, List.mem_append] at h
    rcases h with h | h
    · exact putTo_mem (by omega) h
    · unfold putE at h
      rw [List.mem_append, List.mem_singleton] at h
      rcases h with h | h
      · split at h
        · rw [List.mem_singleton] at h; left; rw [h]
        · cases h
      · right
        refine ⟨S.getD i ([], 0), ?_, by rw [h]⟩
        rw [List.getD_eq_getElem?_getD, List.getElem?_eq_getElem (show i < S.length by omega)]
        exact List.getElem_mem _
theorem putL_mem {S : List (List Int × Int)} {t : List Int} {c : Int} {e : List Int × Int} (h : e ∈ putL S t c) : e.1 = t ∨ ∃ f ∈ S, f.1 = e.1 := by
  unfold putL at h
  rw [List.mem_append] at h
  rcases h with h | h
  · exact putTo_mem (Nat.le_refl _) h
  · split at h
    · rw [List.mem_singleton] at h; left; rw [h]
    · cases h
theorem sumTo_length (f : Nat → List Int) : ∀ n, (sumTo f n).length ≤ n
  | 0 => Nat.le_refl _
  | n+1 => by
    rw [sumTo]
    have := putL_length (sumTo f n) (f n) 1
    have := sumTo_length f n
    omega
theorem sumTo_mem {f : Nat → List Int} : ∀ {n : Nat} {e : List Int × Int}, e ∈ sumTo f n → ∃ k < n, e.1 = f k
  | 0, e, h => by simp [sumTo] at h
  | n+1, e, h => by
    rw [sumTo] at h
    rcases putL_mem h with h | ⟨g, hg, h⟩
    · exact ⟨n, by omega, h⟩
    · obtain ⟨k, hk, e'⟩ := sumTo_mem hg
      exact ⟨k, by omega, by rw [← h, e']⟩

/-! the order of lists -/
theorem lessL_no : ∀ x : List Int, lessL x x = false
  | [] => rfl
  | a :: x => by rw [lessL, if_pos rfl]; exact lessL_no x
theorem lessL_tr : ∀ {x y z : List Int}, lessL x y = true → lessL y z = true → lessL x z = true
  | [], _, [], _, h => by cases ‹List Int› <;> simp [lessL] at h
  | [], _, _ :: _, _, _ => rfl
  | _ :: _, [], _, h, _ => by simp [lessL] at h
  | _ :: _, _ :: _, [], _, h => by simp [lessL] at h
  | a :: x, b :: y, c :: z, h, k => by
    rw [lessL] at h k ⊢
    by_cases e1 : a = b
    · rw [if_pos e1] at h
      by_cases e2 : b = c
      · rw [if_pos e2] at k; rw [if_pos (by omega)]; exact lessL_tr h k
      · rw [if_neg e2] at k; rw [if_neg (by omega)]; simp only [decide_eq_true_eq] at k ⊢; omega
    · rw [if_neg e1] at h
      simp only [decide_eq_true_eq] at h
      by_cases e2 : b = c
      · rw [if_neg (by omega)]; simp only [decide_eq_true_eq]; omega
      · rw [if_neg e2] at k; simp only [decide_eq_true_eq] at k; rw [if_neg (by omega)]; simp only [decide_eq_true_eq]; omega
theorem lessL_cn : ∀ {x y : List Int}, x.length = y.length → x ≠ y → lessL x y = true ∨ lessL y x = true
  | [], [], _, h => absurd rfl h
  | [], _ :: _, h, _ => by simp at h
  | _ :: _, [], h, _ => by simp at h
  | a :: x, b :: y, h, k => by
    simp only [lessL]
    by_cases e : a = b
    · subst e
      rw [if_pos rfl, if_pos rfl]
      exact lessL_cn (by simpa using h) (fun q => k (by rw [q]))
    · rw [if_neg e, if_neg (Ne.symm e)]
      simp only [decide_eq_true_eq]; omega
theorem bf_no (x : List Int) : beforeL x x = false := by unfold beforeL; rw [if_neg (by simp)]; exact lessL_no x
theorem bf_tr {x y z : List Int} (h : beforeL x y = true) (k : beforeL y z = true) : beforeL x z = true := by
  unfold beforeL at *
  by_cases e1 : x.length = y.length <;> by_cases e2 : y.length = z.length
  · rw [if_neg (by simpa using e1)] at h
    rw [if_neg (by simpa using e2)] at k
    rw [if_neg (by rw [e1, e2]; simp)]
    exact lessL_tr k h
  · rw [if_pos e2] at k
    simp only [decide_eq_true_eq] at k
    rw [if_pos (by omega)]; simp only [decide_eq_true_eq]; omega
  · rw [if_pos e1] at h
    simp only [decide_eq_true_eq] at h
    rw [if_pos (by omega)]; simp only [decide_eq_true_eq]; omega
  · rw [if_pos e1] at h
    rw [if_pos e2] at k
    simp only [decide_eq_true_eq] at h k
    rw [if_pos (by omega)]; simp only [decide_eq_true_eq]; omega
theorem bf_cn {x y : List Int} (h : x ≠ y) : beforeL x y = true ∨ beforeL y x = true := by
  unfold beforeL
  by_cases e : x.length = y.length
  · rw [if_neg (by simpa using e), if_neg (by rw [e]; simp)]
    exact (lessL_cn e h).symm
  · rw [if_pos e, if_pos (Ne.symm e)]
    simp only [decide_eq_true_eq]; omega
theorem bf_ne {x y : List Int} (h : beforeL x y = true) : x ≠ y := fun e => by rw [e, bf_no] at h; cases h
theorem bf_as {x y : List Int} (h : beforeL x y = true) : beforeL y x = false := by
  cases k : beforeL y x
  · rfl
  · have := bf_tr h k; rw [bf_no] at this; cases this
/-! a tree put in, by the list -/
def insU (t : List Int) (c : Int) : List (List Int × Int) → List (List Int × Int)
  | [] => [(t, c)]
  | e :: r => if beforeL e.1 t then e :: insU t c r else if e.1 = t then (e.1, e.2 + c) :: r else (t, c) :: e :: r
def putG (t : List Int) (c : Int) : Nat → List (List Int × Int) → List (List Int × Int)
  | _, [] => []
  | 0, e :: r => putE t c true e ++ r.flatMap (putE t c false)
  | a+1, e :: r => putE t c false e ++ putG t c a r
theorem putG_push (t : List Int) (c : Int) : ∀ (X : List (List Int × Int)) (a : Nat) (e : List Int × Int), putG t c a (X ++ [e]) = putG t c a X ++ putE t c (decide (X.length = a)) e
  | [], 0, e => by simp [putG]
  | [], a+1, e => by simp [putG]
  | f :: X, 0, e => by simp [putG, List.flatMap_append]
  | f :: X, a+1, e => by
    rw [List.cons_append, putG, putG, putG_push t c X a e, List.append_assoc]
    simp
theorem putTo_putG (S : List (List Int × Int)) (t : List Int) (c : Int) (a : Nat) : ∀ i, i ≤ S.length → putTo S t c a i = putG t c a (S.take i)
  | 0, _ => by simp [putTo, putG]
  | i+1, h => by
    have hi : i < S.length := by omega
    rw [putTo, putTo_putG S t c a i (by omega), List.take_add_one, List.getElem?_eq_getElem hi, Option.toList_some, putG_push, List.length_take, Nat.min_eq_left (by omega), List.getD_eq_getElem?_getD, List.getElem?_eq_getElem hi]
    rfl
/-- in order, each tree once -/
def InOrder (S : List (List Int × Int)) : Prop := S.Pairwise fun a b => beforeL a.1 b.1 = true
theorem flat_same {t : List Int} {c : Int} : ∀ {r : List (List Int × Int)}, (∀ e ∈ r, e.1 ≠ t) → r.flatMap (putE t c false) = r
  | [], _ => rfl
  | e :: r, h => by
    rw [List.flatMap_cons, flat_same (r := r) (fun e he => h e (by simp [he]))]
    have := h e (by simp)
    simp [putE, this]
theorem putG_ins {t : List Int} {c : Int} : ∀ {S : List (List Int × Int)}, InOrder S → putG t c (atL t S) S ++ (if atL t S = S.length then [(t, c)] else []) = insU t c S
  | [], _ => rfl
  | e :: r, h => by
    have h' := List.pairwise_cons.1 h
    rw [atL, insU]
    by_cases hb : beforeL e.1 t = true
    · rw [if_pos hb, if_pos hb, putG, List.append_assoc, ← putG_ins h'.2]
      have := bf_ne hb
      simp [putE, this]
    · rw [if_neg hb, if_neg hb, putG, if_neg (by simp)]
      have hb' : beforeL e.1 t = false := by simpa using hb
      by_cases he : e.1 = t
      · rw [if_pos he, flat_same (fun f hf q => by have := h'.1 f hf; rw [q, hb'] at this; cases this)]
        simp [putE, he]
      · rw [if_neg he]
        have hte : beforeL t e.1 = true := by
          rcases bf_cn he with k | k
          · rw [k] at hb'; cases hb'
          · exact k
        rw [flat_same (fun f hf q => bf_ne (bf_tr hte (h'.1 f hf)) q.symm)]
        simp [putE, he]
theorem putL_ins {S : List (List Int × Int)} (h : InOrder S) (t : List Int) (c : Int) : putL S t c = insU t c S := by
  unfold putL
  rw [putTo_putG S t c _ _ (Nat.le_refl _), List.take_length, putG_ins h]
theorem insU_mem {t : List Int} {c : Int} : ∀ {S : List (List Int × Int)} {e : List Int × Int}, e ∈ insU t c S → e.1 = t ∨ e ∈ S
  | [], e, h => by simp [insU] at h; left; rw [h]
  | f :: r, e, h => by
    rw [insU] at h
    split at h
    · rw [List.mem_cons] at h
      rcases h with rfl | h
      · simp
      · rcases insU_mem h with k | k
        · exact .inl k
        · exact .inr (by simp [k])
    · split at h
      · rename_i q
        rw [List.mem_cons] at h
        rcases h with rfl | h
        · exact .inl q
        · exact .inr (by simp [h])
      · rw [List.mem_cons] at h
        rcases h with rfl | h
        · exact .inl rfl
        · exact .inr h
theorem insU_order {t : List Int} {c : Int} : ∀ {S : List (List Int × Int)}, InOrder S → InOrder (insU t c S)
  | [], _ => List.pairwise_singleton _ _
  | e :: r, h => by
    have h' := List.pairwise_cons.1 h
    rw [insU]
    split
    · rename_i hb
      exact List.pairwise_cons.2 ⟨fun f hf => by
        rcases insU_mem hf with k | k
        · rw [k]; exact hb
        · exact h'.1 f k, insU_order h'.2⟩
    · rename_i hb
      split
      · exact List.pairwise_cons.2 ⟨h'.1, h'.2⟩
      · rename_i he
        have hte : beforeL t e.1 = true := by
          rcases bf_cn he with k | k
          · exact absurd k hb
          · exact k
        exact List.pairwise_cons.2 ⟨fun f hf => by
          rw [List.mem_cons] at hf
          rcases hf with rfl | hf
          · exact hte
          · exact bf_tr hte (h'.1 f hf), h⟩
/-- the number of a tree in a sum -/
def look (s : List Int) : List (List Int × Int) → Int
  | [] => 0
  | e :: r => (if e.1 = s then e.2 else 0) + look s r
theorem look_insU (t : List Int) (c : Int) (s : List Int) : ∀ S : List (List Int × Int), look s (insU t c S) = look s S + if s = t then c else 0
  | [] => by
    by_cases h : t = s
    · simp [insU, look, h]
    · simp [insU, look, h, Ne.symm h]
  | e :: r => by
    rw [insU]
    split
    · rw [look, look, look_insU t c s r]; omega
    · split
      · rename_i q
        rw [look, look, q]
        by_cases h : t = s
        · simp [h]; omega
        · simp [h, Ne.symm h]
      · rw [look]
        by_cases h : t = s
        · simp [h]; omega
        · simp [h, Ne.symm h]
theorem look_none {s : List Int} : ∀ {S : List (List Int × Int)}, (∀ e ∈ S, e.1 ≠ s) → look s S = 0
  | [], _ => rfl
  | e :: r, h => by
    rw [look, if_neg (h e (by simp)), look_none (S := r) (fun f hf => h f (by simp [hf]))]; rfl
theorem look_head {e : List Int × Int} {r : List (List Int × Int)} (h : InOrder (e :: r)) : look e.1 (e :: r) = e.2 := by
  have h' := List.pairwise_cons.1 h
  rw [look, if_pos rfl, look_none (fun f hf q => bf_ne (h'.1 f hf) q.symm)]; omega
/-- two sums in order without zeros that have the same numbers are one -/
theorem sums_eq : ∀ {S S' : List (List Int × Int)}, InOrder S → InOrder S' → (∀ e ∈ S, e.2 ≠ 0) → (∀ e ∈ S', e.2 ≠ 0) → (∀ s, look s S = look s S') → S = S'
  | [], [], _, _, _, _, _ => rfl
  | [], e :: r, _, h', _, n', h => by
    have h1 := h e.1
    rw [look_head h'] at h1
    exact absurd h1.symm (n' e (by simp))
  | e :: r, [], h0, _, n, _, h => by
    have h1 := h e.1
    rw [look_head h0] at h1
    exact absurd h1 (n e (by simp))
  | e :: r, e' :: r', h0, h0', n, n', h => by
    have k := List.pairwise_cons.1 h0
    have k' := List.pairwise_cons.1 h0'
    have hee : e.1 = e'.1 := by
      by_cases q : e.1 = e'.1
      · exact q
      · exfalso
        rcases bf_cn q with b | b
        · have h1 := h e.1
          rw [look_head h0, look_none (S := e' :: r') (fun f hf g => by
            rw [List.mem_cons] at hf
            rcases hf with rfl | hf
            · exact q g.symm
            · exact bf_ne (bf_tr b (k'.1 f hf)) g.symm)] at h1
          exact n e (by simp) h1
        · have h1 := h e'.1
          rw [look_head h0', look_none (S := e :: r) (fun f hf g => by
            rw [List.mem_cons] at hf
            rcases hf with rfl | hf
            · exact q g
            · exact bf_ne (bf_tr b (k.1 f hf)) g.symm)] at h1
          exact n' e' (by simp) h1.symm
    have h2 : e.2 = e'.2 := by
      have h1 := h e.1
      rw [look_head h0] at h1
      rw [hee, look_head h0'] at h1
      exact h1
    have e1 : e = e' := Prod.ext hee h2
    subst e1
    rw [sums_eq k.2 k'.2 (fun f hf => n f (by simp [hf])) (fun f hf => n' f (by simp [hf])) (fun s => by
      have := h s
      rw [look, look] at this; omega)]
theorem sumTo_order (f : Nat → List Int) : ∀ n, InOrder (sumTo f n)
  | 0 => List.Pairwise.nil
  | n+1 => by rw [sumTo, putL_ins (sumTo_order f n)]; exact insU_order (sumTo_order f n)
theorem sumTo_ins (f : Nat → List Int) (n : Nat) : sumTo f (n + 1) = insU (f n) 1 (sumTo f n) := by rw [sumTo, putL_ins (sumTo_order f n)]
theorem insU_pos {t : List Int} {c : Int} (hc : 0 < c) : ∀ {S : List (List Int × Int)}, (∀ e ∈ S, 0 < e.2) → ∀ e ∈ insU t c S, 0 < e.2
  | [], _, e, h => by simp [insU] at h; rw [h]; exact hc
  | f :: r, hp, e, h => by
    rw [insU] at h
    split at h
    · rw [List.mem_cons] at h
      rcases h with rfl | h
      · exact hp _ (by simp)
      · exact insU_pos hc (fun f hf => hp f (by simp [hf])) e h
    · split at h
      · rw [List.mem_cons] at h
        rcases h with rfl | h
        · have := hp f (by simp); simp only; omega
        · exact hp e (by simp [h])
      · rw [List.mem_cons] at h
        rcases h with rfl | h
        · exact hc
        · exact hp e h
theorem sumTo_pos (f : Nat → List Int) : ∀ n, ∀ e ∈ sumTo f n, 0 < e.2
  | 0, e, h => by simp [sumTo] at h
  | n+1, e, h => by rw [sumTo_ins] at h; exact insU_pos (by omega) (sumTo_pos f n) e h
/-- how often a list stands among the first ones -/
def cntTo (f : Nat → List Int) (s : List Int) : Nat → Int
  | 0 => 0
  | n+1 => cntTo f s n + if s = f n then 1 else 0
theorem look_sumTo (f : Nat → List Int) (s : List Int) : ∀ n, look s (sumTo f n) = cntTo f s n
  | 0 => rfl
  | n+1 => by rw [sumTo_ins, look_insU, look_sumTo f s n, cntTo]
theorem cntTo_le (f : Nat → List Int) (s : List Int) : ∀ n : Nat, cntTo f s n ≤ (n : Int) ∧ 0 ≤ cntTo f s n
  | 0 => by simp [cntTo]
  | n+1 => by
    have := cntTo_le f s n
    rw [cntTo]; split <;> omega
theorem look_mem {S : List (List Int × Int)} (h : InOrder S) : ∀ {e}, e ∈ S → look e.1 S = e.2 := by
  induction S with
  | nil => intro e he; cases he
  | cons a r ih =>
    intro e he
    have h' := List.pairwise_cons.1 h
    rw [List.mem_cons] at he
    rcases he with rfl | he
    · exact look_head h
    · rw [look, if_neg (bf_ne (h'.1 e he)), ih h'.2 he]; omega
theorem sumTo_le (f : Nat → List Int) (n : Nat) {e : List Int × Int} (h : e ∈ sumTo f n) : 0 < e.2 ∧ e.2 ≤ (n : Int) := by
  have h1 := look_mem (sumTo_order f n) h
  rw [look_sumTo] at h1
  have := cntTo_le f e.1 n
  exact ⟨sumTo_pos f n e h, by omega⟩
/-- each one that was put in is there, and the first one of the sum is the least -/
theorem insU_has {t : List Int} {c : Int} : ∀ {S : List (List Int × Int)}, (∃ e ∈ insU t c S, e.1 = t) ∧ ∀ f ∈ S, ∃ e ∈ insU t c S, e.1 = f.1
  | [] => ⟨⟨(t, c), List.mem_singleton.2 rfl, rfl⟩, fun f h => by cases h⟩
  | a :: r => by
    obtain ⟨⟨e, he, k⟩, h⟩ := insU_has (t := t) (c := c) (S := r)
    rw [insU]
    split
    · exact ⟨⟨e, List.mem_cons_of_mem _ he, k⟩, fun f hf => by
        rw [List.mem_cons] at hf
        rcases hf with rfl | hf
        · exact ⟨_, by simp, rfl⟩
        · obtain ⟨e, he, k⟩ := h f hf
          exact ⟨e, by simp [he], k⟩⟩
    · split
      · rename_i q
        exact ⟨⟨_, List.mem_cons_self, q⟩, fun f hf => by
          rw [List.mem_cons] at hf
          rcases hf with rfl | hf
          · exact ⟨_, List.mem_cons_self, rfl⟩
          · exact ⟨f, by simp [hf], rfl⟩⟩
      · exact ⟨⟨_, List.mem_cons_self, rfl⟩, fun f hf => ⟨f, List.mem_cons_of_mem _ hf, rfl⟩⟩
theorem sumTo_has (f : Nat → List Int) : ∀ {n k : Nat}, k < n → ∃ e ∈ sumTo f n, e.1 = f k
  | 0, k, h => by omega
  | n+1, k, h => by
    rw [sumTo_ins]
    by_cases e : k = n
    · rw [e]; exact insU_has.1
    · obtain ⟨g, hg, q⟩ := sumTo_has f (n := n) (k := k) (by omega)
      obtain ⟨g', h', q'⟩ := insU_has.2 g hg
      exact ⟨g', h', by rw [q', q]⟩
/-- the least one of what was put in stands first -/
theorem sumTo_first {f : Nat → List Int} {n k : Nat} (hk : k < n) (hm : ∀ j < n, f j ≠ f k → beforeL (f k) (f j) = true) : ∃ x, (sumTo f n)[0]? = some (f k, x) := by
  have ho := sumTo_order f n
  obtain ⟨e, he, q⟩ := sumTo_has f hk
  have hmem := fun {e} (h : e ∈ sumTo f n) => sumTo_mem h
  generalize sumTo f n = S at ho he hmem
  cases S with
  | nil => cases he
  | cons a r =>
    have h' := List.pairwise_cons.1 ho
    rw [List.mem_cons] at he
    rcases he with rfl | he
    · exact ⟨e.2, by rw [← q]; rfl⟩
    · exfalso
      obtain ⟨j, hj, qa⟩ := hmem (e := a) (by simp)
      have h1 := h'.1 e he
      rw [q, qa] at h1
      have h2 := hm j hj (bf_ne h1)
      rw [bf_as h1] at h2; cases h2
end Go.Proofs.Ytjmjdcfgbaepkaa.Tr
/-
  For the law FnTrees, plain: a tree is made of its branches, has its index and its text, and its numbers' product: gone through.
-/
namespace Go.Proofs.Ytjmjdcfgbaepkaa
open Go.RowKit Fld
set_option linter.unusedVariables false
set_option linter.unusedSimpArgs false
set_option maxRecDepth 100000

theorem fac_eq : ∀ n, factN n = Tr.facP n
  | 0 => rfl
  | n+1 => by rw [factN, Tr.facP, fac_eq n]
theorem eqL_sym' (a b : List Int) : eqL a b = eqL b a := by
  unfold eqL
  by_cases h : a = b
  · subst h; rfl
  · rw [decide_eq_false h, decide_eq_false (fun e => h e.symm)]
/-- what the calls of the law answer at a level list -/
theorem trees_facts {s : List Int} (h : Tr.isLv s = true) : ∃ (u : List Int) (f : List (List Int)) (x : List UInt8) (i a b c : Int),
    canA s = (u, 0) ∧ canA u = (u, 0) ∧ isTr u = true ∧ u.length = s.length ∧ s.length ≤ 8 ∧ isTr s = eqL s u ∧ u = Tr.can s ∧
    branchesA s = (f, 0) ∧ isFor f = true ∧ (total f : Nat) + 1 = s.length ∧ f.length ≤ 8 ∧ rootA f = (u, 0) ∧
    indexA s = (i, 0) ∧ (0 ≤ i ∧ i ≤ 199) ∧ treeAtA i = (u, 0) ∧ textA s = (x, 0) ∧ parseTA ⟨x.toArray⟩ = (u, 0) ∧ x.length ≤ 16 ∧
    symmetryA s = (a, 0) ∧ densityA s = (b, 0) ∧ labellingsA s = (c, 0) ∧ (0 ≤ a ∧ a ≤ 1000000) ∧ (0 ≤ b ∧ b ≤ 1000000) ∧ (0 ≤ c ∧ c ≤ 1000000) ∧ (0 ≤ c * a ∧ c * a ≤ 1000000) ∧ 0 < c ∧ c * a * b = factN s.length := by
  have h1 : Tr.chkTn s = true := Tr.all_of Tr.chkTn_all (Tr.isLv_iff.1 h)
  unfold Tr.chkTn at h1
  simp only [Bool.and_eq_true, decide_eq_true_eq, Tr.rng9_iff] at h1
  obtain ⟨⟨⟨⟨⟨⟨⟨⟨⟨⟨⟨⟨c1, hfl⟩, c2⟩, c3⟩, c4⟩, c5⟩, c6⟩, c7⟩, c8⟩, c9⟩, c10⟩, c11⟩, c12⟩ := h1
  obtain ⟨l1, l2, l3, l4⟩ := lv_txt h
  obtain ⟨e1, e2⟩ := Tr.can_can h
  obtain ⟨_, b8⟩ := lv_bd h
  replace c2 : total (Tr.branL s) + 1 = s.length := c2
  have hti : isTr (Tr.can s) = true := by unfold isTr; rw [l2, e1, eqL_self]; rfl
  refine ⟨Tr.can s, Tr.branL s, Tr.txt s, _, _, _, _, canA_yes h, by rw [canA_yes l2, e1], hti, l3, b8, ?_, rfl, branchesA_yes h, c1, c2, hfl, ?_, indexA_yes h, c5, ?_, textA_yes h, parseT_yes (by rw [c4]) (by rw [c4]) hti, by omega, symmetryA_yes h, densityA_yes h, by rw [labellingsA_yes h, fac_eq]; rfl, c7, c8, c9, c10, c11, by rw [fac_eq]; exact c12⟩
  · unfold isTr; rw [h, eqL_sym']; rfl
  · rw [rootA_yes c1 (by omega), c3]
  · have hn : (Tr.idxL (Tr.can s) Tr.allL 0) = (((Tr.idxL (Tr.can s) Tr.allL 0).toNat : Nat) : Int) := by omega
    rw [hn]
    exact treeAtA_yes c6 (by omega)
/-- equal codes of order: equal trees -/
theorem cmp_zero {s t : List Int} (h : Tr.isLv s = true) (h' : Tr.isLv t = true) : ∃ o : Int, cmpA s t = (o, 0) ∧ (-1 ≤ o ∧ o ≤ 1) ∧ eqL (Tr.can s) (Tr.can t) = decide (o = 0) := by
  refine ⟨_, cmpA_yes h h', ?_, ?_⟩
  · unfold Tr.cmpL
    split
    · omega
    · split <;> omega
  · unfold eqL
    by_cases e : Tr.can s = Tr.can t
    · rw [decide_eq_true e, e]
      have hz : Tr.beforeL (Tr.can t) (Tr.can t) = false := Tr.bf_no _
      unfold Tr.cmpL
      rw [hz]; rfl
    · rw [decide_eq_false e]
      rcases Tr.bf_cn e with b | b
      · unfold Tr.cmpL; rw [b]; rfl
      · unfold Tr.cmpL
        cases b2 : Tr.beforeL (Tr.can s) (Tr.can t)
        · rw [b]; rfl
        · rfl
end Go.Proofs.Ytjmjdcfgbaepkaa
/-
  Draws of lists: worlds in which a source and rows of the call's own have turned.
-/
namespace Go.Proofs.Ytjmjdcfgbaepkaa
open Go.RowKit Fld
set_option linter.unusedVariables false
set_option linter.unusedSimpArgs false
set_option maxRecDepth 100000

/-- a row of the call's own has turned, and the source -/
theorem only_row {w a b : World} {G g : Nat} (h : w.grownBy a (some G)) (k : a.grownBy b (some g)) (hg : w.heap.size ≤ g) : w.grownBy b (some G) :=
  ⟨k.os.trans h.os, k.tape.trans h.tape, k.output.trans h.output, Nat.le_trans h.size k.size, fun i hi hne => (k.block i (Nat.lt_of_lt_of_le hi h.size) (fun e => by have := Option.some.inj e; omega)).trans (h.block i hi hne)⟩
theorem Src.only {w w' : World} {T : TypeId} {G B g : Nat} {xs : List Int} (s : Src w T G B xs) (k : w.grownBy w' (some g)) (hg : g ≠ G) (hB : B ≤ g) : Src w' T G B xs := by
  obtain ⟨A, c, i, h, h1, h2, h3, h4, h5⟩ := s
  exact ⟨A, c, i, h, (k.block G h1.lt (fun e => hg (Option.some.inj e).symm)).trans h1, h2, h3, h4.only k hB, h5⟩
/-- a list that was drawn: its own memory, and only the source has turned -/
def DrawnL (P : List Int → Prop) (T : TypeId) (G B : Nat) (xs : List Int) (w : World) (e : Ending) (w' : World) : Prop :=
  ∃ g c n, ∃ ys : List Int, e = .returned (.slice (some ⟨g, 0, none⟩) n c) ∧ ys.length = n ∧ P ys ∧ w'.ownsRow w.heap.size 2 1 (.slice (some ⟨g, 0, none⟩) n c) n (ints ys) ∧ Src w' T G B xs ∧ w.grownBy w' (some G)
theorem own_past {w w1 : World} {base G g n c : Nat} {vs : List Value} (h : w.ownsRow base 2 1 (.slice (some ⟨g, 0, none⟩) n c) n vs) (hG : G < base) (o : w.grownBy w1 (some G)) : w1.ownsRow base 2 1 (.slice (some ⟨g, 0, none⟩) n c) n vs :=
  h.kept o (.inr (fun e => by have h1 := (h.lt g rfl).1; have h2 : g = G := (by simpa [Value.ownBlock] using e); omega))
theorem own_room {w : World} {base n c : Nat} {A : Option Addr} {vs : List Value} (h : w.ownsRow base 2 1 (.slice A n c) n vs) : n ≤ c := by
  rcases h.2 with ⟨e1, e2⟩ | ⟨g, cap, cur, e1, _, _, e2, _⟩
  · omega
  · injection e1 with e3 e4 e5; omega
theorem row_only {w w' : World} {base G g n c : Nat} {vs : List Value} (h : w.ownsRow base 2 1 (.slice (some ⟨g, 0, none⟩) n c) n vs) (hG : G < base) (o : w.grownBy w' (some G)) : Row w' w'.heap.size (some ⟨g, 0, none⟩) vs := row_of_own (own_past h hG o)
theorem own_pastv {w w1 : World} {base G n k : Nat} {T : TypeId} {v : Value} {vs : List Value} (h : w.ownsRow base T k v n vs) (hG : G < base) (o : w.grownBy w1 (some G)) : w1.ownsRow base T k v n vs := h.kept o (.inr (fun e => by have := (h.lt G e).1; omega))
/-- a list that was drawn, or none -/
def DrawnR (P : List Int → Prop) (T : TypeId) (G B : Nat) (xs : List Int) (w : World) (e : Ending) (w' : World) : Prop :=
  ∃ A c n, ∃ ys : List Int, e = .returned (.slice A n c) ∧ ys.length = n ∧ P ys ∧ w'.ownsRow w.heap.size 2 1 (.slice A n c) n (ints ys) ∧ Src w' T G B xs ∧ w.grownBy w' (some G)
end Go.Proofs.Ytjmjdcfgbaepkaa
/-
  Draws of level lists: what is mostly one.
-/
namespace Go.Proofs.Ytjmjdcfgbaepkaa
open Go.RowKit Fld
set_option linter.unusedVariables false
set_option linter.unusedSimpArgs false
set_option maxRecDepth 100000

theorem at_lastT {ys : List Int} {j : Nat} (h : ys.length = j + 1) : ∃ y, ys[j]? = some y ∧ y ∈ ys := by
  have hj : j < ys.length := by omega
  exact ⟨ys[j], List.getElem?_eq_getElem hj, List.getElem_mem hj⟩
theorem ints_snocT (ys : List Int) (r : Int) : ints ys ++ [.int .i64 r] = ints (ys ++ [r]) := by simp [ints, intsK]
def UpTo (ys : List Int) (j : Nat) : Prop := ∀ y ∈ ys, 0 ≤ y ∧ y ≤ (j : Int)
theorem UpTo.snoc {ys : List Int} {j : Nat} {r : Int} (h : UpTo ys j) (h0 : 0 ≤ r) (h1 : r ≤ (j : Int) + 1) : UpTo (ys ++ [r]) (j + 1) := fun y hy => by
  rcases List.mem_append.1 hy with h2 | h2
  · have := h y h2; omega
  · obtain rfl : y = r := by simpa using h2
    omega
set_option maxHeartbeats 1000000 in
theorem l03Draw_any (G B : Nat) (xs : List Int) (n : Nat) (w : World) (h1 : 1 ≤ n) (hn : n ≤ 64) (s : Src w 140 G B xs) :
    Calls Try.prog 120 #[.pointer (some ⟨G, 0, none⟩), .int .i64 n] w (DrawnL (fun ys => 1 ≤ ys.length ∧ ys.length ≤ n) 140 G B xs w) := by
  obtain ⟨i0, hi, hz0, hz1, hz2⟩ := info_parts info_i64
  have HG := s.lt
  have S0 := Lib.hid (s.alloc (.cells #[.int .i64 0] 2))
  have O0 : Hid ((w.alloc (.cells #[.int .i64 0] 2)).ownsRow w.heap.size 2 1 (.slice (some ⟨w.heap.size, 0, none⟩) 1 1) 1 (ints [0])) := World.ownsRow_lit w #[.int .i64 0] 1 (Nat.le_refl _) (by decide) rfl
  have U0 : Hid (UpTo [0] 0) := fun y hy => by
    obtain rfl : y = 0 := by simpa using hy
    omega
  clear s
  go_enter Try.func120, Try.ntmps120
  go_wp2_with fail
  refine (l01Next_any G B xs _ _ (by omega) S0.out).mono ?_
  rintro e w1 ⟨r, rfl, r0, r1, s1, o1⟩
  obtain ⟨rn, rfl⟩ : ∃ rn : Nat, r = (rn : Int) := ⟨r.toNat, by omega⟩
  have O1 := Lib.hid (own_pastv O0.out HG o1)
  have G1 := Lib.hid (only_trans (World.grownBy_alloc w (.cells #[.int .i64 0] 2) (some G)) o1)
  have S1 := Lib.hid s1
  clear O0 S0 s1 o1
  go_wp2_with fail
  go_loopw [5, 6] (fun v q wr => ∃ j g cap : Nat, ∃ ys : List Int, j ≤ rn ∧ v = .slice (some ⟨g, 0, none⟩) (j + 1) cap ∧ q = .int .i64 ((rn : Int) - j) ∧ ys.length = j + 1 ∧ Hid (UpTo ys j) ∧ wr.ownsRow w.heap.size 2 1 (.slice (some ⟨g, 0, none⟩) (j + 1) cap) (j + 1) (ints ys) ∧ Src wr 140 G B xs ∧ w.grownBy wr (some G)) (fun _ q _ => (intOf q).toNat)
  case atStart => exact ⟨0, _, _, [0], by omega, rfl, by simp, rfl, U0, O1.out, S1.out, G1.out⟩
  case round =>
    obtain ⟨j, g, cap, ys, hj, rfl, rfl, hy1, HU, hown, hs, ho⟩ := hrel
    by_cases hlt : j < rn
    · have h0 : (0 : Int) < (rn : Int) - j := by omega
      have hg := (hown.lt g rfl).1
      obtain ⟨y, hy, hm⟩ := at_lastT hy1
      have hy2 := HU.out y hm
      have hc := hown.cellAt j (by omega)
      rw [ints_at hy] at hc
      have HY1 := Lib.hid hy1
      have HO := Lib.hid hown
      have HGR := Lib.hid ho
      have hsz := ho.size
      clear hown hy1 ho hy hm O1 S1 G1 U0
      go_wp2_with fail
      refine (l01Next_any G B xs _ _ (by omega) hs).mono ?_
      rintro e w1 ⟨r, rfl, q0, q1, s1, o1⟩
      have own1 := own_pastv HO.out HG o1
      have hsz1 := o1.size
      have HR : Hid (UpTo (ys ++ [1 + r]) (j + 1)) := HU.out.snoc (by omega) (by omega)
      have HR' := Lib.hid (ints_snocT ys (1 + r))
      have O1 := Lib.hid o1
      clear hs o1 HU
      go_wp2_with (at_builtin; refine wpList_append_lies _ rfl (.tmp 15) (.tmp 26) 24 rfl w.heap.size 2 i0 _ 1 8 Try.underlying24 hi hz0 hz1 hz2 rfl (by omega) (.slice (some ⟨g, 0, none⟩) (j + 1) cap) (j + 1) (ints ys) rfl (own1.alloc _) ⟨w1.heap.size, 0, none⟩ 1 1 [.int .i64 (1 + r)] rfl rfl (World.news_of_block (cs := #[.int .i64 (1 + r)]) (heap_alloc_new _ _)) (by simp [Value.oneCell']) (by omega) (by simp only [maxLen]; omega) (by omega) (by simp; omega) (w1.heap.size + 1) (by simp) ?_; intro g2 cap2 w2 hown2 hgrow2 hat2 hlt2)
      rw [HR'.out] at hown2
      have s2 := (s1.alloc (.cells #[.int .i64 (1 + r)] 2)).only (g := g) hgrow2 (by omega) (by obtain ⟨_, _, _, _, _, _, h3, _⟩ := s1; omega)
      have G2 := Lib.hid (only_row (only_alloc (only_trans HGR.out O1.out) _) hgrow2 hg)
      have S2 := Lib.hid s2
      have OW2 := Lib.hid hown2
      clear hown2 hgrow2 hat2 s1 s2 own1
      go_wp2
      go_roundw
      case rel => exact ⟨j + 1, _, _, ys ++ [1 + r], by omega, rfl, by go_num, by simp [HY1.out], HR, OW2.out, S2.out, G2.out⟩
      case measure => simp [intOf]; omega
    · obtain rfl : j = rn := by omega
      have HD : Hid (DrawnL (fun ys => 1 ≤ ys.length ∧ ys.length ≤ n) 140 G B xs w (.returned (.slice (some ⟨g, 0, none⟩) (j + 1) cap)) wr) := ⟨g, cap, j + 1, ys, rfl, hy1, ⟨by omega, by omega⟩, hown, hs, ho⟩
      have h0 : ¬ (0 : Int) < (j : Int) - j := by omega
      clear hown hs ho hy1 HU O1 S1 G1 U0
      go_wp2
      go_ret
      exact HD.out
theorem ints_setT (ys : List Int) (r : Int) (k : Nat) : (ints ys).set k (.int .i64 r) = ints (ys.set k r) := by simp [ints, intsK, List.map_set]
set_option maxHeartbeats 2000000 in
theorem l03DrawAny_any (G B : Nat) (xs : List Int) (n : Nat) (w : World) (h1 : 1 ≤ n) (hn : n ≤ 64) (s : Src w 140 G B xs) :
    Calls Try.prog 69 #[.pointer (some ⟨G, 0, none⟩), .int .i64 n] w (DrawnR (fun ys => ys.length ≤ n + 8) 140 G B xs w) := by
  obtain ⟨i0, hi, hz0, hz1, hz2⟩ := info_parts info_i64
  have HG := s.lt
  go_enter Try.func69, Try.ntmps69
  go_wp2_with fail
  refine (l03Draw_any G B xs n _ h1 hn s).mono ?_
  rintro e w1 ⟨g, c, l, ys, rfl, hl, ⟨p1, p2⟩, own1, s1, o1⟩
  rw [hl] at p1 p2
  have hg := (own1.lt g rfl).1
  have HGw := s1.lt
  have O1 := Lib.hid own1
  have G1 := Lib.hid o1
  have HL := Lib.hid hl
  clear s own1 o1 hl
  go_wp2_with fail
  refine (l01Next_any G B xs _ _ (by omega) s1).mono ?_
  rintro e w2 ⟨r, rfl, r0, r1, s2, o2⟩
  have O2 := Lib.hid (own_pastv O1.out HG o2)
  have G2 := Lib.hid (only_trans G1.out o2)
  clear O1 G1 s1 o2
  by_cases c0 : r = 0
  · have t0 := beq_t c0
    clear c0
    go_wp2_with fail
    refine (l01Next_any G B xs _ _ (by omega) s2).mono ?_
    rintro e w3 ⟨q, rfl, q0, q1, s3, o3⟩
    obtain ⟨qn, rfl⟩ : ∃ qn : Nat, q = (qn : Int) := ⟨q.toNat, by omega⟩
    have O3 := Lib.hid (own_pastv O2.out HG o3)
    have G3 := Lib.hid (only_trans G2.out o3)
    clear O2 G2 s2 o3
    go_wp2_with fail
    refine (l01Next_any G B xs _ _ (by omega) s3).mono ?_
    rintro e w4 ⟨p, rfl, q2, q3, s4, o4⟩
    have O4 := Lib.hid (own_pastv O3.out HG o4)
    have G4 := Lib.hid (only_trans G3.out o4)
    clear O3 G3 s3 o4
    have hf := O4.out.frozenAt qn
    have hc := O4.out.cellAt qn (by omega)
    obtain ⟨y, hy⟩ := at_lt (show qn < ys.length by rw [HL.out]; omega)
    rw [ints_at hy] at hc
    obtain ⟨O5, H5⟩ := O4.out.stored qn (.int .i64 (p - 1))
    rw [ints_setT] at O5
    have HD : Hid (DrawnR (fun ys => ys.length ≤ n + 8) 140 G B xs w (.returned (.slice (some ⟨g, 0, none⟩) l c)) (w4.setCell ⟨g, qn, none⟩ (.int .i64 (p - 1)))) := ⟨_, c, l, _, rfl, by rw [List.length_set]; exact HL.out, by show (ys.set _ _).length ≤ n + 8; rw [List.length_set, HL.out]; omega, O5, s4.only H5 (by omega) (by obtain ⟨_, _, _, _, _, _, h3, _⟩ := s4; omega), only_row G4.out H5 hg⟩
    clear O4 G4 O5 H5 hy s4
    go_wp2
    go_ret
    exact HD.out
  · have t0 := beq_f c0
    by_cases c1 : r = 1
    · have t1 := beq_t c1
      have HD : Hid (DrawnR (fun ys => ys.length ≤ n + 8) 140 G B xs w (.returned (.slice none 0 0)) w2) := ⟨none, 0, 0, [], rfl, rfl, by simp, World.ownsRow_nil .., s2, G2.out⟩
      clear c0 c1 s2 G2 O2
      go_wp2
      go_ret
      exact HD.out
    · have t1 := beq_f c1
      by_cases c2 : r = 2
      · have t2 := beq_t c2
        have S2 := Lib.hid s2
        clear c0 c1 c2 s2
        go_wp2_with fail
        go_loopw [5, 6] (fun v q wr => ∃ j g cap : Nat, ∃ ys : List Int, j ≤ 8 ∧ v = .slice (some ⟨g, 0, none⟩) (l + j) cap ∧ q = .int .i64 j ∧ ys.length = l + j ∧ wr.ownsRow w.heap.size 2 1 (.slice (some ⟨g, 0, none⟩) (l + j) cap) (l + j) (ints ys) ∧ Src wr 140 G B xs ∧ w.grownBy wr (some G)) (fun _ q _ => 8 - (intOf q).toNat)
        case atStart => exact ⟨0, _, _, ys, by omega, rfl, rfl, HL.out, O2.out, S2.out, G2.out⟩
        case round =>
          obtain ⟨j, g, cap, ys, hj, rfl, rfl, hy1, hown, hs, ho⟩ := hrel
          by_cases hlt : j < 8
          · have hg := (hown.lt g rfl).1
            have HY1 := Lib.hid hy1
            have HO := Lib.hid hown
            have HGR := Lib.hid ho
            have hsz := ho.size
            have HS := Lib.hid hs
            have HB := Lib.hid (show B ≤ g from by obtain ⟨_, _, _, _, _, _, h3, _⟩ := hs; omega)
            have HR' := Lib.hid (ints_snocT ys 1)
            clear hown hy1 ho hs O2 S2 G2 HL
            go_wp2_with (at_builtin; refine wpList_append_lies _ rfl (.tmp 31) (.tmp 32) 24 rfl w.heap.size 2 i0 _ 1 8 Try.underlying24 hi hz0 hz1 hz2 rfl (by omega) (.slice (some ⟨g, 0, none⟩) (l + j) cap) (l + j) (ints ys) rfl (HO.out.alloc _) ⟨wr.heap.size, 0, none⟩ 1 1 [.int .i64 1] rfl rfl (World.news_of_block (cs := #[.int .i64 1]) (heap_alloc_new _ _)) (by simp [Value.oneCell']) (by omega) (by simp only [maxLen]; omega) (by omega) (by simp; omega) (wr.heap.size + 1) (by simp) ?_; intro g2 cap2 w2 hown2 hgrow2 hat2 hlt2)
            rw [HR'.out] at hown2
            have s2 := (HS.out.alloc (.cells #[.int .i64 1] 2)).only (g := g) hgrow2 (by omega) HB.out
            have G2 := Lib.hid (only_row (only_alloc HGR.out _) hgrow2 hg)
            have S2 := Lib.hid s2
            have OW2 := Lib.hid hown2
            clear hown2 hgrow2 hat2 s2
            go_wp2
            go_roundw
            case rel => exact ⟨j + 1, _, _, ys ++ [1], by omega, rfl, by go_num, by simp [HY1.out]; omega, OW2.out, S2.out, G2.out⟩
            case measure => simp [intOf]; omega
          · obtain rfl : j = 8 := by omega
            have HD : Hid (DrawnR (fun ys => ys.length ≤ n + 8) 140 G B xs w (.returned (.slice (some ⟨g, 0, none⟩) (l + 8) cap)) wr) := ⟨_, cap, l + 8, ys, rfl, hy1, by show ys.length ≤ n + 8; omega, hown, hs, ho⟩
            clear hown hs ho hy1 O2 S2 G2 HL
            go_wp2
            go_ret
            exact HD.out
      · have t2 := beq_f c2
        have HD : Hid (DrawnR (fun ys => ys.length ≤ n + 8) 140 G B xs w (.returned (.slice (some ⟨g, 0, none⟩) l c)) w2) := ⟨_, c, l, ys, rfl, HL.out, by show ys.length ≤ n + 8; rw [HL.out]; omega, O2.out, s2, G2.out⟩
        clear c0 c1 c2 s2 G2 O2
        go_wp2
        go_ret
        exact HD.out
/-- a tree and a node -/
def DrawnN (w : World) (e : Ending) (w' : World) : Prop := ∃ A c n, ∃ ys : List Int, ∃ k : Int, e = .returned (.tuple #[.slice A n c, .int .i64 k]) ∧ ys.length = n ∧ n ≤ 16 ∧ n ≤ c ∧ Row w' w'.heap.size A (ints ys) ∧ (-1 ≤ k ∧ k ≤ 17) ∧ Below w.heap.size w w'
theorem drawCountRising_any (A : Option Addr) (n c : Nat) (xs : List Int) (w : World) (hn : n ≤ 4096) (hx : IsCode w A n xs) : Calls Try.prog 17 #[.slice A n c] w (DrawnN w) := by
  obtain ⟨hl, h, hx⟩ := hx
  go_enter Try.func17, Try.ntmps17
  go_wp2_with fail
  refine (l01From_any A n c w.heap.size xs w hl hn (Nat.le_refl _) h hx).mono ?_
  rintro e w1 ⟨G, rfl, hG, s1, b1⟩
  have HG1 := s1.lt
  clear h hx hl
  go_wp2_with fail
  refine (l03DrawAny_any G w.heap.size xs 7 _ (by omega) (by omega) s1).mono ?_
  rintro e w2 ⟨A2, c2, l, ys, rfl, hl, hl2, own2, s2, o2⟩
  have hl16 : l ≤ 16 := by have : ys.length ≤ 7 + 8 := hl2; omega
  have hcp := own_room own2
  have OW := Lib.hid own2
  have HL := Lib.hid hl
  have GR := Lib.hid (below_only b1 o2 b1.size hG)
  have HG2 := s2.lt
  clear own2 hl hl2 s1 o2 b1
  go_wp2_with fail
  refine (l01Pick_any G _ xs _ 10 _ _ [0, 1, 2, 2, 3, 3, 4, 5, -1, 11] _ (s2.alloc _) (Row.new w2 _ (ints [0, 1, 2, 2, 3, 3, 4, 5, -1, 11])) (fun b o e => by injection e with e; injection e with e1; omega) rfl (by omega) (by omega)).mono ?_
  rintro e w3 ⟨v, rfl, hv, s3, o3⟩
  have hvb : -1 ≤ v ∧ v ≤ 17 := by
    simp only [List.mem_cons, List.not_mem_nil, or_false] at hv
    omega
  have OW3 := Lib.hid (own_pastv (OW.out.alloc _) HG1 o3)
  have GR3 := Lib.hid (below_only (GR.out.alloc GR.out.size _) o3 (by have := GR.out.size; simp; omega) hG)
  clear OW GR s2 o3 hv
  go_wp2
  go_ret2
  exact ⟨A2, c2, l, ys, _, rfl, HL.out, hl16, hcp, row_of_own OW3.out, hvb, GR3.out⟩
/-- two lists -/
def DrawnP (w : World) (e : Ending) (w' : World) : Prop := ∃ A c n A2 c2 n2, ∃ ys zs : List Int, e = .returned (.tuple #[.slice A n c, .slice A2 n2 c2]) ∧ (ys.length = n ∧ zs.length = n2) ∧ (n ≤ 1024 ∧ n2 ≤ 1024) ∧ (n ≤ c ∧ n2 ≤ c2) ∧ Row w' w'.heap.size A (ints ys) ∧ Row w' w'.heap.size A2 (ints zs) ∧ Below w.heap.size w w'
theorem l04DrawPair_any (A : Option Addr) (n c : Nat) (xs : List Int) (w : World) (hn : n ≤ 4096) (hx : IsCode w A n xs) : Calls Try.prog 58 #[.slice A n c] w (DrawnP w) := by
  obtain ⟨hl, h, hx⟩ := hx
  go_enter Try.func58, Try.ntmps58
  go_wp2_with fail
  refine (l01From_any A n c w.heap.size xs w hl hn (Nat.le_refl _) h hx).mono ?_
  rintro e w1 ⟨G, rfl, hG, s1, b1⟩
  have HG1 := s1.lt
  clear h hx hl
  go_wp2_with fail
  refine (l03DrawAny_any G w.heap.size xs 5 _ (by omega) (by omega) s1).mono ?_
  rintro e w2 ⟨A2, c2, l, ys, rfl, hl, hl2, own2, s2, o2⟩
  have hl16 : l ≤ 1024 := by have : ys.length ≤ 5 + 8 := hl2; omega
  have hcp := own_room own2
  have OW := Lib.hid own2
  have HL := Lib.hid hl
  have GR := Lib.hid (below_only b1 o2 b1.size hG)
  have HG2 := s2.lt
  clear own2 hl hl2 s1 o2 b1
  go_wp2_with fail
  refine (l03DrawAny_any G w.heap.size xs 4 _ (by omega) (by omega) s2).mono ?_
  rintro e w3 ⟨A3, c3, l3, zs, rfl, hl3, hl4, own3, s3, o3⟩
  have hl17 : l3 ≤ 1024 := by have : zs.length ≤ 4 + 8 := hl4; omega
  have hcp3 := own_room own3
  have OW1 := Lib.hid (own_pastv OW.out HG1 o3)
  have OW3 := Lib.hid own3
  have HL3 := Lib.hid hl3
  have GR3 := Lib.hid (below_only GR.out o3 GR.out.size hG)
  clear own3 hl3 hl4 s2 o3 OW GR
  go_wp2
  go_ret2
  exact ⟨A2, c2, l, A3, c3, l3, ys, zs, rfl, ⟨HL.out, HL3.out⟩, ⟨hl16, hl17⟩, ⟨hcp, hcp3⟩, row_of_own OW1.out, row_of_own OW3.out, GR3.out⟩
theorem drawGraftSum_any (A : Option Addr) (n c : Nat) (xs : List Int) (w : World) (hn : n ≤ 4096) (hx : IsCode w A n xs) : Calls Try.prog 10 #[.slice A n c] w (DrawnP w) := by
  go_enter Try.func10, Try.ntmps10
  go_wp2_with fail
  refine (l04DrawPair_any A n c xs w hn hx).mono ?_
  rintro e w1 ⟨A1, c1, n1, A2, c2, n2, ys, zs, rfl, h1⟩
  have H := Lib.hid h1
  clear h1
  go_wp2
  go_ret2
  exact ⟨A1, c1, n1, A2, c2, n2, ys, zs, rfl, H.out⟩
end Go.Proofs.Ytjmjdcfgbaepkaa
/-
  Two level lists that are drawn, where the second one may be the first with its branches the other way round.
-/
namespace Go.Proofs.Ytjmjdcfgbaepkaa
open Go.RowKit Fld
set_option linter.unusedVariables false
set_option linter.unusedSimpArgs false
set_option maxRecDepth 100000

theorem own_pastb {w w1 : World} {base n k : Nat} {T : TypeId} {v : Value} {vs : List Value} (h : w.ownsRow base T k v n vs) (o : Below w.heap.size w w1) : w1.ownsRow base T k v n vs := by
  refine ⟨h.1, ?_⟩
  rcases h.2 with hn | ⟨g, cap, cur, rfl, hb, hgg, rest⟩
  · exact .inl hn
  · refine .inr ⟨g, cap, cur, rfl, hb, ?_, rest⟩
    have := (Array.getElem?_eq_some_iff.1 hgg).1
    rw [o.block g this]; exact hgg
theorem ints_snocC (ys : List Int) (r : Int) : ints ys ++ [.int .i64 r] = ints (ys ++ [r]) := by simp [ints, intsK]
set_option maxHeartbeats 4000000 in
theorem drawCompareTrees_any (A : Option Addr) (n c : Nat) (xs : List Int) (w : World) (hn : n ≤ 4096) (hx : IsCode w A n xs) : Calls Try.prog 21 #[.slice A n c] w (DrawnP w) := by
  obtain ⟨i0, hi, hz0, hz1, hz2⟩ := info_parts info_i64
  obtain ⟨hl, h, hx⟩ := hx
  go_enter Try.func21, Try.ntmps21
  go_wp2_with fail
  refine (l01From_any A n c w.heap.size xs w hl hn (Nat.le_refl _) h hx).mono ?_
  rintro e w1 ⟨G, rfl, hG, s1, b1⟩
  have HG1 := s1.lt
  clear h hx hl
  go_wp2_with fail
  refine (l03DrawAny_any G w.heap.size xs 7 _ (by omega) (by omega) s1).mono ?_
  rintro e w2 ⟨A2, c2, l, ys, rfl, hl, hl2, own2, s2, o2⟩
  have hl16 : l ≤ 15 := by have : ys.length ≤ 7 + 8 := hl2; omega
  have hcp := own_room own2
  have OW := Lib.hid own2
  have HL := Lib.hid hl
  have GR := Lib.hid (below_only b1 o2 b1.size hG)
  have HG2 := s2.lt
  clear own2 hl hl2 s1 o2 b1
  go_wp2_with fail
  refine (l03DrawAny_any G w.heap.size xs 7 _ (by omega) (by omega) s2).mono ?_
  rintro e w3 ⟨A3, c3, l3, zs, rfl, hl3, hl4, own3, s3, o3⟩
  have hl17 : l3 ≤ 15 := by have : zs.length ≤ 7 + 8 := hl4; omega
  have hcp3 := own_room own3
  have OW1 := Lib.hid (own_pastv OW.out HG1 o3)
  have OW3 := Lib.hid own3
  have HL3 := Lib.hid hl3
  have GR3 := Lib.hid (below_only GR.out o3 GR.out.size hG)
  have R1 := Lib.hid (row_of_own OW1.out)
  clear own3 hl3 hl4 s2 o3 OW GR
  go_wp2_with fail
  refine (l03Is_any A2 l c2 w3.heap.size ys w3 HL.out (by omega) R1.out).mono ?_
  rintro e w4 ⟨rfl, m, rfl⟩
  have S4 := Lib.hid (Src.drew s3 m)
  replace GR3 := Lib.hid (below_drewN GR3.out m)
  replace R1 : Hid (Row (w3.drewN m) (w3.drewN m).heap.size A2 (ints ys)) := R1.out
  replace OW1 : Hid ((w3.drewN m).ownsRow w1.heap.size 2 1 (.slice A2 l c2) l (ints ys)) := OW1.out
  replace OW3 : Hid ((w3.drewN m).ownsRow w2.heap.size 2 1 (.slice A3 l3 c3) l3 (ints zs)) := OW3.out
  have HG4 : G < (w3.drewN m).heap.size := S4.out.lt
  obtain ⟨w4, hw4⟩ : ∃ w4, w4 = w3.drewN m := ⟨_, rfl⟩
  rw [← hw4] at S4 GR3 R1 OW1 OW3 HG4 ⊢
  clear hw4 s3
  cases hlv : Tr.isLv ys
  · have R3 := Lib.hid (row_of_own OW3.out)
    clear S4 OW1 OW3 hlv
    go_wp2
    go_ret2
    exact ⟨A2, c2, l, A3, c3, l3, ys, zs, rfl, ⟨HL.out, HL3.out⟩, ⟨by omega, by omega⟩, ⟨hcp, hcp3⟩, R1.out, R3.out, GR3.out⟩
  · have HLV := Lib.hid hlv
    clear hlv
    go_wp2_with fail
    refine (l01Next_any G _ xs _ _ (by omega) S4.out).mono ?_
    rintro e w5 ⟨r, rfl, r0, r1, s5, o5⟩
    have R5 := Lib.hid (row_of_own (own_pastv OW1.out HG1 o5))
    have OW5 := Lib.hid (own_pastv OW3.out HG2 o5)
    have GR5 := Lib.hid (below_only GR3.out o5 GR3.out.size hG)
    clear s5 o5 OW1 OW3 GR3 S4 R1
    by_cases hr : r = 0
    · have t0 := beq_t hr
      clear hr
      have R3 := Lib.hid (row_of_own OW5.out)
      clear OW5 R3
      go_wp2_with fail
      refine (l03Parts_any A2 l c2 w5.heap.size ys w5 HL.out HLV.out (Nat.le_refl _) R5.out).mono ?_
      rintro e w6 ⟨A6, c6, vs6, rfl, own6, b6⟩
      obtain ⟨_, hp1, hp2⟩ := Tr.can_parts HLV.out
      obtain ⟨P, hP⟩ : ∃ P, P = Tr.partsL ys := ⟨_, rfl⟩
      rw [← hP] at hp1 hp2 own6 ⊢
      obtain ⟨pn, hpn⟩ : ∃ pn, pn = P.length := ⟨_, rfl⟩
      have HM := Lib.hid own6.mat
      have hp8 : ∀ r ∈ P, r.length ≤ 8 := fun r hr => by have := (Tr.isLv_iff.1 (hp1 r hr).1).2.1; exact this
      rw [← hpn] at hp2 own6 ⊢
      have HPN := Lib.hid hpn
      have HP8 := Lib.hid hp8
      have R6 : Hid (Row w6 w6.heap.size A2 (ints ys)) := (Row.below R5.out b6 (Nat.le_refl _)).more b6.size
      have GR6 := Lib.hid (below_step GR5.out GR5.out.size b6)
      have O0 : Hid ((w6.alloc (.cells #[.int .i64 0] 2)).ownsRow w6.heap.size 2 1 (.slice (some ⟨w6.heap.size, 0, none⟩) 1 1) 1 (ints [0])) := World.ownsRow_lit w6 #[.int .i64 0] 1 (Nat.le_refl _) (by decide) rfl
      have M0 : Hid (Mat (w6.alloc (.cells #[.int .i64 0] 2)) w6.heap.size A6 P) := HM.out.below ((Below.refl w6.heap.size w6).alloc (Nat.le_refl _) _) (Nat.le_refl _)
      have R0 : Hid (Row (w6.alloc (.cells #[.int .i64 0] 2)) w6.heap.size A2 (ints ys)) := Row.alloc R6.out (Nat.le_refl _) _
      have G0 : Hid (Below w.heap.size w (w6.alloc (.cells #[.int .i64 0] 2))) := GR6.out.alloc GR6.out.size _
      have hww := GR6.out.size
      clear own6 b6 hP hpn hp1 hp8 GR5 R5 HM R6 GR6 HLV
      go_wp2_with fail
      go_loopw [6, 8] (fun v q wr => ∃ j g k cap : Nat, ∃ us : List Int, j ≤ pn ∧ v = .slice (some ⟨g, 0, none⟩) (k + 1) cap ∧ q = .int .i64 ((j : Int) - 1) ∧ us.length = k + 1 ∧ k ≤ 8 * (pn - j) ∧ Hid (wr.ownsRow w6.heap.size 2 1 (.slice (some ⟨g, 0, none⟩) (k + 1) cap) (k + 1) (ints us)) ∧ Hid (Mat wr w6.heap.size A6 P) ∧ Hid (Row wr w6.heap.size A2 (ints ys)) ∧ Hid (Below w.heap.size w wr) ∧ w6.heap.size ≤ wr.heap.size) (fun _ q _ => (intOf q + 1).toNat)
      case atStart => exact ⟨pn, _, 0, _, [0], Nat.le_refl _, rfl, by simp, rfl, by omega, O0, M0, R0, G0, by simp⟩
      case round =>
        clear O0 M0 R0 G0
        obtain ⟨j, g, k, cap, us, hj, rfl, rfl, hul, hk8, HO, HM, HR, HB, hsz⟩ := hrel
        rcases Nat.eq_zero_or_pos j with hj0 | hj0
        · subst hj0
          have h0 : decide ((0 : Int) ≤ ((0 : Nat) : Int) - 1) = false := by decide
          have hcp6 := own_room HO.out
          have R9 := Lib.hid (row_of_own HO.out)
          have HU := Lib.hid hul
          have RY := Lib.hid (Row.more HR.out hsz)
          clear HO HM hul HR
          go_wp2
          go_ret2
          exact ⟨A2, c2, l, _, cap, k + 1, ys, us, rfl, ⟨HL.out, HU.out⟩, ⟨by omega, by omega⟩, ⟨hcp, hcp6⟩, RY.out, R9.out, HB.out⟩
        · obtain ⟨p, rfl⟩ : ∃ p, j = p + 1 := ⟨j - 1, by omega⟩
          have ep : (((p + 1 : Nat) : Int) - 1) = (p : Int) := by omega
          obtain ⟨row, hrow⟩ := at_lt (show p < P.length by rw [← HPN.out]; omega)
          have hr8 := HP8.out row (List.mem_of_getElem? hrow)
          obtain ⟨rn, hrn⟩ : ∃ rn, rn = row.length := ⟨_, rfl⟩
          rw [← hrn] at hr8
          have HRN := Lib.hid hrn
          have HROW := Lib.hid hrow
          have HU := Lib.hid hul
          have h0 : decide ((0 : Int) ≤ (p : Int)) = true := decide_eq_true (by omega)
          rw [ep]
          clear ep hrow hrn hul
          go_wp2_with fail
          go_loopw [6, 9] (fun v q wr => ∃ i g k' cap : Nat, ∃ us : List Int, i ≤ rn ∧ v = .slice (some ⟨g, 0, none⟩) (k' + 1) cap ∧ q = .int .i64 i ∧ us.length = k' + 1 ∧ k' ≤ 8 * (pn - (p + 1)) + i ∧ Hid (wr.ownsRow w6.heap.size 2 1 (.slice (some ⟨g, 0, none⟩) (k' + 1) cap) (k' + 1) (ints us)) ∧ Hid (Mat wr w6.heap.size A6 P) ∧ Hid (Row wr w6.heap.size A2 (ints ys)) ∧ Hid (Below w.heap.size w wr) ∧ w6.heap.size ≤ wr.heap.size) (fun _ q _ => rn - (intOf q).toNat)
          case atStart => exact ⟨0, g, k, cap, us, Nat.zero_le _, rfl, rfl, HU.out, by omega, HO, HM, HR, HB, hsz⟩
          case round =>
            clear HO HM HR HB hsz HU
            obtain ⟨i, g, k', cap, us, hi9, rfl, rfl, hul, hk9, HO, HM, HR, HB, hsz⟩ := hrel
            obtain ⟨bm, om, Am, cm, rfl, hbm, hcm, hlm, hmm, hrowm⟩ := HM.out p row HROW.out
            rw [← HRN.out] at hcm hlm
            by_cases hlt : i < rn
            · obtain ⟨x, hx⟩ := at_lt (show i < row.length by rw [← HRN.out]; exact hlt)
              obtain ⟨bx, ox, rfl, hbx, hcx⟩ := hrowm i _ (ints_at hx)
              have HU := Lib.hid hul
              have hgb := HO.out.lt g rfl
              clear hul hx hrowm
              obtain ⟨y, hy⟩ : ∃ y, y = IntKind.i64.wrap (x + 1) := ⟨_, rfl⟩
              have HR' := Lib.hid (ints_snocC us y)
              have HW := hy.symm
              clear hy
              go_wp2_with (at_builtin; refine wpList_append_lies _ rfl (.tmp 42) (.tmp 51) 24 rfl w6.heap.size 2 i0 _ 1 8 Try.underlying24 hi hz0 hz1 hz2 rfl (by omega) (.slice (some ⟨g, 0, none⟩) (k' + 1) cap) (k' + 1) (ints us) rfl (HO.out.alloc _) ⟨wr.heap.size, 0, none⟩ 1 1 [.int .i64 y] rfl rfl (World.news_of_block (cs := #[.int .i64 y]) (heap_alloc_new _ _)) (by simp [Value.oneCell']) (by omega) (by simp only [maxLen]; omega) (by omega) (by simp; omega) (wr.heap.size + 1) (by simp) ?_; intro g2 cap2 w2 hown2 hgrow2 hat2 hlt2)
              rw [HR'.out] at hown2
              have HM2 : Hid (Mat w2 w6.heap.size (some ⟨bm, om, none⟩) P) := Mat.keep (HM.out.below ((Below.refl wr.heap.size wr).alloc (Nat.le_refl _) _) hsz) (fun b o hb => World.grownBy.cell_far hgrow2 ⟨b, o, none⟩ (by show b < (wr.alloc _).heap.size; simp; omega) (fun e => by have e2 := Option.some.inj e; have e3 : b = g := e2; have e4 := hgb.1; omega))
              have HR2 : Hid (Row w2 w6.heap.size A2 (ints ys)) := Row.only (Row.alloc HR.out hsz _) hgrow2 hgb.1
              have HB2 : Hid (Below w.heap.size w w2) := (HB.out.alloc HB.out.size _).grown hgrow2 (by have := HB.out.size; simp; omega) (fun k hk => by cases hk; show w.heap.size ≤ g; omega)
              have hsz2 : w6.heap.size ≤ w2.heap.size := Nat.le_trans (by simp; omega) hgrow2.size
              have OW2 := Lib.hid hown2
              clear hown2 hgrow2 hat2 HO HM HR HB hsz
              go_wp2
              go_roundw
              case rel => exact ⟨i + 1, _, _, _, us ++ [y], by omega, rfl, by go_num, by simp [HU.out], by omega, OW2, HM2, HR2, HB2, hsz2⟩
              case measure => simp [intOf]; omega
            · obtain rfl : i = rn := by omega
              have HU := Lib.hid hul
              clear hul hrowm
              go_wp2
              go_roundw
              case rel => exact ⟨p, g, k', cap, us, by omega, rfl, by go_num, HU.out, by omega, HO, HM, HR, HB, hsz⟩
              case measure => simp [intOf]
    · have t0 := beq_f hr
      have R3 := Lib.hid (row_of_own OW5.out)
      clear OW5 hr
      go_wp2
      go_ret2
      exact ⟨A2, c2, l, A3, c3, l3, ys, zs, rfl, ⟨HL.out, HL3.out⟩, ⟨by omega, by omega⟩, ⟨hcp, hcp3⟩, R5.out, R3.out, GR5.out⟩
end Go.Proofs.Ytjmjdcfgbaepkaa
