/-
  The indices of all trees, gone through.
-/
import Derived.Test.YtnnihdkhblbdgaaTreeN
namespace Go.Proofs.Ytnnihdkhblbdgaa.Tr
set_option maxRecDepth 100000

def idxL (u : List Int) : List (List Int) → Int → Int
  | [], _ => -1
  | x :: r, k => if x = u then k else idxL u r (k + 1)
theorem idx_append {u : List Int} : ∀ {a : List (List Int)} (b : List (List Int)) (k : Int), u ∈ a → idxL u (a ++ b) k = idxL u a k
  | [], b, k, h => by cases h
  | x :: r, b, k, h => by
    rw [List.cons_append, idxL, idxL]
    by_cases e : x = u
    · rw [if_pos e, if_pos e]
    · rw [if_neg e, if_neg e]
      rcases List.mem_cons.1 h with h | h
      · exact absurd h.symm e
      · exact idx_append b (k + 1) h
def chk9 (t : List Int) : Bool := decide (can (can t) = can t) && decide (txt (can t) = txt t)
theorem chk9_all : allLv.all chk9 = true := by decide +kernel
theorem can_can {t : List Int} (h : isLv t = true) : can (can t) = can t ∧ txt (can t) = txt t := by
  have h1 := all_of chk9_all (isLv_iff.1 h)
  unfold chk9 at h1
  simp only [Bool.and_eq_true, decide_eq_true_eq] at h1
  exact h1
/-- nothing that was listed is lost -/
theorem grow_keep : ∀ (f : Nat) (t : List Int) (m : List (List Int)) (x : List Int), x ∈ m → x ∈ growF f t m
  | 0, t, m, x, h => by rw [growF]; split; · simp [h]
                        · exact h
  | f+1, t, m, x, h => by
    rw [growF]
    have : ∀ (l : List Nat) (m : List (List Int)), x ∈ m → x ∈ l.foldl (fun (o : List (List Int)) (k : Nat) => growF f (t ++ [t.getD (t.length - 1) 0 + 1 - (k : Int)]) o) m := by
      intro l
      induction l with
      | nil => intro m h; exact h
      | cons a r ih => intro m h; exact ih _ (grow_keep f _ _ _ h)
    exact this _ _ h
/-- every canonical list that goes on from t is listed -/
theorem grow_all : ∀ (f : Nat) (t : List Int) (m : List (List Int)) (u : List Int), 1 ≤ t.length → Lv u → u.length = t.length + f → u.take t.length = t → can u = u → u ∈ growF f t m
  | 0, t, m, u, h1, hu, hl, ht, hc => by
    have e : u = t := by rw [← ht]; exact (List.take_of_length_le (by omega)).symm
    subst e
    rw [growF, if_pos hc]; simp
  | f+1, t, m, u, h1, hu, hl, ht, hc => by
    rw [growF]
    obtain ⟨x, hx⟩ : ∃ x, u[t.length]? = some x := ⟨_, List.getElem?_eq_getElem (by omega)⟩
    have hg : u.getD t.length 0 = x := by rw [List.getD_eq_getElem?_getD, hx]; rfl
    have hlast : u.getD (t.length - 1) 0 = t.getD (t.length - 1) 0 := by
      have e : t[t.length - 1]? = u[t.length - 1]? := by
        have : (u.take t.length)[t.length - 1]? = u[t.length - 1]? := by rw [List.getElem?_take, if_pos (by omega)]
        rw [ht] at this; exact this
      rw [List.getD_eq_getElem?_getD, List.getD_eq_getElem?_getD, e]
    have hb := hu.2.2.2 t.length (by omega) h1
    rw [hg, hlast] at hb
    have ht2 : u.take (t ++ [x]).length = t ++ [x] := by
      rw [List.length_append, List.length_singleton, List.take_add_one, ht, hx]; rfl
    have hrec : ∀ m', u ∈ growF f (t ++ [x]) m' := fun m' => grow_all f (t ++ [x]) m' u (by simp) hu (by rw [List.length_append, List.length_singleton]; omega) ht2 hc
    obtain ⟨k, hk⟩ : ∃ k : Nat, (k : Int) = t.getD (t.length - 1) 0 + 1 - x := ⟨(t.getD (t.length - 1) 0 + 1 - x).toNat, by omega⟩
    have key : ∀ (l : List Nat) (m : List (List Int)), k ∈ l → u ∈ l.foldl (fun (o : List (List Int)) (k : Nat) => growF f (t ++ [t.getD (t.length - 1) 0 + 1 - (k : Int)]) o) m := by
      intro l
      induction l with
      | nil => intro m h; cases h
      | cons a r ih =>
        intro m h
        rw [List.foldl_cons]
        rcases List.mem_cons.1 h with h | h
        · subst h
          have e : t.getD (t.length - 1) 0 + 1 - (k : Int) = x := by omega
          rw [e]
          have : ∀ (l : List Nat) (m : List (List Int)), u ∈ m → u ∈ l.foldl (fun (o : List (List Int)) (k : Nat) => growF f (t ++ [t.getD (t.length - 1) 0 + 1 - (k : Int)]) o) m := by
            intro l
            induction l with
            | nil => intro m h; exact h
            | cons a r ih => intro m h; exact ih _ (grow_keep f _ _ _ h)
          exact this _ _ (hrec m)
        · exact ih _ h
    refine key _ _ ?_
    rw [List.mem_range]
    omega
theorem idx_next {u : List Int} {m : List (List Int)} {k : Nat} {x : List Int} (h : idxL u m 0 = idxL u (m.drop k) k) (hx : m[k]? = some x) : (x = u → idxL u m 0 = k) ∧ (x ≠ u → idxL u m 0 = idxL u (m.drop (k + 1)) ((k + 1 : Nat) : Int)) := by
  have hlt : k < m.length := by
    rcases Nat.lt_or_ge k m.length with y | y
    · exact y
    · rw [List.getElem?_eq_none y] at hx; cases hx
  rw [List.getElem?_eq_getElem hlt] at hx
  injection hx with hx
  rw [List.drop_eq_getElem_cons hlt, hx, idxL] at h
  refine ⟨fun e => by rw [h, if_pos e], fun e => by rw [h, if_neg e]; rfl⟩
theorem idx_end {u : List Int} {m : List (List Int)} {k : Nat} (h : idxL u m 0 = idxL u (m.drop k) k) (hk : m.length ≤ k) : idxL u m 0 = -1 := by
  rw [h, List.drop_of_length_le hk]; rfl
end Go.Proofs.Ytnnihdkhblbdgaa.Tr
