/-
  What holds at all level lists of the model's canonical lists, gone through.
-/
import Derived.Test.YtnnihdkhblbdgaaTree
namespace Go.Proofs.Ytnnihdkhblbdgaa.Tr
set_option maxRecDepth 100000

def chk6 (t : List Int) : Bool := decide (can t = up (((partsL t).map can).foldl (fun s p => insD p s) [])) && (partsL t).all (fun p => isLv p && decide (p.length < t.length)) && decide ((partsL t).length ≤ 7)
theorem chk6_all : allLv.all chk6 = true := by decide +kernel
theorem can_parts {t : List Int} (h : isLv t = true) : can t = up (((partsL t).map can).foldl (fun s p => insD p s) []) ∧ (∀ p ∈ partsL t, isLv p = true ∧ p.length < t.length) ∧ (partsL t).length ≤ 7 := by
  have h1 := all_of chk6_all (isLv_iff.1 h)
  unfold chk6 at h1
  simp only [Bool.and_eq_true, decide_eq_true_eq, List.all_eq_true] at h1
  exact ⟨h1.1.1, h1.1.2, h1.2⟩
/-- put in at a place -/
theorem insD_at {part : List Int} : ∀ {S : List (List Int)} {k : Nat}, (∀ j s, j < k → S[j]? = some s → lessL s part = false) → (∀ s, S[k]? = some s → lessL s part = true) → k ≤ S.length → insD part S = S.take k ++ part :: S.drop k
  | [], k, _, _, h => by
    have : k = 0 := by simpa using h
    subst this; rfl
  | s :: r, 0, _, h2, _ => by
    have := h2 s rfl
    rw [insD, if_pos this]; rfl
  | s :: r, k+1, h1, h2, h3 => by
    have h0 := h1 0 s (by omega) rfl
    rw [insD, if_neg (by rw [h0]; simp), insD_at (S := r) (k := k) (fun j x hj hx => h1 (j + 1) x (by omega) hx) (fun x hx => h2 x hx) (by simpa using h3)]
    rfl
theorem insD_length (part : List Int) : ∀ S : List (List Int), (insD part S).length = S.length + 1
  | [] => rfl
  | s :: r => by
    rw [insD]; split
    · rfl
    · rw [List.length_cons, insD_length part r]; rfl
theorem insD_sum (part : List Int) : ∀ S : List (List Int), (insD part S).flatten.length = S.flatten.length + part.length
  | [] => by simp [insD]
  | s :: r => by
    rw [insD]; split
    · rw [List.flatten_cons, List.length_append]; omega
    · rw [List.flatten_cons, List.flatten_cons, List.length_append, List.length_append, insD_sum part r]; omega
end Go.Proofs.Ytnnihdkhblbdgaa.Tr
