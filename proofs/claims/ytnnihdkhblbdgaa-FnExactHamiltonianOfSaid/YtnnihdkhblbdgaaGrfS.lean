/-
  Rerooting, gone through.
-/
import Derived.Test.YtnnihdkhblbdgaaGrfP
namespace Go.Proofs.Ytnnihdkhblbdgaa.Tr
set_option maxRecDepth 100000

/-! ## rerooting -/
def chkR' (t : List Int) : Bool := !decide (can t = t) || (List.range t.length).all fun k => decide (txt (turnF 9 t k) = rerF 8 (txt t) k []) && isLv (turnF 9 t k) && decide (can (turnF 9 t k) = turnF 9 t k) && decide ((turnF 9 t k).length = t.length)
theorem chkR'_0 : ((allLv.drop 0).take 197).all chkR' = true := by decide +kernel
theorem chkR'_1 : ((allLv.drop 197).take 73).all chkR' = true := by decide +kernel
theorem chkR'_2 : ((allLv.drop 270).take 70).all chkR' = true := by decide +kernel
theorem chkR'_3 : ((allLv.drop 340).take 70).all chkR' = true := by decide +kernel
theorem chkR'_4 : ((allLv.drop 410).take 70).all chkR' = true := by decide +kernel
theorem chkR'_5 : ((allLv.drop 480).take 70).all chkR' = true := by decide +kernel
theorem chkR'_6 : ((allLv.drop 550).take 150).all chkR' = true := by decide +kernel
theorem all_drop {p : List Int → Bool} {l : List (List Int)} {a k : Nat} (h1 : ((l.drop a).take k).all p = true) (h2 : (l.drop (a + k)).all p = true) : (l.drop a).all p = true := by
  rw [← List.take_append_drop k (l.drop a), List.all_append, h1, List.drop_drop, h2]; rfl
theorem drop_none : (allLv.drop 700).all chkR' = true := by
  rw [List.drop_of_length_le (by decide +kernel)]; rfl
theorem chkR'_all : allLv.all chkR' = true :=
  all_drop (a := 0) (k := 197) chkR'_0 (all_drop (a := 197) (k := 73) chkR'_1 (all_drop (a := 270) (k := 70) chkR'_2 (all_drop (a := 340) (k := 70) chkR'_3 (all_drop (a := 410) (k := 70) chkR'_4 (all_drop (a := 480) (k := 70) chkR'_5 (all_drop (a := 550) (k := 150) chkR'_6 drop_none))))))
theorem turn_at {t : List Int} (ht : isLv t = true) (hc : can t = t) {k : Nat} (hk : k < t.length) : txt (turnF 9 t k) = rerF 8 (txt t) k [] ∧ isLv (turnF 9 t k) = true ∧ can (turnF 9 t k) = turnF 9 t k ∧ (turnF 9 t k).length = t.length := by
  have h2 := all_of chkR'_all (isLv_iff.1 ht)
  unfold chkR' at h2
  rw [decide_eq_true hc] at h2
  simp only [Bool.not_true, Bool.false_or, List.all_eq_true] at h2
  have h3 := h2 k (by rw [List.mem_range]; exact hk)
  simp only [Bool.and_eq_true, decide_eq_true_eq] at h3
  exact ⟨h3.1.1.1, h3.1.1.2, h3.1.2, h3.2⟩
end Go.Proofs.Ytnnihdkhblbdgaa.Tr
