/-
  The order of trees by lists and by texts.
-/
import Derived.Test.YtolkbbbbahhfaaaGreatCmpX
import Derived.Test.YtolkbbbbahhfaaaGreatTreeX
namespace Go.Proofs.YtolkbbbbahhfaaaGreat
open Go.RowKit Fld
set_option linter.unusedVariables false
set_option linter.unusedSimpArgs false
set_option maxRecDepth 100000

theorem lessL_asym : ∀ x y : List Int, Tr.lessL x y = true → Tr.lessL y x = false
  | [], [], _ => rfl
  | [], _ :: _, _ => rfl
  | _ :: _, [], h => by simp [Tr.lessL] at h
  | a :: x, b :: y, h => by
    rw [Tr.lessL] at h ⊢
    by_cases e : a = b
    · subst e
      rw [if_pos rfl] at h ⊢
      exact lessL_asym x y h
    · rw [if_neg e] at h
      rw [if_neg (fun e' => e e'.symm)]
      simp at h ⊢; omega
theorem beforeL_asym {x y : List Int} (h : Tr.beforeL x y = true) : Tr.beforeL y x = false := by
  unfold Tr.beforeL at h ⊢
  by_cases e : x.length = y.length
  · rw [if_neg (by simpa using e)] at h
    rw [if_neg (by simpa using e.symm)]
    exact lessL_asym _ _ h
  · rw [if_pos e] at h
    rw [if_pos (fun e' => e e'.symm)]
    simp at h ⊢; omega
theorem tr_lv {t : List Int} (h : isTr t = true) : Tr.isLv t = true ∧ Tr.can t = t := by
  unfold isTr at h
  rw [Bool.and_eq_true] at h
  have h2 := h.2
  unfold eqL at h2
  exact ⟨h.1, by simpa using h2⟩
theorem cmp_tr {s t : List Int} (hs : isTr s = true) (ht : isTr t = true) : decide (0 < Tr.cmpT (Tr.txt s) (Tr.txt t)) = Tr.beforeL t s := by
  obtain ⟨s1, s2⟩ := tr_lv hs
  obtain ⟨t1, t2⟩ := tr_lv ht
  rw [Tr.cmp_eq s1 t1, s2, t2]
  unfold Tr.cmpL
  cases h1 : Tr.beforeL s t
  · cases h2 : Tr.beforeL t s <;> simp
  · rw [beforeL_asym h1]; simp
theorem cmpT_swap {a b : List UInt8} (h : ¬ Tr.cmpT a b < 0) : Tr.cmpT b a ≤ 0 := by
  unfold Tr.cmpT at *
  by_cases h1 : a.length / 2 < b.length / 2
  · rw [if_pos h1] at h; omega
  · rw [if_neg h1] at h
    by_cases h2 : b.length / 2 < a.length / 2
    · rw [if_pos h2]; omega
    · rw [if_neg h2] at h
      rw [if_neg h2, if_neg h1]
      by_cases h3 : Tr.ltS a b = true
      · rw [if_pos h3] at h; omega
      · rw [if_neg h3] at h
        by_cases h4 : Tr.ltS b a = true
        · rw [if_pos h4]; omega
        · rw [if_neg h4, if_neg h3]; omega
theorem leT_self (a : List UInt8) : Tr.leT a a = true := by
  unfold Tr.leT
  have : Tr.cmpT a a ≤ 0 := by
    by_cases h : Tr.cmpT a a < 0
    · omega
    · exact cmpT_swap h
  exact decide_eq_true this
theorem leT_txt {s t : List Int} (hs : isTr s = true) (ht : isTr t = true) : Tr.leT (Tr.txt s) (Tr.txt t) = !Tr.beforeL t s := by
  rw [← cmp_tr hs ht]
  unfold Tr.leT
  by_cases h : Tr.cmpT (Tr.txt s) (Tr.txt t) ≤ 0
  · rw [decide_eq_true h, decide_eq_false (by omega)]; rfl
  · rw [decide_eq_false h, decide_eq_true (by omega)]; rfl
theorem isTr_of {t : List Int} (h : Tr.isLv t = true) (hc : Tr.can t = t) : isTr t = true := by
  unfold isTr
  rw [h, hc, eqL_self]; rfl
end Go.Proofs.YtolkbbbbahhfaaaGreat
