/-
  What CompareTrees answers, the program's and the model's.
-/
import Derived.Test.YtnnihdkhblbdgaaCmp
import Derived.Test.YtnnihdkhblbdgaaTreeX
namespace Go.Proofs.Ytnnihdkhblbdgaa
open Go.RowKit Fld
set_option linter.unusedVariables false
set_option linter.unusedSimpArgs false
set_option maxRecDepth 100000

theorem l03Before_any (A A' : Option Addr) (n n' c c' B B' : Nat) (xs ys : List Int) (w : World) (hl : xs.length = n) (hl' : ys.length = n') (hn : n ≤ 1048576) (hn' : n' ≤ 1048576) (h : Row w B A (ints xs)) (h' : Row w B' A' (ints ys)) :
    Calls Try.prog 129 #[.slice A n c, .slice A' n' c'] w fun e w' => e = .returned (.bool (Tr.beforeL xs ys)) ∧ ∃ m, w' = w.drewN m := by
  by_cases e : n = n'
  · have H : Hid (Tr.beforeL xs ys = Tr.lessL ys xs) := by unfold Tr.beforeL; rw [Hid, if_neg (by rw [hl, hl']; simpa using e)]
    have C1 := l01Less_any A' A n' n c' c B' B ys xs w hl' hl (by omega) (by omega) h' h
    have t : ((n : Int) != (n' : Int)) = false := bne_f (by omega)
    obtain ⟨b, hb⟩ : ∃ b, b = Tr.lessL ys xs := ⟨_, rfl⟩
    rw [← hb] at C1 H
    clear hl hl' e hb
    go_enter Try.func129, Try.ntmps129
    go_wp2_with fail
    refine C1.mono ?_
    rintro e w' ⟨rfl, m, rfl⟩
    go_wp2
    go_ret
    exact ⟨ret_bool H.out.symm, m, rfl⟩
  · have H : Hid (Tr.beforeL xs ys = decide (n < n')) := by unfold Tr.beforeL; rw [Hid, if_pos (by rw [hl, hl']; exact e), hl, hl']
    have t : ((n : Int) != (n' : Int)) = true := bne_t (by omega)
    clear hl hl'
    go_enter Try.func129, Try.ntmps129
    go_wp2
    go_ret
    exact ⟨by rw [H.out]; rfl, 0, rfl⟩
def cmpA (s t : List Int) : Int × Int := if Tr.isLv s = true ∧ Tr.isLv t = true then (Tr.cmpL (Tr.can s) (Tr.can t), 0) else (0, 1)
theorem cmpA_yes {s t : List Int} (h : Tr.isLv s = true) (h' : Tr.isLv t = true) : cmpA s t = (Tr.cmpL (Tr.can s) (Tr.can t), 0) := if_pos ⟨h, h'⟩
theorem cmpA_no1 {s t : List Int} (h : Tr.isLv s = false) : cmpA s t = (0, 1) := if_neg (by rw [h]; simp)
theorem cmpA_no2 {s t : List Int} (h : Tr.isLv t = false) : cmpA s t = (0, 1) := if_neg (by rw [h]; simp)
end Go.Proofs.Ytnnihdkhblbdgaa
