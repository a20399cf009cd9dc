/-
  The program's canonical lists and its test on them.
-/
import Derived.Test.YtnnihdkhblbdgaaLvl
import Derived.Test.YtnnihdkhblbdgaaSame
import Derived.Test.YtnnihdkhblbdgaaRes1
namespace Go.Proofs.Ytnnihdkhblbdgaa
open Go.RowKit Fld
set_option linter.unusedVariables false
set_option linter.unusedSimpArgs false
set_option maxRecDepth 100000

theorem wrap_brk {ss : List (List UInt8)} (h : ∀ x ∈ ss, Brk x) : Brk (Tr.wrap ss) := by
  intro c hc
  unfold Tr.wrap at hc
  rw [List.mem_cons, List.mem_append, List.mem_flatten, List.mem_singleton] at hc
  rcases hc with rfl | ⟨x, hx, hcx⟩ | rfl
  · exact .inl rfl
  · exact h x hx c hcx
  · exact .inr rfl
theorem txt_brk : ∀ (d : Nat) (t : List Int), Brk (Tr.txtF d t)
  | 0, t => fun c hc => by simp [Tr.txtF] at hc
  | d+1, t => by
    rw [Tr.txtF]
    refine wrap_brk fun x hx => ?_
    rw [(Tr.sortS_perm _).mem_iff, List.mem_map] at hx
    obtain ⟨p, _, rfl⟩ := hx
    exact txt_brk d p
theorem lv_txt {t : List Int} (h : Tr.isLv t = true) : Tr.lvl (Tr.txt t) = Tr.can t ∧ Tr.isLv (Tr.can t) = true ∧ (Tr.can t).length = t.length ∧ (Tr.txt t).length = 2 * t.length := by
  have h1 := Tr.all_of Tr.chk1_all (Tr.isLv_iff.1 h)
  unfold Tr.chk1 at h1
  simp only [Bool.and_eq_true, beq_iff_eq] at h1
  exact ⟨h1.1.1.1, h1.1.1.2, h1.1.2, h1.2⟩
theorem lv_bd {t : List Int} (h : Tr.isLv t = true) : 1 ≤ t.length ∧ t.length ≤ 8 := by
  have := Tr.isLv_iff.1 h
  exact ⟨this.1, this.2.1⟩
def isTr (t : List Int) : Bool := Tr.isLv t && eqL (Tr.can t) t
/-- levels of the text of a level list -/
theorem levelsOf_any (t : List Int) (w : World) (h : Tr.isLv t = true) : Calls Try.prog 125 #[.string ⟨(Tr.txt t).toArray⟩] w (NewRow 2 t.length (ints (Tr.can t)) w) := by
  obtain ⟨e1, _, e2, e3⟩ := lv_txt h
  have h1 := levels_any (Tr.txt t) w (by have := (lv_bd h).2; omega) (txt_brk _ _)
  rw [e1, e2] at h1
  exact h1
/-- what CanonicalTree is to answer -/
def canA (t : List Int) : List Int × Int := if Tr.isLv t = true then (Tr.can t, 0) else ([], 1)
theorem canA_yes {t : List Int} (h : Tr.isLv t = true) : canA t = (Tr.can t, 0) := if_pos h
theorem canA_no {t : List Int} (h : Tr.isLv t = false) : canA t = ([], 1) := if_neg (by rw [h]; simp)
end Go.Proofs.Ytnnihdkhblbdgaa
