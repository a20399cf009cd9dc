/-
  Marks that the laws write into lists of the call's own, and their reading.
-/
import Derived.Test.YtnnihdkhblbdgaaGreatNestc
import Derived.Test.YtnnihdkhblbdgaaGreatMark1
namespace Go.Proofs.YtnnihdkhblbdgaaGreat
open Go.RowKit Fld
set_option linter.unusedVariables false
set_option linter.unusedSimpArgs false
set_option maxRecDepth 100000

def MarkedM (lo hi n : Nat) (v : Value) (k : Int) (m : List (List Int)) (vs : List Value) (w : World) (e : Ending) (w' : World) : Prop :=
  e = .returned (.int .i64 (k + (total m : Nat))) ∧ OwnMat w' lo hi v n (marksM k m) vs ∧ Within lo hi w w'
def MarkingM (lo hi n : Nat) (v : Value) (k : Int) (m : List (List Int)) (vs : List Value) (r : Nat) (w wr : World) : Prop :=
  OwnMat wr lo hi v n ((marksM k m).take r ++ m.drop r) vs ∧ Within lo hi w wr
theorem MarkingM.step {lo hi n r c : Nat} {v : Value} {A : Option Addr} {k : Int} {m : List (List Int)} {vs : List Value} {row : List Int} {w wr w2 : World} {e : Ending} (h : MarkingM lo hi n v k m vs r w wr) (hr : m[r]? = some row) (hv : vs[r]? = some (.slice A row.length c))
    (hm : Marked lo row.length c A (k + (total (m.take r) : Nat)) wr e w2) : MarkingM lo hi n v k m vs (r + 1) w w2 := by
  obtain ⟨h1, h2⟩ := h
  obtain ⟨_, h3, h4⟩ := hm
  have hrl : r < m.length := by
    rcases Nat.lt_or_ge r m.length with g | g
    · exact g
    · rw [List.getElem?_eq_none g] at hr; cases hr
  have h5 := h1.set_row hv (marks_length _ _) h3 h4
  rw [markM_step hrl (marksM_length _ _) (marksM_at m k r row hr)] at h5
  refine ⟨h5, h2.trans (Within.grown h4 fun g hg => ?_)⟩
  have hat : ((marksM k m).take r ++ m.drop r)[r]? = some row := by
    have e1 : ((marksM k m).take r).length = r := by simp [marksM_length]; omega
    rw [List.getElem?_append_right (by omega), e1, Nat.sub_self, List.getElem?_drop, Nat.add_zero]; exact hr
  obtain ⟨A2, c2, e2, o2⟩ := h1.inner r row hat
  rw [hv] at e2
  injection e2 with e2
  rw [e2] at hg
  exact ⟨(o2.1.lt g hg).1, o2.2 g hg⟩
theorem MarkingM.done {lo hi n : Nat} {v : Value} {k : Int} {m : List (List Int)} {vs : List Value} {w wr : World} (h : MarkingM lo hi n v k m vs n w wr) (hl : m.length = n) : MarkedM lo hi n v k m vs w (.returned (.int .i64 (k + (total m : Nat)))) wr := by
  obtain ⟨h1, h2⟩ := h
  rw [List.take_of_length_le (by rw [marksM_length]; omega), List.drop_eq_nil_of_le (by omega), List.append_nil] at h1
  exact ⟨rfl, h1, h2⟩
theorem MarkingM.at_ {lo hi n r : Nat} {v : Value} {k : Int} {m : List (List Int)} {vs : List Value} {row : List Int} {w wr : World} (h : MarkingM lo hi n v k m vs r w wr) (hr : m[r]? = some row) :
    ∃ A c, vs[r]? = some (.slice A row.length c) ∧ OwnR wr lo hi 2 (.slice A row.length c) row.length (ints row) := by
  have hrl : r < m.length := by
    rcases Nat.lt_or_ge r m.length with g | g
    · exact g
    · rw [List.getElem?_eq_none g] at hr; cases hr
  have hat : ((marksM k m).take r ++ m.drop r)[r]? = some row := by
    have e1 : ((marksM k m).take r).length = r := by simp [marksM_length]; omega
    rw [List.getElem?_append_right (by omega), e1, Nat.sub_self, List.getElem?_drop, Nat.add_zero]; exact hr
  exact h.1.inner r row hat
end Go.Proofs.YtnnihdkhblbdgaaGreat
