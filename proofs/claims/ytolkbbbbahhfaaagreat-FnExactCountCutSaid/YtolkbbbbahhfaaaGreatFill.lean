/-
  Texts filled in one after another.
-/
import Derived.Test.YtolkbbbbahhfaaaGreatSrt
namespace Go.Proofs.YtolkbbbbahhfaaaGreat
open Go.RowKit Fld
set_option linter.unusedVariables false
set_option linter.unusedSimpArgs false
set_option maxRecDepth 100000

/-- texts filled in one after another -/
def FillT (w : World) (n : Nat) (ss : List (List UInt8)) (k : Nat) (wr : World) : Prop :=
  wr.ownsRow w.heap.size 80 1 (.slice (some ⟨w.heap.size, 0, none⟩) n n) n ((strs ss).take k ++ List.replicate (n - k) (.string ⟨#[]⟩)) ∧ Below w.heap.size w wr
theorem FillT.below {w wr w2 : World} {n k : Nat} {ss : List (List UInt8)} (h : FillT w n ss k wr) (hb : Below wr.heap.size wr w2) : FillT w n ss k w2 :=
  ⟨((OwnR.of h.1).below hb (Nat.le_refl _)).1, h.2.trans (hb.mono h.2.size)⟩
theorem FillT.step {w wr : World} {n k : Nat} {ss : List (List UInt8)} {s : List UInt8} (h : FillT w n ss k wr) (hl : ss.length = n) (hs : ss[k]? = some s) : FillT w n ss (k + 1) (wr.setCell ⟨w.heap.size, k, none⟩ (.string ⟨s.toArray⟩)) := by
  obtain ⟨h1, h2⟩ := h
  refine ⟨?_, below_set h2 (Nat.le_refl _) _⟩
  have := (h1.stored k (.string ⟨s.toArray⟩)).1
  rw [fill_step (by rw [strs_length]; exact hl) (strs_at hs)] at this
  exact this
theorem FillT.start {w w1 : World} {n : Nat} {ss : List (List UInt8)} (h : w1.ownsRow w.heap.size 80 1 (.slice (some ⟨w.heap.size, 0, none⟩) n n) n (madeCells (Value.string ⟨#[]⟩).cells (n * 1)).toList) (hg : w.grownBy w1 none) : FillT w n ss 0 w1 := by
  refine ⟨?_, (Below.refl _ _).grown hg (Nat.le_refl _) (fun k hk => by cases hk)⟩
  have e : (madeCells (Value.string ⟨#[]⟩).cells (n * 1)).toList = (strs ss).take 0 ++ List.replicate (n - 0) (.string ⟨#[]⟩) := by
    rw [← fill_start, Nat.mul_one]; exact toList_madeCells_one _ _
  rw [e] at h
  exact h
end Go.Proofs.YtolkbbbbahhfaaaGreat
