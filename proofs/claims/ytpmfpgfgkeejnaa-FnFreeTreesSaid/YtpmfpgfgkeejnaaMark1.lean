/-
  Marks that the laws write into a list of the call's own, and their reading.
-/
import Derived.Test.YtpmfpgfgkeejnaaNest
namespace Go.Proofs.Ytpmfpgfgkeejnaa
open Go.RowKit Fld
set_option linter.unusedVariables false
set_option linter.unusedSimpArgs false
set_option maxRecDepth 100000

def Marked (lo n c : Nat) (A : Option Addr) (k : Int) (w : World) (e : Ending) (w' : World) : Prop :=
  e = .returned (.int .i64 (k + (n : Int))) ∧ w'.ownsRow lo 2 1 (.slice A n c) n (ints (marks k n)) ∧ w.grownBy w' (Value.ownBlock (.slice A n c))
def Marking (lo n c : Nat) (A : Option Addr) (k : Int) (xs : List Int) (j : Nat) (w wr : World) : Prop :=
  wr.ownsRow lo 2 1 (.slice A n c) n (ints ((marks k n).take j ++ xs.drop j)) ∧ w.grownBy wr (Value.ownBlock (.slice A n c))
theorem grownBy_trans {a b c : World} {row : Option Nat} (h : a.grownBy b row) (k : b.grownBy c row) : a.grownBy c row :=
  ⟨k.os.trans h.os, k.tape.trans h.tape, k.output.trans h.output, Nat.le_trans h.size k.size, fun i hi hne => (k.block i (Nat.lt_of_lt_of_le hi h.size) hne).trans (h.block i hi hne)⟩
theorem own_form {w : World} {lo : Nat} {T : TypeId} {v : Value} {n : Nat} {vs : List Value} (h : w.ownsRow lo T 1 v n vs) (hn : 0 < n) : ∃ g cap, v = .slice (some ⟨g, 0, none⟩) n cap := by
  rcases h.2 with ⟨_, h0⟩ | ⟨g, cap, cur, hv, _⟩
  · omega
  · exact ⟨g, cap, hv⟩
theorem Marking.step {lo n c g j : Nat} {k : Int} {xs : List Int} {w wr : World} (h : Marking lo n c (some ⟨g, 0, none⟩) k xs j w wr) (hl : xs.length = n) (hj : j < n) : Marking lo n c (some ⟨g, 0, none⟩) k xs (j + 1) w (wr.setCell ⟨g, j, none⟩ (.int .i64 (k + (j : Int)))) := by
  obtain ⟨h1, h2⟩ := h
  have h3 := h1.stored j (.int .i64 (k + (j : Int)))
  refine ⟨?_, grownBy_trans h2 h3.2⟩
  have e : (ints ((marks k n).take j ++ xs.drop j)).set j (.int .i64 (k + (j : Int))) = ints ((marks k n).take (j + 1) ++ xs.drop (j + 1)) := by
    rw [← mark_step (vs := xs) (us := marks k n) (k := j) (by omega) (by rw [marks_length]; omega) (marks_at k hj)]
    unfold ints intsK; rw [List.map_set]
  rw [e] at h3
  exact h3.1
theorem Marking.done {lo n c : Nat} {A : Option Addr} {k : Int} {xs : List Int} {w wr : World} (h : Marking lo n c A k xs n w wr) (hl : xs.length = n) : Marked lo n c A k w (.returned (.int .i64 (k + (n : Int)))) wr := by
  obtain ⟨h1, h2⟩ := h
  rw [List.take_of_length_le (by rw [marks_length]; omega), List.drop_eq_nil_of_le (by omega), List.append_nil] at h1
  exact ⟨rfl, h1, h2⟩
end Go.Proofs.Ytpmfpgfgkeejnaa
