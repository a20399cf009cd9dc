/-
  Marks that the laws write into a list of the call's own, and their reading.
-/
import Derived.Test.YtnnihdkhblbdgaaNest
namespace Go.Proofs.Ytnnihdkhblbdgaa
open Go.RowKit Fld
set_option linter.unusedVariables false
set_option linter.unusedSimpArgs false
set_option maxRecDepth 100000

def Marked (lo n c : Nat) (A : Option Addr) (k : Int) (w : World) (e : Ending) (w' : World) : Prop :=
  e = .returned (.int .i64 (k + (n : Int))) ∧ w'.ownsRow lo 2 1 (.slice A n c) n (ints (marks k n)) ∧ w.grownBy w' (Value.ownBlock (.slice A n c))
def Marking (lo n c : Nat) (A : Option Addr) (k : Int) (xs : List Int) (j : Nat) (w wr : World) : Prop :=
  wr.ownsRow lo 2 1 (.slice A n c) n (ints ((marks k n).take j ++ xs.drop j)) ∧ w.grownBy wr (Value.ownBlock (.slice A n c))
theorem grownBy_trans {a b c : World} {row : Option Nat} (h : a.grownBy b row) (k : b.grownBy c row) : a.grownBy c row :=
  ⟨k.os.trans h.os, k.tape.trans h.tape, k.output.trans h.output, Nat.le_trans h.size k.size, fun i hi hne => (k.block i (Nat.lt_of_lt_of_le hi h.size) hne).trans (h.block i hi hne)⟩
theorem own_form {w : World} {lo : Nat} {T : TypeId} {v : Value} {n : Nat} {vs : List Value} (h : w.ownsRow lo T 1 v n vs) (hn : 0 < n) : ∃ g cap, v = .slice (some ⟨g, 0, none⟩) n cap := by
  rcases h.2 with ⟨_, h0⟩ | ⟨g, cap, cur, hv, _⟩
  · omega
  · exact ⟨g, cap, hv⟩
theorem Marking.step {lo n c g j : Nat} {k : Int} {xs : List Int} {w wr : World} (h : Marking lo n c (some ⟨g, 0, none⟩) k xs j w wr) (hl : xs.length = n) (hj : j < n) : Marking lo n c (some ⟨g, 0, none⟩) k xs (j + 1) w (wr.setCell ⟨g, j, none⟩ (.int .i64 (k + (j : Int)))) := by
  obtain ⟨h1, h2⟩ := h
  have h3 := h1.stored j (.int .i64 (k + (j : Int)))
  refine ⟨?_, grownBy_trans h2 h3.2⟩
  have e : (ints ((marks k n).take j ++ xs.drop j)).set j (.int .i64 (k + (j : Int))) = ints ((marks k n).take (j + 1) ++ xs.drop (j + 1)) := by
    rw [← mark_step (vs := xs) (us := marks k n) (k := j) (by omega) (by rw [marks_length]; omega) (marks_at k hj)]
    unfold ints intsK; rw [List.map_set]
  rw [e] at h3
  exact h3.1
theorem Marking.done {lo n c : Nat} {A : Option Addr} {k : Int} {xs : List Int} {w wr : World} (h : Marking lo n c A k xs n w wr) (hl : xs.length = n) : Marked lo n c A k w (.returned (.int .i64 (k + (n : Int)))) wr := by
  obtain ⟨h1, h2⟩ := h
  rw [List.take_of_length_le (by rw [marks_length]; omega), List.drop_eq_nil_of_le (by omega), List.append_nil] at h1
  exact ⟨rfl, h1, h2⟩
set_option maxHeartbeats 400000 in
theorem markInt64S_any (A : Option Addr) (n c lo : Nat) (xs : List Int) (k : Int) (w : World) (hl : xs.length = n) (hn : n ≤ 1099511627776) (k0 : 0 ≤ k) (k1 : k ≤ 1099511627776) (h : w.ownsRow lo 2 1 (.slice A n c) n (ints xs)) :
    Calls Try.prog 19 #[.slice A n c, .int .i64 k] w (Marked lo n c A k w) := by
  have HL := Lib.hid hl
  clear hl
  have F0 : Hid (Marking lo n c A k xs 0 w w) := ⟨by simpa using h, World.grownBy.refl _ _⟩
  clear h
  go_enter Try.func19, Try.ntmps19
  go_wp2_with fail
  go_loopw [1, 5] (fun kk i wr => ∃ j : Nat, j ≤ n ∧ kk = .int .i64 (k + (j : Int)) ∧ i = .int .i64 j ∧ Marking lo n c A k xs j w wr) (fun _ i _ => n - (intOf i).toNat)
  case atStart => exact ⟨0, Nat.zero_le _, by simp, rfl, F0.out⟩
  case round =>
    obtain ⟨j, hj, rfl, rfl, HF⟩ := hrel
    by_cases hlt : j < n
    · obtain ⟨g, cap, hv⟩ := own_form HF.1 (by omega)
      injection hv with hA _ hcap
      subst hA hcap
      have hf := HF.1.frozenAt j
      have ho := HF.1.cellAt j (by omega)
      have hlen : j < (ints ((marks k n).take j ++ xs.drop j)).length := by rw [own_len HF.1]; exact hlt
      rw [List.getElem?_eq_getElem hlen] at ho
      generalize (ints ((marks k n).take j ++ xs.drop j))[j] = old at *
      have G := Lib.hid (HF.step HL.out hlt)
      clear HF F0 hlen
      go_wp2
      go_roundw
      case rel => exact ⟨j + 1, by omega, by go_num, by go_num, G.out⟩
      case measure => simp [intOf]; omega
    · obtain rfl : j = n := by omega
      have G := Lib.hid (HF.done HL.out)
      clear HF F0
      go_wp2
      go_ret
      exact G.out
theorem heldInt64S_any (A : Option Addr) (n c B : Nat) (k : Int) (w : World) (hn : n ≤ 1099511627776) (k0 : 0 ≤ k) (k1 : k ≤ 1099511627776) (h : Row w B A (ints (marks k n))) :
    Calls Try.prog 20 #[.slice A n c, .int .i64 k] w fun e w' => e = .returned (.int .i64 (k + (n : Int))) ∧ w = w' := by
  go_enter Try.func20, Try.ntmps20
  go_wp2_with fail
  go_loop [1, 5] (fun kk i => ∃ j : Nat, j ≤ n ∧ kk = .int .i64 (k + (j : Int)) ∧ i = .int .i64 j) (fun _ i => n - (intOf i).toNat)
  case atStart => exact ⟨0, Nat.zero_le _, by simp, rfl⟩
  case round =>
    obtain ⟨j, hj, rfl, rfl⟩ := hrel
    by_cases hlt : j < n
    · obtain ⟨b, o, rfl, _, hc⟩ := h j _ (ints_at (marks_at k hlt))
      go_wp2
      go_round
      case rel => exact ⟨j + 1, by omega, by go_num, by go_num⟩
      case measure => simp [intOf]; omega
    · obtain rfl : j = n := by omega
      go_wp2
      go_ret
      exact ⟨rfl, rfl⟩
end Go.Proofs.Ytnnihdkhblbdgaa
