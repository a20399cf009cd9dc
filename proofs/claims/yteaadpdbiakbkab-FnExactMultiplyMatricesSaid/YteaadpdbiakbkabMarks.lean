/-
  Marks that the laws write into lists of the call's own, and their reading.
-/
import Derived.Test.YteaadpdbiakbkabNestc
namespace Go.Proofs.Yteaadpdbiakbkab
open Go.RowKit Fld
set_option linter.unusedVariables false
set_option linter.unusedSimpArgs false

def Marked (lo n c : Nat) (A : Option Addr) (k : Int) (w : World) (e : Ending) (w' : World) : Prop :=
  e = .returned (.int .i64 (k + (n : Int))) ∧ w'.ownsRow lo 2 1 (.slice A n c) n (ints (marks k n)) ∧ w.grownBy w' (Value.ownBlock (.slice A n c))
def Marking (lo n c : Nat) (A : Option Addr) (k : Int) (xs : List Int) (j : Nat) (w wr : World) : Prop :=
  wr.ownsRow lo 2 1 (.slice A n c) n (ints ((marks k n).take j ++ xs.drop j)) ∧ w.grownBy wr (Value.ownBlock (.slice A n c))
theorem grownBy_trans {a b c : World} {row : Option Nat} (h : a.grownBy b row) (k : b.grownBy c row) : a.grownBy c row :=
  ⟨k.os.trans h.os, k.tape.trans h.tape, k.output.trans h.output, Nat.le_trans h.size k.size, fun i hi hne => (k.block i (Nat.lt_of_lt_of_le hi h.size) hne).trans (h.block i hi hne)⟩
theorem own_form {w : World} {lo : Nat} {T : TypeId} {v : Value} {n : Nat} {vs : List Value} (h : w.ownsRow lo T 1 v n vs) (hn : 0 < n) : ∃ g cap, v = .slice (some ⟨g, 0, none⟩) n cap := by
  rcases h.2 with ⟨_, h0⟩ | ⟨g, cap, cur, hv, _⟩
  · omega
  · exact ⟨g, cap, hv⟩
theorem Marking.step {lo n c g j : Nat} {k : Int} {xs : List Int} {w wr : World} (h : Marking lo n c (some ⟨g, 0, none⟩) k xs j w wr) (hl : xs.length = n) (hj : j < n) : Marking lo n c (some ⟨g, 0, none⟩) k xs (j + 1) w (wr.setCell ⟨g, j, none⟩ (.int .i64 (k + (j : Int)))) := by
  obtain ⟨h1, h2⟩ := h
  have h3 := h1.stored j (.int .i64 (k + (j : Int)))
  refine ⟨?_, grownBy_trans h2 h3.2⟩
  have e : (ints ((marks k n).take j ++ xs.drop j)).set j (.int .i64 (k + (j : Int))) = ints ((marks k n).take (j + 1) ++ xs.drop (j + 1)) := by
    rw [← mark_step (vs := xs) (us := marks k n) (k := j) (by omega) (by rw [marks_length]; omega) (marks_at k hj)]
    unfold ints intsK; rw [List.map_set]
  rw [e] at h3
  exact h3.1
theorem Marking.done {lo n c : Nat} {A : Option Addr} {k : Int} {xs : List Int} {w wr : World} (h : Marking lo n c A k xs n w wr) (hl : xs.length = n) : Marked lo n c A k w (.returned (.int .i64 (k + (n : Int)))) wr := by
  obtain ⟨h1, h2⟩ := h
  rw [List.take_of_length_le (by rw [marks_length]; omega), List.drop_eq_nil_of_le (by omega), List.append_nil] at h1
  exact ⟨rfl, h1, h2⟩
set_option maxHeartbeats 400000 in
theorem markInt64S_any (A : Option Addr) (n c lo : Nat) (xs : List Int) (k : Int) (w : World) (hl : xs.length = n) (hn : n ≤ 1099511627776) (k0 : 0 ≤ k) (k1 : k ≤ 1099511627776) (h : w.ownsRow lo 2 1 (.slice A n c) n (ints xs)) :
    Calls Try.prog 37 #[.slice A n c, .int .i64 k] w (Marked lo n c A k w) := by
  have HL := Lib.hid hl
  clear hl
  have F0 : Hid (Marking lo n c A k xs 0 w w) := ⟨by simpa using h, World.grownBy.refl _ _⟩
  clear h
  go_enter Try.func37, Try.ntmps37
  go_wp2_with fail
  go_loopw [1, 5] (fun kk i wr => ∃ j : Nat, j ≤ n ∧ kk = .int .i64 (k + (j : Int)) ∧ i = .int .i64 j ∧ Marking lo n c A k xs j w wr) (fun _ i _ => n - (intOf i).toNat)
  case atStart => exact ⟨0, Nat.zero_le _, by simp, rfl, F0.out⟩
  case round =>
    obtain ⟨j, hj, rfl, rfl, HF⟩ := hrel
    by_cases hlt : j < n
    · obtain ⟨g, cap, hv⟩ := own_form HF.1 (by omega)
      injection hv with hA _ hcap
      subst hA hcap
      have hf := HF.1.frozenAt j
      have ho := HF.1.cellAt j (by omega)
      have hlen : j < (ints ((marks k n).take j ++ xs.drop j)).length := by rw [own_len HF.1]; exact hlt
      rw [List.getElem?_eq_getElem hlen] at ho
      generalize (ints ((marks k n).take j ++ xs.drop j))[j] = old at *
      have G := Lib.hid (HF.step HL.out hlt)
      clear HF F0 hlen
      go_wp2
      go_roundw
      case rel => exact ⟨j + 1, by omega, by go_num, by go_num, G.out⟩
      case measure => simp [intOf]; omega
    · obtain rfl : j = n := by omega
      have G := Lib.hid (HF.done HL.out)
      clear HF F0
      go_wp2
      go_ret
      exact G.out
theorem heldInt64S_any (A : Option Addr) (n c B : Nat) (k : Int) (w : World) (hn : n ≤ 1099511627776) (k0 : 0 ≤ k) (k1 : k ≤ 1099511627776) (h : Row w B A (ints (marks k n))) :
    Calls Try.prog 38 #[.slice A n c, .int .i64 k] w fun e w' => e = .returned (.int .i64 (k + (n : Int))) ∧ w = w' := by
  go_enter Try.func38, Try.ntmps38
  go_wp2_with fail
  go_loop [1, 5] (fun kk i => ∃ j : Nat, j ≤ n ∧ kk = .int .i64 (k + (j : Int)) ∧ i = .int .i64 j) (fun _ i => n - (intOf i).toNat)
  case atStart => exact ⟨0, Nat.zero_le _, by simp, rfl⟩
  case round =>
    obtain ⟨j, hj, rfl, rfl⟩ := hrel
    by_cases hlt : j < n
    · obtain ⟨b, o, rfl, _, hc⟩ := h j _ (ints_at (marks_at k hlt))
      go_wp2
      go_round
      case rel => exact ⟨j + 1, by omega, by go_num, by go_num⟩
      case measure => simp [intOf]; omega
    · obtain rfl : j = n := by omega
      go_wp2
      go_ret
      exact ⟨rfl, rfl⟩

def MarkedM (lo hi n : Nat) (v : Value) (k : Int) (m : List (List Int)) (vs : List Value) (w : World) (e : Ending) (w' : World) : Prop :=
  e = .returned (.int .i64 (k + (total m : Nat))) ∧ OwnMat w' lo hi v n (marksM k m) vs ∧ Within lo hi w w'
def MarkingM (lo hi n : Nat) (v : Value) (k : Int) (m : List (List Int)) (vs : List Value) (r : Nat) (w wr : World) : Prop :=
  OwnMat wr lo hi v n ((marksM k m).take r ++ m.drop r) vs ∧ Within lo hi w wr
theorem MarkingM.step {lo hi n r c : Nat} {v : Value} {A : Option Addr} {k : Int} {m : List (List Int)} {vs : List Value} {row : List Int} {w wr w2 : World} {e : Ending} (h : MarkingM lo hi n v k m vs r w wr) (hr : m[r]? = some row) (hv : vs[r]? = some (.slice A row.length c))
    (hm : Marked lo row.length c A (k + (total (m.take r) : Nat)) wr e w2) : MarkingM lo hi n v k m vs (r + 1) w w2 := by
  obtain ⟨h1, h2⟩ := h
  obtain ⟨_, h3, h4⟩ := hm
  have hrl : r < m.length := by
    rcases Nat.lt_or_ge r m.length with g | g
    · exact g
    · rw [List.getElem?_eq_none g] at hr; cases hr
  have h5 := h1.set_row hv (marks_length _ _) h3 h4
  rw [markM_step hrl (marksM_length _ _) (marksM_at m k r row hr)] at h5
  refine ⟨h5, h2.trans (Within.grown h4 fun g hg => ?_)⟩
  have hat : ((marksM k m).take r ++ m.drop r)[r]? = some row := by
    have e1 : ((marksM k m).take r).length = r := by simp [marksM_length]; omega
    rw [List.getElem?_append_right (by omega), e1, Nat.sub_self, List.getElem?_drop, Nat.add_zero]; exact hr
  obtain ⟨A2, c2, e2, o2⟩ := h1.inner r row hat
  rw [hv] at e2
  injection e2 with e2
  rw [e2] at hg
  exact ⟨(o2.1.lt g hg).1, o2.2 g hg⟩
theorem MarkingM.done {lo hi n : Nat} {v : Value} {k : Int} {m : List (List Int)} {vs : List Value} {w wr : World} (h : MarkingM lo hi n v k m vs n w wr) (hl : m.length = n) : MarkedM lo hi n v k m vs w (.returned (.int .i64 (k + (total m : Nat)))) wr := by
  obtain ⟨h1, h2⟩ := h
  rw [List.take_of_length_le (by rw [marksM_length]; omega), List.drop_eq_nil_of_le (by omega), List.append_nil] at h1
  exact ⟨rfl, h1, h2⟩
theorem MarkingM.at_ {lo hi n r : Nat} {v : Value} {k : Int} {m : List (List Int)} {vs : List Value} {row : List Int} {w wr : World} (h : MarkingM lo hi n v k m vs r w wr) (hr : m[r]? = some row) :
    ∃ A c, vs[r]? = some (.slice A row.length c) ∧ OwnR wr lo hi 2 (.slice A row.length c) row.length (ints row) := by
  have hrl : r < m.length := by
    rcases Nat.lt_or_ge r m.length with g | g
    · exact g
    · rw [List.getElem?_eq_none g] at hr; cases hr
  have hat : ((marksM k m).take r ++ m.drop r)[r]? = some row := by
    have e1 : ((marksM k m).take r).length = r := by simp [marksM_length]; omega
    rw [List.getElem?_append_right (by omega), e1, Nat.sub_self, List.getElem?_drop, Nat.add_zero]; exact hr
  exact h.1.inner r row hat
set_option maxHeartbeats 400000 in
theorem markInt64SS_any (A : Option Addr) (n c lo hi : Nat) (m : List (List Int)) (vs : List Value) (k : Int) (w : World) (hn : n ≤ 1099511627776) (ht : total m ≤ 1048576) (k0 : 0 ≤ k) (k1 : k ≤ 1073741824) (h : OwnMat w lo hi (.slice A n c) n m vs) :
    Calls Try.prog 29 #[.slice A n c, .int .i64 k] w (MarkedM lo hi n (.slice A n c) k m vs w) := by
  have HL := Lib.hid h.size
  have F0 : Hid (MarkingM lo hi n (.slice A n c) k m vs 0 w w) := ⟨by simpa using h, Within.refl _ _ _⟩
  clear h
  go_enter Try.func29, Try.ntmps29
  go_wp2_with fail
  go_loopw [1, 5] (fun kk i wr => ∃ r : Nat, r ≤ n ∧ kk = .int .i64 (k + (total (m.take r) : Nat)) ∧ i = .int .i64 r ∧ MarkingM lo hi n (.slice A n c) k m vs r w wr) (fun _ i _ => n - (intOf i).toNat)
  case atStart => exact ⟨0, Nat.zero_le _, by simp [total], rfl, F0.out⟩
  case round =>
    obtain ⟨r, hr, rfl, rfl, HF⟩ := hrel
    have hle := total_le m r
    by_cases hlt : r < n
    · obtain ⟨row, hrow⟩ := at_lt (show r < m.length by rw [HL.out]; exact hlt)
      obtain ⟨Ar, cr, hvr, hor⟩ := HF.at_ hrow
      obtain ⟨b, o, rfl, _, hc⟩ := HF.1.outer.row r _ hvr
      have hrl : row.length ≤ 1048576 := by
        have h1 := total_take hrow
        have h2 := total_le m (r + 1)
        omega
      have HT := Lib.hid (total_take hrow)
      have HV := Lib.hid hvr
      have HF' := Lib.hid HF
      have HR := Lib.hid hrow
      clear HF F0 hvr hrow
      go_wp2_with fail
      refine (markInt64S_any Ar row.length cr lo row _ _ rfl (by omega) (by omega) (by omega) hor.1).mono ?_
      rintro e w2 hm
      have G := Lib.hid (HF'.out.step HR.out HV.out hm)
      obtain ⟨rfl, _, _⟩ := hm
      have he : k + (total (m.take r) : Nat) + (row.length : Int) = k + (total (m.take (r + 1)) : Nat) := by rw [HT.out]; omega
      have HE := Lib.hid he
      clear he
      rw [HE.out]
      have hle2 := total_le m (r + 1)
      go_wp2
      go_roundw
      case rel => exact ⟨r + 1, by omega, rfl, by go_num, G.out⟩
      case measure => simp [intOf]; omega
    · obtain rfl : r = n := by omega
      have e : total (m.take r) = total m := by rw [List.take_of_length_le (by rw [HL.out]; omega)]
      have HE := Lib.hid e
      have G := Lib.hid (HF.done HL.out)
      clear HF F0 e
      go_wp2
      go_ret
      rw [HE.out]
      exact G.out
set_option maxHeartbeats 400000 in
theorem heldInt64SS_any (A : Option Addr) (n c B : Nat) (m : List (List Int)) (k : Int) (w : World) (hl : m.length = n) (hn : n ≤ 1099511627776) (ht : total m ≤ 1048576) (k0 : 0 ≤ k) (k1 : k ≤ 1073741824) (h : Mat w B A (marksM k m)) :
    Calls Try.prog 30 #[.slice A n c, .int .i64 k] w fun e w' => e = .returned (.int .i64 (k + (total m : Nat))) ∧ w = w' := by
  have HL := Lib.hid hl
  clear hl
  go_enter Try.func30, Try.ntmps30
  go_wp2_with fail
  go_loop [1, 5] (fun kk i => ∃ r : Nat, r ≤ n ∧ kk = .int .i64 (k + (total (m.take r) : Nat)) ∧ i = .int .i64 r) (fun _ i => n - (intOf i).toNat)
  case atStart => exact ⟨0, Nat.zero_le _, by simp [total], rfl⟩
  case round =>
    obtain ⟨r, hr, rfl, rfl⟩ := hrel
    have hle := total_le m r
    by_cases hlt : r < n
    · obtain ⟨row, hrow⟩ := at_lt (show r < m.length by rw [HL.out]; exact hlt)
      obtain ⟨b, o, Ak, ck, rfl, _, hc, _, _, hrr⟩ := h r _ (marksM_at m k r row hrow)
      rw [marks_length] at hc
      have hrl : row.length ≤ 1048576 := by
        have h1 := total_take hrow
        have h2 := total_le m (r + 1)
        omega
      have HT := Lib.hid (total_take hrow)
      clear hrow
      have he : k + (total (m.take r) : Nat) + (row.length : Int) = k + (total (m.take (r + 1)) : Nat) := by rw [HT.out]; omega
      have HE := Lib.hid he
      clear he
      have hle2 := total_le m (r + 1)
      go_wp2_with fail
      refine (heldInt64S_any Ak row.length ck B _ _ (by omega) (by omega) (by omega) hrr).mono ?_
      rintro e w' ⟨rfl, rfl⟩
      rw [HE.out]
      go_wp2
      go_round
      case rel => exact ⟨r + 1, by omega, rfl, by go_num⟩
      case measure => simp [intOf]; omega
    · obtain rfl : r = n := by omega
      have e : total (m.take r) = total m := by rw [List.take_of_length_le (by rw [HL.out]; omega)]
      have HE := Lib.hid e
      clear e
      go_wp2
      go_ret
      exact ⟨ret_i64 (by rw [HE.out]), rfl⟩
end Go.Proofs.Yteaadpdbiakbkab
