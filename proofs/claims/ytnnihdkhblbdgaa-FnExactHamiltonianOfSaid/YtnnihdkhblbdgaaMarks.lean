/-
  Marks that the laws write into lists of the call's own, and their reading.
-/
import Derived.Test.YtnnihdkhblbdgaaNestc
import Derived.Test.YtnnihdkhblbdgaaMark1
namespace Go.Proofs.Ytnnihdkhblbdgaa
open Go.RowKit Fld
set_option linter.unusedVariables false
set_option linter.unusedSimpArgs false
set_option maxRecDepth 100000

def MarkedM (lo hi n : Nat) (v : Value) (k : Int) (m : List (List Int)) (vs : List Value) (w : World) (e : Ending) (w' : World) : Prop :=
  e = .returned (.int .i64 (k + (total m : Nat))) ∧ OwnMat w' lo hi v n (marksM k m) vs ∧ Within lo hi w w'
def MarkingM (lo hi n : Nat) (v : Value) (k : Int) (m : List (List Int)) (vs : List Value) (r : Nat) (w wr : World) : Prop :=
  OwnMat wr lo hi v n ((marksM k m).take r ++ m.drop r) vs ∧ Within lo hi w wr
theorem MarkingM.step {lo hi n r c : Nat} {v : Value} {A : Option Addr} {k : Int} {m : List (List Int)} {vs : List Value} {row : List Int} {w wr w2 : World} {e : Ending} (h : MarkingM lo hi n v k m vs r w wr) (hr : m[r]? = some row) (hv : vs[r]? = some (.slice A row.length c))
    (hm : Marked lo row.length c A (k + (total (m.take r) : Nat)) wr e w2) : MarkingM lo hi n v k m vs (r + 1) w w2 := by
  obtain ⟨h1, h2⟩ := h
  obtain ⟨_, h3, h4⟩ := hm
  have hrl : r < m.length := by
    rcases Nat.lt_or_ge r m.length with g | g
    · exact g
    · rw [List.getElem?_eq_none g] at hr; cases hr
  have h5 := h1.set_row hv (marks_length _ _) h3 h4
  rw [markM_step hrl (marksM_length _ _) (marksM_at m k r row hr)] at h5
  refine ⟨h5, h2.trans (Within.grown h4 fun g hg => ?_)⟩
  have hat : ((marksM k m).take r ++ m.drop r)[r]? = some row := by
    have e1 : ((marksM k m).take r).length = r := by simp [marksM_length]; omega
    rw [List.getElem?_append_right (by omega), e1, Nat.sub_self, List.getElem?_drop, Nat.add_zero]; exact hr
  obtain ⟨A2, c2, e2, o2⟩ := h1.inner r row hat
  rw [hv] at e2
  injection e2 with e2
  rw [e2] at hg
  exact ⟨(o2.1.lt g hg).1, o2.2 g hg⟩
theorem MarkingM.done {lo hi n : Nat} {v : Value} {k : Int} {m : List (List Int)} {vs : List Value} {w wr : World} (h : MarkingM lo hi n v k m vs n w wr) (hl : m.length = n) : MarkedM lo hi n v k m vs w (.returned (.int .i64 (k + (total m : Nat)))) wr := by
  obtain ⟨h1, h2⟩ := h
  rw [List.take_of_length_le (by rw [marksM_length]; omega), List.drop_eq_nil_of_le (by omega), List.append_nil] at h1
  exact ⟨rfl, h1, h2⟩
theorem MarkingM.at_ {lo hi n r : Nat} {v : Value} {k : Int} {m : List (List Int)} {vs : List Value} {row : List Int} {w wr : World} (h : MarkingM lo hi n v k m vs r w wr) (hr : m[r]? = some row) :
    ∃ A c, vs[r]? = some (.slice A row.length c) ∧ OwnR wr lo hi 2 (.slice A row.length c) row.length (ints row) := by
  have hrl : r < m.length := by
    rcases Nat.lt_or_ge r m.length with g | g
    · exact g
    · rw [List.getElem?_eq_none g] at hr; cases hr
  have hat : ((marksM k m).take r ++ m.drop r)[r]? = some row := by
    have e1 : ((marksM k m).take r).length = r := by simp [marksM_length]; omega
    rw [List.getElem?_append_right (by omega), e1, Nat.sub_self, List.getElem?_drop, Nat.add_zero]; exact hr
  exact h.1.inner r row hat
set_option maxHeartbeats 400000 in
theorem markInt64SS_any (A : Option Addr) (n c lo hi : Nat) (m : List (List Int)) (vs : List Value) (k : Int) (w : World) (hn : n ≤ 1099511627776) (ht : total m ≤ 1048576) (k0 : 0 ≤ k) (k1 : k ≤ 1073741824) (h : OwnMat w lo hi (.slice A n c) n m vs) :
    Calls Try.prog 31 #[.slice A n c, .int .i64 k] w (MarkedM lo hi n (.slice A n c) k m vs w) := by
  have HL := Lib.hid h.size
  have F0 : Hid (MarkingM lo hi n (.slice A n c) k m vs 0 w w) := ⟨by simpa using h, Within.refl _ _ _⟩
  clear h
  go_enter Try.func31, Try.ntmps31
  go_wp2_with fail
  go_loopw [1, 5] (fun kk i wr => ∃ r : Nat, r ≤ n ∧ kk = .int .i64 (k + (total (m.take r) : Nat)) ∧ i = .int .i64 r ∧ MarkingM lo hi n (.slice A n c) k m vs r w wr) (fun _ i _ => n - (intOf i).toNat)
  case atStart => exact ⟨0, Nat.zero_le _, by simp [total], rfl, F0.out⟩
  case round =>
    obtain ⟨r, hr, rfl, rfl, HF⟩ := hrel
    have hle := total_le m r
    by_cases hlt : r < n
    · obtain ⟨row, hrow⟩ := at_lt (show r < m.length by rw [HL.out]; exact hlt)
      obtain ⟨Ar, cr, hvr, hor⟩ := HF.at_ hrow
      obtain ⟨b, o, rfl, _, hc⟩ := HF.1.outer.row r _ hvr
      have hrl : row.length ≤ 1048576 := by
        have h1 := total_take hrow
        have h2 := total_le m (r + 1)
        omega
      have HT := Lib.hid (total_take hrow)
      have HV := Lib.hid hvr
      have HF' := Lib.hid HF
      have HR := Lib.hid hrow
      clear HF F0 hvr hrow
      go_wp2_with fail
      refine (markInt64S_any Ar row.length cr lo row _ _ rfl (by omega) (by omega) (by omega) hor.1).mono ?_
      rintro e w2 hm
      have G := Lib.hid (HF'.out.step HR.out HV.out hm)
      obtain ⟨rfl, _, _⟩ := hm
      have he : k + (total (m.take r) : Nat) + (row.length : Int) = k + (total (m.take (r + 1)) : Nat) := by rw [HT.out]; omega
      have HE := Lib.hid he
      clear he
      rw [HE.out]
      have hle2 := total_le m (r + 1)
      go_wp2
      go_roundw
      case rel => exact ⟨r + 1, by omega, rfl, by go_num, G.out⟩
      case measure => simp [intOf]; omega
    · obtain rfl : r = n := by omega
      have e : total (m.take r) = total m := by rw [List.take_of_length_le (by rw [HL.out]; omega)]
      have HE := Lib.hid e
      have G := Lib.hid (HF.done HL.out)
      clear HF F0 e
      go_wp2
      go_ret
      rw [HE.out]
      exact G.out
set_option maxHeartbeats 400000 in
theorem heldInt64SS_any (A : Option Addr) (n c B : Nat) (m : List (List Int)) (k : Int) (w : World) (hl : m.length = n) (hn : n ≤ 1099511627776) (ht : total m ≤ 1048576) (k0 : 0 ≤ k) (k1 : k ≤ 1073741824) (h : Mat w B A (marksM k m)) :
    Calls Try.prog 32 #[.slice A n c, .int .i64 k] w fun e w' => e = .returned (.int .i64 (k + (total m : Nat))) ∧ w = w' := by
  have HL := Lib.hid hl
  clear hl
  go_enter Try.func32, Try.ntmps32
  go_wp2_with fail
  go_loop [1, 5] (fun kk i => ∃ r : Nat, r ≤ n ∧ kk = .int .i64 (k + (total (m.take r) : Nat)) ∧ i = .int .i64 r) (fun _ i => n - (intOf i).toNat)
  case atStart => exact ⟨0, Nat.zero_le _, by simp [total], rfl⟩
  case round =>
    obtain ⟨r, hr, rfl, rfl⟩ := hrel
    have hle := total_le m r
    by_cases hlt : r < n
    · obtain ⟨row, hrow⟩ := at_lt (show r < m.length by rw [HL.out]; exact hlt)
      obtain ⟨b, o, Ak, ck, rfl, _, hc, _, _, hrr⟩ := h r _ (marksM_at m k r row hrow)
      rw [marks_length] at hc
      have hrl : row.length ≤ 1048576 := by
        have h1 := total_take hrow
        have h2 := total_le m (r + 1)
        omega
      have HT := Lib.hid (total_take hrow)
      clear hrow
      have he : k + (total (m.take r) : Nat) + (row.length : Int) = k + (total (m.take (r + 1)) : Nat) := by rw [HT.out]; omega
      have HE := Lib.hid he
      clear he
      have hle2 := total_le m (r + 1)
      go_wp2_with fail
      refine (heldInt64S_any Ak row.length ck B _ _ (by omega) (by omega) (by omega) hrr).mono ?_
      rintro e w' ⟨rfl, rfl⟩
      rw [HE.out]
      go_wp2
      go_round
      case rel => exact ⟨r + 1, by omega, rfl, by go_num⟩
      case measure => simp [intOf]; omega
    · obtain rfl : r = n := by omega
      have e : total (m.take r) = total m := by rw [List.take_of_length_le (by rw [HL.out]; omega)]
      have HE := Lib.hid e
      clear e
      go_wp2
      go_ret
      exact ⟨ret_i64 (by rw [HE.out]), rfl⟩
end Go.Proofs.Ytnnihdkhblbdgaa
