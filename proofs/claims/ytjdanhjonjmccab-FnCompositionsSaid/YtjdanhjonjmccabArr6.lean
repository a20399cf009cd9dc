/-
  Series as arrays of the program: reverses.
-/
import Derived.Test.YtjdanhjonjmccabArr4
namespace Go.Proofs.Ytjdanhjonjmccab
open Go.RowKit Fld Ser
set_option linter.unusedVariables false
set_option linter.unusedSimpArgs false
set_option maxRecDepth 100000

/-- the reverse by the formula of Lagrange, as an array -/
def RevEnd (xs : List Int) (w : World) (e : Ending) (w' : World) : Prop :=
  ∃ q, Cg 15 (cv q (fun k => co xs (k + 1))) one ∧ e = .returned (.agg (arr (cl 16 (lgr q)))) ∧ Below w.heap.size w w'
theorem one16_co : Cg 16 (co one16) one := by rw [one16_cl]; exact co_cg 16 one
theorem rev_quo {xs L : List Int} (h : QuoTo 16 L (cl 16 (fun k => co xs (k + 1))) one16) : Cg 15 (cv (co L) (fun k => co xs (k + 1))) one :=
  ((((Cg.refl 16 (co L)).cv (co_cg 16 (fun k => co xs (k + 1)))).symm.trans (h.2.2.2.trans one16_co)).less (by omega))
theorem lgr_zero (q : Nat → Int) : (cl 16 (lgr q)).take (0 + 1) ++ zero16.drop (0 + 1) = zero16 := by
  have e : (cl 16 (lgr q)).take 1 = [0] := by
    rw [cl_take _ (by omega)]; rfl
  rw [Nat.zero_add, e]; rfl
theorem pwq_step (L : List Int) (m : Nat) : cl 16 (cv (co (cl 16 (pwr (co L) m))) (co L)) = cl 16 (pwr (co L) (m + 1)) := cl_cg ((co_cg 16 _).cv (Cg.refl _ _))
set_option maxHeartbeats 2000000 in
theorem reverseS_any (xs : List Int) (w : World) (hl : xs.length = 16) (ha : allNum xs = true) (h0 : co xs 1 ≠ 0) :
    Calls Try.prog 82 #[.agg (arr xs)] w (RevEnd xs w) := by
  have HL := Lib.hid hl
  have HA := Lib.hid ha
  have H00 : Hid (co (cl 16 (fun k => co xs (k + 1))) 0 ≠ 0) := by
    unfold Hid
    rw [co_cl _ (by omega)]
    have := co_num ha 1
    show co xs (0 + 1) % 10007 ≠ 0
    rw [Nat.zero_add, Int.emod_eq_of_lt this.1 this.2]; exact h0
  clear hl ha h0
  have F := Lib.hid (arr_three w xs zero16 zero16)
  go_enter Try.func82, Try.ntmps82
  go_wp2_with (refine wpList_load_row rfl 65 (.tmp 1) rfl w.heap.size rfl 65 (arr xs) (0, 0) _ F.out.1 Try.underlying65 rfl (by rw [arr_size HL.out]; exact info_arr) ?_)
  refine (loweredS_any xs _ HL.out HA.out).mono ?_
  rintro e w1 ⟨rfl, b1⟩
  have J1 := Lib.hid (show ArrAt w1 w.heap.size xs ∧ ArrAt w1 (w.heap.size + 1) zero16 ∧ ArrAt w1 (w.heap.size + 1 + 1) zero16 ∧ Below w.heap.size w w1 from ⟨F.out.1.below b1 F.out.1.lt, F.out.2.1.below b1 F.out.2.1.lt, F.out.2.2.1.below b1 F.out.2.2.1.lt, F.out.2.2.2.trans (b1.mono F.out.2.2.2.size)⟩)
  clear b1 F
  go_wp2_with fail
  refine (overS_any one16 (cl 16 (fun k => co xs (k + 1))) _ rfl (cl_length _ _) (by decide) (cl_num _ _) H00.out).mono ?_
  rintro e w2 ⟨L, HQ, rfl, b2⟩
  have J2 := Lib.hid (show ArrAt w2 w.heap.size xs ∧ ArrAt w2 (w.heap.size + 1) zero16 ∧ ArrAt w2 (w.heap.size + 1 + 1) zero16 ∧ Below w.heap.size w w2 from ⟨J1.out.1.below b2 J1.out.1.lt, J1.out.2.1.below b2 J1.out.2.1.lt, J1.out.2.2.1.below b2 J1.out.2.2.1.lt, J1.out.2.2.2.trans (b2.mono J1.out.2.2.2.size)⟩)
  have HQ' := Lib.hid HQ
  have HS := Lib.hid (arr_size HQ.1)
  have hz : w.heap.size + 1 + 1 < w2.heap.size := J2.out.2.2.1.lt
  clear b2 J1 HQ
  have F4 := Lib.hid (ArrAt.new w2 zero16)
  have F5 : Hid (ArrAt (((w2.alloc (.cells (arr zero16) 65)).setRow w2.heap.size (arr L)).alloc (.cells (arr zero16) 65)) (w2.heap.size + 1) zero16) := ArrAt.next zero16 (by simp)
  go_wp2_with (first
    | (refine wpList_store_row rfl 65 (.tmp 4) (.tmp 10) rfl w2.heap.size (arr L) rfl rfl 65 (arr zero16) F4.out (by rw [HS.out]; exact info_arr) (by rw [HS.out]; rfl) (arr_cells _) ?_)
    | (refine wpList_store_row rfl 65 (.tmp 5) (.tmp 11) rfl (w2.heap.size + 1) (arr one16) rfl rfl 65 (arr zero16) F5.out info_arr rfl (arr_cells _) ?_))
  have J := Lib.hid (show ArrAt ((((w2.alloc (.cells (arr zero16) 65)).setRow w2.heap.size (arr L)).alloc (.cells (arr zero16) 65)).setRow (w2.heap.size + 1) (arr one16)) (w.heap.size + 1) zero16 ∧ ArrAt ((((w2.alloc (.cells (arr zero16) 65)).setRow w2.heap.size (arr L)).alloc (.cells (arr zero16) 65)).setRow (w2.heap.size + 1) (arr one16)) (w.heap.size + 1 + 1) ((cl 16 (lgr (co L))).take (0 + 1) ++ zero16.drop (0 + 1)) ∧ ArrAt ((((w2.alloc (.cells (arr zero16) 65)).setRow w2.heap.size (arr L)).alloc (.cells (arr zero16) 65)).setRow (w2.heap.size + 1) (arr one16)) w2.heap.size L ∧ ArrAt ((((w2.alloc (.cells (arr zero16) 65)).setRow w2.heap.size (arr L)).alloc (.cells (arr zero16) 65)).setRow (w2.heap.size + 1) (arr one16)) (w2.heap.size + 1) (cl 16 (pwr (co L) 0)) ∧ Below w.heap.size w ((((w2.alloc (.cells (arr zero16) 65)).setRow w2.heap.size (arr L)).alloc (.cells (arr zero16) 65)).setRow (w2.heap.size + 1) (arr one16)) from
    ⟨(((J2.out.2.1.alloc _).putOther (by omega) _).alloc _).putOther (by omega) _, by rw [lgr_zero]; exact (((J2.out.2.2.1.alloc _).putOther (by omega) _).alloc _).putOther (by omega) _, ((F4.out.put L).alloc _).putOther (by omega) _, by show ArrAt _ _ (cl 16 one); rw [← one16_cl]; exact F5.out.put one16, below_setRow ((below_setRow (J2.out.2.2.2.alloc J2.out.2.2.2.size _) (by omega) _).alloc (by simp; omega) _) (by omega) _⟩)
  clear J2 F4 F5
  go_loopw [6] (fun i wr => ∃ m : Nat, m ≤ 15 ∧ i = .int .i64 ((m : Int) + 1) ∧ ArrAt wr (w.heap.size + 1) zero16 ∧ ArrAt wr (w.heap.size + 1 + 1) ((cl 16 (lgr (co L))).take (m + 1) ++ zero16.drop (m + 1)) ∧ ArrAt wr w2.heap.size L ∧ ArrAt wr (w2.heap.size + 1) (cl 16 (pwr (co L) m)) ∧ Below w.heap.size w wr) (fun i _ => 16 - (intOf i).toNat)
  case atStart => exact ⟨0, by omega, rfl, J.out⟩
  case round =>
    obtain ⟨m, hm, rfl, H1, H2, H3, H4, HB⟩ := hrel
    have K := Lib.hid (show ArrAt wr (w.heap.size + 1) zero16 ∧ ArrAt wr (w.heap.size + 1 + 1) ((cl 16 (lgr (co L))).take (m + 1) ++ zero16.drop (m + 1)) ∧ ArrAt wr w2.heap.size L ∧ ArrAt wr (w2.heap.size + 1) (cl 16 (pwr (co L) m)) ∧ Below w.heap.size w wr from ⟨H1, H2, H3, H4, HB⟩)
    clear H1 H2 H3 H4 HB J
    have hb : w2.heap.size + 1 < wr.heap.size := K.out.2.2.2.1.lt
    by_cases hlt : m < 15
    · have HP := Lib.hid (pwq_step L m)
      have m0 : (0 : Int) ≤ (m : Int) := Int.natCast_nonneg _
      have m1 : (m : Int) < 15 := by omega
      go_wp2_with (first
        | (refine wpList_load_row rfl 65 (.tmp 5) rfl (w2.heap.size + 1) rfl 65 (arr (cl 16 (pwr (co L) m))) (0, 0) _ K.out.2.2.2.1 Try.underlying65 rfl (by rw [arr_size (cl_length _ _)]; exact info_arr) ?_)
        | (refine wpList_load_row rfl 65 (.tmp 4) rfl w2.heap.size rfl 65 (arr L) (0, 0) _ K.out.2.2.1 Try.underlying65 rfl (by rw [HS.out]; exact info_arr) ?_))
      refine (timesS_any (cl 16 (pwr (co L) m)) L _ (cl_length _ _) HQ'.out.1 (cl_num _ _) HQ'.out.2.1).mono ?_
      rintro e w4 ⟨rfl, b4⟩
      rw [HP.out]
      have K4 := Lib.hid (show ArrAt w4 (w.heap.size + 1) zero16 ∧ ArrAt w4 (w.heap.size + 1 + 1) ((cl 16 (lgr (co L))).take (m + 1) ++ zero16.drop (m + 1)) ∧ ArrAt w4 w2.heap.size L ∧ ArrAt w4 (w2.heap.size + 1) (cl 16 (pwr (co L) m)) ∧ Below w.heap.size w w4 from ⟨K.out.1.below b4 (by omega), K.out.2.1.below b4 (by omega), K.out.2.2.1.below b4 (by omega), K.out.2.2.2.1.below b4 (by omega), K.out.2.2.2.2.trans (b4.mono K.out.2.2.2.2.size)⟩)
      clear b4 K
      have K5 := Lib.hid (show ArrAt (w4.setRow (w2.heap.size + 1) (arr (cl 16 (pwr (co L) (m + 1))))) (w.heap.size + 1) zero16 ∧ ArrAt (w4.setRow (w2.heap.size + 1) (arr (cl 16 (pwr (co L) (m + 1))))) (w.heap.size + 1 + 1) ((cl 16 (lgr (co L))).take (m + 1) ++ zero16.drop (m + 1)) ∧ ArrAt (w4.setRow (w2.heap.size + 1) (arr (cl 16 (pwr (co L) (m + 1))))) w2.heap.size L ∧ ArrAt (w4.setRow (w2.heap.size + 1) (arr (cl 16 (pwr (co L) (m + 1))))) (w2.heap.size + 1) (cl 16 (pwr (co L) (m + 1))) ∧ Below w.heap.size w (w4.setRow (w2.heap.size + 1) (arr (cl 16 (pwr (co L) (m + 1))))) from ⟨K4.out.1.putOther (by omega) _, K4.out.2.1.putOther (by omega) _, K4.out.2.2.1.putOther (by omega) _, K4.out.2.2.2.1.put _, below_setRow K4.out.2.2.2.2 (by omega) _⟩)
      have hx := cl_at (pwr (co L) (m + 1)) (show m < 16 by omega)
      have hc := K5.out.2.2.2.1.cell hx
      have hc2 := K5.out.2.1.cell (mix_at (us := cl 16 (lgr (co L))) (k := m + 1) (show (cl 16 (lgr (co L))).length = zero16.length by rw [cl_length]; rfl) (zero_at (show m + 1 < 16 by omega)))
      have hf := K5.out.2.1.free (m + 1)
      have HE : Hid ((cl 16 (lgr (co L)))[m + 1]? = some (pwr (co L) (m + 1) m % 10007 * inv ((m : Int) + 1) % 10007)) := by
        unfold Hid
        rw [cl_at _ (by omega)]
        exact congrArg some ((Eqm.mod (pwr (co L) (m + 1) m)).symm.mul (Eqm.refl (inv ((m : Int) + 1))))
      have x0 : 0 ≤ pwr (co L) (m + 1) m % 10007 := by omega
      have x1 : pwr (co L) (m + 1) m % 10007 < 10007 := by omega
      have Gs := Lib.hid (K5.out.2.1.store (k := m + 1) (pwr (co L) (m + 1) m % 10007 * inv ((m : Int) + 1) % 10007))
      clear hx
      generalize pwr (co L) (m + 1) m % 10007 = y at *
      go_wp2_with (first
        | (refine wpList_store_row rfl 65 (.tmp 5) (.tmp 18) rfl (w2.heap.size + 1) (arr (cl 16 (pwr (co L) (m + 1)))) rfl rfl 65 (arr (cl 16 (pwr (co L) m))) K4.out.2.2.2.1 (by rw [arr_size (cl_length _ _)]; exact info_arr) (by rw [arr_size (cl_length _ _), arr_size (cl_length _ _)]) (arr_cells _) ?_)
        | (go_at_call 120; refine (over_any _ _ _ x0 x1 (by omega) (by omega)).mono ?_; rintro e w' ⟨rfl, rfl⟩))
      go_roundw
      case rel => exact ⟨m + 1, by omega, by go_num, by exact K5.out.1.other (by omega) _, by have := Gs.out; rw [mix_step (by simp [zero16]; omega) (by rw [cl_length]; rfl) HE.out] at this; exact this, by exact K5.out.2.2.1.other (by omega) _, by exact K5.out.2.2.2.1.other (by omega) _, by exact below_set K5.out.2.2.2.2 (by omega) _⟩
      case measure => simp [intOf]; omega
    · obtain rfl : m = 15 := by omega
      have e2 : (cl 16 (lgr (co L))).take (15 + 1) ++ zero16.drop (15 + 1) = cl 16 (lgr (co L)) := mix_end (n := 16) (cl_length _ _) rfl
      have K2 := Lib.hid K.out.2.1
      rw [e2] at K2
      have HW := Lib.hid (rev_quo HQ'.out)
      clear e2
      go_wp2_with (first
        | (refine wpList_load_row rfl 65 (.tmp 3) rfl (w.heap.size + 1 + 1) rfl 65 (arr (cl 16 (lgr (co L)))) (0, 0) _ K2.out Try.underlying65 rfl (by rw [arr_size (cl_length _ _)]; exact info_arr) ?_)
        | (refine wpList_store_row rfl 65 (.tmp 2) (.tmp 27) rfl (w.heap.size + 1) (arr (cl 16 (lgr (co L)))) rfl rfl 65 (arr zero16) K.out.1 (by rw [arr_size (cl_length _ _)]; exact info_arr) (by rw [arr_size (cl_length _ _)]; rfl) (arr_cells _) ?_))
      refine bodyPost_ret (v := .agg (arr (cl 16 (lgr (co L))))) ?_ rfl ⟨_, HW.out, rfl, below_setRow K.out.2.2.2.2 (by omega) _⟩
      exact results_cell_row rfl _ _ (w.heap.size + 1) 65 _ (0, 0) _ rfl (setRow_heap _ _ _ _ _ _ K.out.1) Try.underlying65 rfl (by rw [arr_size (cl_length _ _)]; exact info_arr)
end Go.Proofs.Ytjdanhjonjmccab
