/-
  Series as arrays of the program: logarithms.
-/
import Derived.Test.YtjdanhjonjmccabArr4
namespace Go.Proofs.Ytjdanhjonjmccab
open Go.RowKit Fld Ser
set_option linter.unusedVariables false
set_option linter.unusedSimpArgs false
set_option maxRecDepth 100000

/-- a logarithm of a series, as an array -/
def LogEnd (xs : List Int) (w : World) (e : Ending) (w' : World) : Prop :=
  ∃ M, M.length = 16 ∧ allNum M = true ∧ co M 0 = 0 ∧ IsLog 15 (co M) (co xs) ∧ e = .returned (.agg (arr M)) ∧ Below w.heap.size w w'
theorem log_of {xs L : List Int} (h : QuoTo 16 L xs (cl 16 (dv (co xs)))) : co (cl 16 (itg (co L))) 0 = 0 ∧ IsLog 15 (co (cl 16 (itg (co L)))) (co xs) := by
  have h0 : co (cl 16 (itg (co L))) 0 = 0 := by rw [co_cl _ (by omega)]; rfl
  refine ⟨h0, by rw [h0]; exact Eqm.refl _, ?_⟩
  have h1 : Cg 15 (dv (co (cl 16 (itg (co L))))) (co L) := fun k hk => by
    show Eqm (((k : Int) + 1) * co (cl 16 (itg (co L))) (k + 1)) (co L k)
    rw [co_cl _ (by omega)]
    show Eqm (((k : Int) + 1) * ((co L k * inv ((k : Int) + 1)) % 10007)) (co L k)
    refine ((Eqm.refl _).mul (Eqm.mod _)).trans ?_
    have e : ((k : Int) + 1) * (co L k * inv ((k : Int) + 1)) = co L k * (inv ((k : Int) + 1) * ((k : Int) + 1)) := by grind
    rw [e]
    exact ((Eqm.refl _).mul (inv_mul _ (by omega) (by omega))).trans (Eqm.of_eq (Int.mul_one _))
  exact ((h1.cv (Cg.refl _ _)).trans (h.2.2.2.less (by omega))).trans ((co_cg 16 _).less (by omega))
set_option maxHeartbeats 2000000 in
theorem logarithmS_any (xs : List Int) (w : World) (hl : xs.length = 16) (ha : allNum xs = true) (h0 : co xs 0 ≠ 0) :
    Calls Try.prog 77 #[.agg (arr xs)] w (LogEnd xs w) := by
  have HL := Lib.hid hl
  have HA := Lib.hid ha
  have H00 := Lib.hid h0
  clear hl ha h0
  go_enter Try.func77, Try.ntmps77
  go_wp2_with fail
  have F := Lib.hid (arr_two w xs zero16)
  obtain ⟨W0, hW0⟩ : ∃ W0 : World, W0 = (w.alloc (.cells (arr xs) 65)).alloc (.cells (arr zero16) 65) := ⟨_, rfl⟩
  change Code.wp _ _ _ _ ((w.alloc (.cells (arr xs) 65)).alloc (.cells (arr zero16) 65))
  rw [← hW0] at F ⊢
  clear hW0
  have hz : w.heap.size + 1 < W0.heap.size := F.out.2.1.lt
  have hi1 : (Try.prog.info? 65).map (·.size) = some (ints xs).length := by rw [ints_length, HL.out]; exact info_arr
  have R : Hid (∀ W' : World, Below W0.heap.size W0 W' → W'.rangeAt w.heap.size 0 (ints xs)) := fun W' hb => (F.out.1.below hb (by omega)).range
  refine wp_region_held_drew (S := (fun w' => True ∧ w'.rangeAt w.heap.size 0 (ints xs))) (by kernel_rfl) ⟨trivial, R.out _ (below_drewN (Below.refl _ _) 1)⟩ (fun hHeld => ?_)
  refine wpAnyH_take (i := 0) (v := .agg (arr xs)) rfl (by kernel_rfl) (by kernel_rfl) (by kernel_rfl) (fun _ _ _ h => h) (yieldsIf_load_mid (by rfl) 65 (.tmp 1) rfl (w.heap.size) 0 rfl (ints xs) _ (fun w h => h.2) Try.underlying65 rfl hi1) hHeld ?_
  try simp only [Act.put, List.setIfInBounds_toArray, List.set_cons_zero, List.set_cons_succ]
  refine wpAnyH_take (i := 2) (v := .agg (arr xs)) rfl (by kernel_rfl) (by kernel_rfl) (by kernel_rfl) (fun _ _ _ h => h) (yieldsIf_load_mid (by rfl) 65 (.tmp 1) rfl (w.heap.size) 0 rfl (ints xs) _ (fun w h => h.2) Try.underlying65 rfl hi1) hHeld ?_
  try simp only [Act.put, List.setIfInBounds_toArray, List.set_cons_zero, List.set_cons_succ]
  refine wpAnyH_ready (rs := [1]) (by kernel_rfl) (by simp) ?_
  refine AllReadyH.cons rfl (fun K hK => ?_) ?_
  · go_simp
    refine (derivativeS_any xs _ HL.out HA.out).mono ?_
    rintro e w1 ⟨rfl, b1⟩
    have B1 : Below W0.heap.size W0 w1 := ⟨b1.os, b1.tape, b1.output, b1.size, b1.block⟩
    clear b1
    go_wp2_with fail
    refine hK.out _ _ ⟨trivial, R.out _ B1⟩ (fun hHeld => ?_)
    clear hK K
    try simp only [Act.put, List.setIfInBounds_toArray, List.set_cons_zero, List.set_cons_succ]
    refine wpAnyH_ready (rs := [3]) (by kernel_rfl) (by simp) ?_
    refine AllReadyH.cons rfl (fun K hK => ?_) ?_
    · go_simp
      refine (overS_any (cl 16 (dv (co xs))) xs _ (cl_length _ _) HL.out (cl_num _ _) HA.out H00.out).mono ?_
      rintro e w2 ⟨L, HQ, rfl, b2⟩
      have B2 : Below W0.heap.size W0 w2 := B1.trans ((show Below w1.heap.size w1 w2 from ⟨b2.os, b2.tape, b2.output, b2.size, b2.block⟩).mono B1.size)
      clear b2
      go_wp2_with fail
      refine hK.out _ _ ⟨trivial, R.out _ B2⟩ (fun hHeld => ?_)
      clear hK K
      try simp only [Act.put, List.setIfInBounds_toArray, List.set_cons_zero, List.set_cons_succ]
      refine wpAnyH_ready (rs := [4]) (by kernel_rfl) (by simp) ?_
      refine AllReadyH.cons rfl (fun K hK => ?_) ?_
      · go_simp
        refine (integralS_any L _ HQ.1 HQ.2.1).mono ?_
        rintro e w3 ⟨rfl, b3⟩
        have B3 : Below W0.heap.size W0 w3 := B2.trans ((show Below w2.heap.size w2 w3 from ⟨b3.os, b3.tape, b3.output, b3.size, b3.block⟩).mono B2.size)
        clear b3
        go_wp2_with fail
        refine hK.out _ _ ⟨trivial, R.out _ B3⟩ (fun hHeld => ?_)
        clear hK K
        try simp only [Act.put, List.setIfInBounds_toArray, List.set_cons_zero, List.set_cons_succ]
        refine wpAnyH_ready (rs := [5]) (by kernel_rfl) (by simp) ?_
        refine AllReadyH.cons rfl (fun K hK => ?_) ?_
        · refine step_store_row (by rfl) 65 (.tmp 2) (.tmp 7) (by rfl) (w.heap.size + 1) (arr (cl 16 (itg (co L)))) (by rfl) (by rfl) 65 (arr zero16) (by exact F.out.2.1.below B3 (by omega)) (by rw [arr_size (cl_length _ _)]; exact info_arr) (by rw [arr_size (cl_length _ _), arr_size (by first | exact cl_length _ _ | rfl)]) (arr_cells _) ?_
          refine hK.out _ _ ⟨trivial, ((F.out.1.below B3 (by omega)).putOther (by omega) _).range⟩ (fun hHeld => ?_)
          clear hK K
          try simp only [Act.put, List.setIfInBounds_toArray, List.set_cons_zero, List.set_cons_succ]
          refine wpAnyH_done (by kernel_rfl) ?_ _
          have HW := Lib.hid (log_of HQ)
          have GB := Lib.hid (F.out.2.2.trans (B3.mono (by omega)))
          have G2 := Lib.hid (F.out.2.1.below B3 (by omega))
          clear HQ B1 B2 B3 hHeld
          go_wp2
          refine bodyPost_ret (v := .agg (arr (cl 16 (itg (co L))))) ?_ rfl ⟨_, cl_length _ _, cl_num _ _, HW.out.1, HW.out.2, rfl, below_setRow GB.out (by omega) _⟩
          exact results_cell_row rfl _ _ (w.heap.size + 1) 65 _ (0, 0) _ rfl (setRow_heap _ _ _ _ _ _ G2.out) Try.underlying65 rfl (by rw [arr_size (cl_length _ _)]; exact info_arr)
        · exact AllReadyH.nil
      · exact AllReadyH.nil
    · exact AllReadyH.nil
  · exact AllReadyH.nil
end Go.Proofs.Ytjdanhjonjmccab
