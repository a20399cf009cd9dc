/-
  Both sides of the conditions, and the first fault, the program's.
-/
import Derived.Test.YtnnihdkhblbdgaaSyC
import Derived.Test.YtnnihdkhblbdgaaStR
namespace Go.Proofs.Ytnnihdkhblbdgaa
open Go.RowKit Fld
set_option linter.unusedVariables false
set_option linter.unusedSimpArgs false
set_option maxRecDepth 100000

theorem results_two {P : Program} {fn : Func} {p q : Tmp} {ty : TypeId} (h : fn.results = #[.cell p ty, .cell q ty]) (tmps : Array Value) (w : World) (g g2 : Nat) (t t2 : TypeId) (cs cs2 : Array Value) (fr fr2 : Nat × Nat) (d : TypeDesc)
    (hp : tmps.getD p undef = .pointer (some ⟨g, 0, none⟩)) (hg : w.heap[g]? = some (.cells cs t fr)) (hq : tmps.getD q undef = .pointer (some ⟨g2, 0, none⟩)) (hg2 : w.heap[g2]? = some (.cells cs2 t2 fr2))
    (hu : P.underlying ty = some d) (hd : (match d with | .struct _ | .array _ _ => true | _ => false) = true) (hi : (P.info? ty).map (·.size) = some cs.size) (hi2 : (P.info? ty).map (·.size) = some cs2.size) :
    (results fn tmps).run P w = .ok (.tuple #[.agg cs, .agg cs2]) w := by
  have hp' : tmps[p]?.getD undef = .pointer (some ⟨g, 0, none⟩) := by simpa using hp
  have hq' : tmps[q]?.getD undef = .pointer (some ⟨g2, 0, none⟩) := by simpa using hq
  simp [results, h, hp', hq', asAddr, run_loadVar_row w g t ty cs fr d hg hu hd hi, run_loadVar_row w g2 t2 ty cs2 fr2 d hg2 hu hd hi2]
set_option maxHeartbeats 4000000 in
theorem sides_any (A D : Option Addr) (n c d B B' : Nat) (m : List (List Int)) (b : List Int) (w : World) (ok : TbOk n m b) (hB : B ≤ w.heap.size) (hB' : B' ≤ w.heap.size) (h : Mat w B A m) (r : Row w B' D (ints b)) :
    Calls Try.prog 42 #[.agg #[.slice A n c, .slice D n d]] w fun e w' => e = .returned (.tuple #[.agg (arrG (grL (syL m b) n)), .agg (arrG (grL (syR b) n))]) ∧ Below w.heap.size w w' := by
  obtain ⟨W0, hW0⟩ : ∃ W0, W0 = ((w.alloc (.cells #[.slice A n c, .slice D n d] 60)).alloc (.cells (arrG zero64) 54)).alloc (.cells (arrG zero64) 54) := ⟨_, rfl⟩
  have FB : Hid (Below w.heap.size w W0) := by rw [hW0]; exact (((Below.refl _ _).alloc (Nat.le_refl _) _).alloc (by simp) _).alloc (by simp; omega) _
  have FX : Bx W0 w.heap.size 60 (.slice A n c) (.slice D n d) := by
    rw [hW0]; exact (Bx.new w _ _ _).next (((Below.refl _ _).alloc (Nat.le_refl _) _).alloc (by simp) _)
  have FR : Hid (ArrG W0 (w.heap.size + 1) zero64) := by rw [hW0]; exact (ArrG.next _ (by simp)).alloc _
  have FG : Hid (ArrG W0 (w.heap.size + 2) zero64) := by rw [hW0]; exact ArrG.next _ (by simp)
  have HS : Hid (W0.heap.size = w.heap.size + 3) := by rw [hW0]; simp [Hid]
  have FS : Hid (SchB W0 w.heap.size n m b A D c d B B') := ⟨FX, h.below FB.out hB, r.below FB.out hB'⟩
  have HC : Hid (∀ W, Below W0.heap.size W0 W → SchB W w.heap.size n m b A D c d B B') := fun W hW => FS.out.next hW (by have := HS.out; omega) (by have := HS.out; omega)
  have q0 := FX.c0
  have q1 := FX.c1
  have CL := fun W (hW : Below W0.heap.size W0 W) => gridBy_left w.heap.size A D n c d (syL m b) W ok.le fun V i k hi hk hV => left_any w.heap.size i k A D n c d B B' m b V ok (HC.out V (hW.trans (hV.mono hW.size))) hi hk
  have CR := fun W (hW : Below W0.heap.size W0 W) => gridBy_right w.heap.size A D n c d (syR b) W ok.le fun V i k hi hk hV => right_any w.heap.size i k A D n c d B B' m b V ok (HC.out V (hW.trans (hV.mono hW.size))) hi hk
  have L1 := Lib.hid (arrG_size (grL_length (syL m b) n))
  have L2 := Lib.hid (arrG_size (grL_length (syR b) n))
  have Z64 : Hid ((arrG zero64).size = 64) := by simp [Hid, zero64, arrG, ints_length]
  obtain ⟨X1, hX1⟩ : ∃ X1, X1 = grL (syL m b) n := ⟨_, rfl⟩
  obtain ⟨X2, hX2⟩ : ∃ X2, X2 = grL (syR b) n := ⟨_, rfl⟩
  simp only [← hX1, ← hX2] at CL CR L1 L2 ⊢
  clear ok h r FX FS hX1 hX2
  go_enter Try.func42, Try.ntmps42
  go_wp2_with fail
  refine (CL _ (by rw [hW0]; exact Below.refl _ _)).mono ?_
  rintro e w1 ⟨rfl, b1⟩
  have B1 : Hid (Below W0.heap.size W0 w1) := by rw [Hid, hW0]; exact b1
  have hs1 := B1.out.size
  clear b1 q0 q1
  have hq0 := (HC.out w1 B1.out).box.c0
  have hq1 := (HC.out w1 B1.out).box.c1
  obtain ⟨W1, hW1⟩ : ∃ W1, W1 = (w1.alloc (.cells (arrG zero64) 54)).setRow w1.heap.size (arrG X1) := ⟨_, rfl⟩
  have B2 : Hid (Below W0.heap.size W0 W1) := by rw [Hid, hW1]; exact below_setRow (B1.out.alloc hs1 _) hs1 _
  have G1 : Hid (ArrG W1 w1.heap.size X1) := by rw [Hid, hW1]; exact (ArrG.new w1 zero64).put _
  have S1 : Hid (W1.heap.size = w1.heap.size + 1) := by rw [Hid, hW1]; simp [World.setRow]
  have q0 := (HC.out W1 B2.out).box.c0
  have q1 := (HC.out W1 B2.out).box.c1
  go_wp2_with (first | (refine wpList_store_row rfl 54 (.tmp 4) (.tmp 8) rfl w1.heap.size (arrG X1) rfl rfl 54 (arrG zero64) (ArrG.new w1 zero64) (by rw [L1.out]; exact info_grd) (by rw [L1.out, Z64.out]) (arrG_cells _) ?_; change wpList _ _ _ _ _ ((w1.alloc (.cells (arrG zero64) 54)).setRow w1.heap.size (arrG X1)); rw [← hW1]; clear hW1 hq0 hq1 hW0))
  refine (CR _ B2.out).mono ?_
  rintro e w2 ⟨rfl, b2⟩
  have hs2 := b2.size
  have hs1' := S1.out
  have B3 : Hid (Below W0.heap.size W0 w2) := B2.out.trans (b2.mono B2.out.size)
  have hs3 := B3.out.size
  have hs0 := HS.out
  obtain ⟨W2, hW2⟩ : ∃ W2, W2 = (w2.alloc (.cells (arrG zero64) 54)).setRow w2.heap.size (arrG X2) := ⟨_, rfl⟩
  have B4 : Hid (Below W0.heap.size W0 W2) := by rw [Hid, hW2]; exact below_setRow (B3.out.alloc hs3 _) hs3 _
  have G2 : Hid (ArrG W2 w2.heap.size X2) := by rw [Hid, hW2]; exact (ArrG.new w2 zero64).put _
  have G1' : Hid (ArrG W2 w1.heap.size X1) := by rw [Hid, hW2]; exact ((G1.out.below b2 (by omega)).alloc _).putOther (by omega) _
  have R1 : Hid (ArrG W2 (w.heap.size + 1) zero64) := FR.out.below B4.out (by omega)
  have R2 : Hid (ArrG W2 (w.heap.size + 2) zero64) := FG.out.below B4.out (by omega)
  have n1 : w1.heap.size ≠ w.heap.size + 1 := by omega
  have n2 : w1.heap.size ≠ w.heap.size + 2 := by omega
  have n3 : w2.heap.size ≠ w.heap.size + 1 := by omega
  have n4 : w2.heap.size ≠ w.heap.size + 2 := by omega
  have B5 : Hid (Below w.heap.size w W2) := FB.out.trans (B4.out.mono FB.out.size)
  clear b2 q0 q1 G1 CL CR FR FG
  go_wp2_with (first | (refine wpList_store_row rfl 54 (.tmp 5) (.tmp 11) rfl w2.heap.size (arrG X2) rfl rfl 54 (arrG zero64) (ArrG.new w2 zero64) (by rw [L2.out]; exact info_grd) (by rw [L2.out, Z64.out]) (arrG_cells _) ?_; change wpList _ _ _ _ _ ((w2.alloc (.cells (arrG zero64) 54)).setRow w2.heap.size (arrG X2)); rw [← hW2]; clear hW2))
  refine wp_region_held_drew (S := (fun w' => True)) (by kernel_rfl) trivial (fun hHeld => ?_)
  refine wpAnyH_ready (rs := [0, 1]) (by kernel_rfl) (by simp) ?_
  refine AllReadyH.cons (o := _) rfl (fun K hK => ?_) ?_
  · refine step_load_row (by rfl) 54 (.tmp 4) (by rfl) w1.heap.size (by rfl) 54 (arrG X1) (0, 0) _ (by first | exact G1'.out | exact G1'.out.drewN 1 | exact G1'.out.putOther n1 _ | exact G1'.out.putOther n2 _) Try.underlying54 (by rfl) (by rw [L1.out]; exact info_grd) ?_
    refine hK.out _ _ trivial (fun hHeld => ?_)
    clear hK K
    try simp only [Act.put, List.setIfInBounds_toArray, List.set_cons_zero, List.set_cons_succ, List.getElem_toArray, List.getElem_cons_zero, List.getElem_cons_succ]
    refine wpAnyH_ready (rs := [1, 2]) (by kernel_rfl) (by simp) ?_
    refine AllReadyH.cons (o := _) rfl (fun K hK => ?_) ?_
    · refine step_load_row (by rfl) 54 (.tmp 5) (by rfl) w2.heap.size (by rfl) 54 (arrG X2) (0, 0) _ (by first | exact G2.out | exact G2.out.drewN 1 | exact (G2.out.drewN 1).putOther n3 _ | exact (G2.out.drewN 1).putOther n4 _) Try.underlying54 (by rfl) (by rw [L2.out]; exact info_grd) ?_
      refine hK.out _ _ trivial (fun hHeld => ?_)
      clear hK K
      try simp only [Act.put, List.setIfInBounds_toArray, List.set_cons_zero, List.set_cons_succ, List.getElem_toArray, List.getElem_cons_zero, List.getElem_cons_succ]
      refine wpAnyH_ready (rs := [2]) (by kernel_rfl) (by simp) ?_
      refine AllReadyH.cons (o := _) rfl (fun K hK => ?_) ?_
      · refine step_store_row (by rfl) 54 (.tmp 2) (.tmp 12) (by rfl) (w.heap.size + 1) (arrG X1) (by rfl) (by rfl) 54 (arrG zero64) (by first | exact R1.out.drewN 1 | exact (R1.out.drewN 1).putOther (by omega) _) (by rw [L1.out]; exact info_grd) (by rw [L1.out, Z64.out]) (arrG_cells _) ?_
        refine hK.out _ _ trivial (fun hHeld => ?_)
        clear hK K
        try simp only [Act.put, List.setIfInBounds_toArray, List.set_cons_zero, List.set_cons_succ, List.getElem_toArray, List.getElem_cons_zero, List.getElem_cons_succ]
        refine wpAnyH_ready (rs := [3]) (by kernel_rfl) (by simp) ?_
        refine AllReadyH.cons (o := _) rfl (fun K hK => ?_) ?_
        · refine step_store_row (by rfl) 54 (.tmp 3) (.tmp 13) (by rfl) (w.heap.size + 2) (arrG X2) (by rfl) (by rfl) 54 (arrG zero64) (by first | exact R2.out.drewN 1 | exact (R2.out.drewN 1).putOther (by omega) _) (by rw [L2.out]; exact info_grd) (by rw [L2.out, Z64.out]) (arrG_cells _) ?_
          refine hK.out _ _ trivial (fun hHeld => ?_)
          clear hK K
          try simp only [Act.put, List.setIfInBounds_toArray, List.set_cons_zero, List.set_cons_succ, List.getElem_toArray, List.getElem_cons_zero, List.getElem_cons_succ]
          refine wpAnyH_done (by kernel_rfl) ?_ _
          go_wp2_with fail
          refine bodyPost_ret (v := .tuple #[.agg (arrG X1), .agg (arrG X2)]) ?_ rfl ⟨rfl, below_setRow (below_setRow (below_drewN B5.out _) (by omega) _) (by omega) _⟩
          exact results_two (by rfl) _ _ (w.heap.size + 1) (w.heap.size + 2) 54 54 _ _ (0, 0) (0, 0) _ (by first | rfl | simp) (((R1.out.drewN 1).put _).putOther (by omega) _) (by first | rfl | simp) (((R2.out.drewN 1).putOther (by omega) _).put _) Try.underlying54 rfl (by rw [L1.out]; exact info_grd) (by rw [L2.out]; exact info_grd)
        exact AllReadyH.nil
      exact AllReadyH.nil
    refine AllReadyH.cons (o := _) rfl (fun K hK => ?_) ?_
    · refine step_store_row (by rfl) 54 (.tmp 2) (.tmp 12) (by rfl) (w.heap.size + 1) (arrG X1) (by rfl) (by rfl) 54 (arrG zero64) (by first | exact R1.out.drewN 1 | exact (R1.out.drewN 1).putOther (by omega) _) (by rw [L1.out]; exact info_grd) (by rw [L1.out, Z64.out]) (arrG_cells _) ?_
      refine hK.out _ _ trivial (fun hHeld => ?_)
      clear hK K
      try simp only [Act.put, List.setIfInBounds_toArray, List.set_cons_zero, List.set_cons_succ, List.getElem_toArray, List.getElem_cons_zero, List.getElem_cons_succ]
      refine wpAnyH_ready (rs := [1]) (by kernel_rfl) (by simp) ?_
      refine AllReadyH.cons (o := _) rfl (fun K hK => ?_) ?_
      · refine step_load_row (by rfl) 54 (.tmp 5) (by rfl) w2.heap.size (by rfl) 54 (arrG X2) (0, 0) _ (by first | exact G2.out | exact G2.out.drewN 1 | exact (G2.out.drewN 1).putOther n3 _ | exact (G2.out.drewN 1).putOther n4 _) Try.underlying54 (by rfl) (by rw [L2.out]; exact info_grd) ?_
        refine hK.out _ _ trivial (fun hHeld => ?_)
        clear hK K
        try simp only [Act.put, List.setIfInBounds_toArray, List.set_cons_zero, List.set_cons_succ, List.getElem_toArray, List.getElem_cons_zero, List.getElem_cons_succ]
        refine wpAnyH_ready (rs := [3]) (by kernel_rfl) (by simp) ?_
        refine AllReadyH.cons (o := _) rfl (fun K hK => ?_) ?_
        · refine step_store_row (by rfl) 54 (.tmp 3) (.tmp 13) (by rfl) (w.heap.size + 2) (arrG X2) (by rfl) (by rfl) 54 (arrG zero64) (by first | exact R2.out.drewN 1 | exact (R2.out.drewN 1).putOther (by omega) _) (by rw [L2.out]; exact info_grd) (by rw [L2.out, Z64.out]) (arrG_cells _) ?_
          refine hK.out _ _ trivial (fun hHeld => ?_)
          clear hK K
          try simp only [Act.put, List.setIfInBounds_toArray, List.set_cons_zero, List.set_cons_succ, List.getElem_toArray, List.getElem_cons_zero, List.getElem_cons_succ]
          refine wpAnyH_done (by kernel_rfl) ?_ _
          go_wp2_with fail
          refine bodyPost_ret (v := .tuple #[.agg (arrG X1), .agg (arrG X2)]) ?_ rfl ⟨rfl, below_setRow (below_setRow (below_drewN B5.out _) (by omega) _) (by omega) _⟩
          exact results_two (by rfl) _ _ (w.heap.size + 1) (w.heap.size + 2) 54 54 _ _ (0, 0) (0, 0) _ (by first | rfl | simp) (((R1.out.drewN 1).put _).putOther (by omega) _) (by first | rfl | simp) (((R2.out.drewN 1).putOther (by omega) _).put _) Try.underlying54 rfl (by rw [L1.out]; exact info_grd) (by rw [L2.out]; exact info_grd)
        exact AllReadyH.nil
      exact AllReadyH.nil
    exact AllReadyH.nil
  refine AllReadyH.cons (o := _) rfl (fun K hK => ?_) ?_
  · refine step_load_row (by rfl) 54 (.tmp 5) (by rfl) w2.heap.size (by rfl) 54 (arrG X2) (0, 0) _ (by first | exact G2.out | exact G2.out.drewN 1 | exact (G2.out.drewN 1).putOther n3 _ | exact (G2.out.drewN 1).putOther n4 _) Try.underlying54 (by rfl) (by rw [L2.out]; exact info_grd) ?_
    refine hK.out _ _ trivial (fun hHeld => ?_)
    clear hK K
    try simp only [Act.put, List.setIfInBounds_toArray, List.set_cons_zero, List.set_cons_succ, List.getElem_toArray, List.getElem_cons_zero, List.getElem_cons_succ]
    refine wpAnyH_ready (rs := [0]) (by kernel_rfl) (by simp) ?_
    refine AllReadyH.cons (o := _) rfl (fun K hK => ?_) ?_
    · refine step_load_row (by rfl) 54 (.tmp 4) (by rfl) w1.heap.size (by rfl) 54 (arrG X1) (0, 0) _ (by first | exact G1'.out | exact G1'.out.drewN 1 | exact G1'.out.putOther n1 _ | exact G1'.out.putOther n2 _) Try.underlying54 (by rfl) (by rw [L1.out]; exact info_grd) ?_
      refine hK.out _ _ trivial (fun hHeld => ?_)
      clear hK K
      try simp only [Act.put, List.setIfInBounds_toArray, List.set_cons_zero, List.set_cons_succ, List.getElem_toArray, List.getElem_cons_zero, List.getElem_cons_succ]
      refine wpAnyH_ready (rs := [2]) (by kernel_rfl) (by simp) ?_
      refine AllReadyH.cons (o := _) rfl (fun K hK => ?_) ?_
      · refine step_store_row (by rfl) 54 (.tmp 2) (.tmp 12) (by rfl) (w.heap.size + 1) (arrG X1) (by rfl) (by rfl) 54 (arrG zero64) (by first | exact R1.out.drewN 1 | exact (R1.out.drewN 1).putOther (by omega) _) (by rw [L1.out]; exact info_grd) (by rw [L1.out, Z64.out]) (arrG_cells _) ?_
        refine hK.out _ _ trivial (fun hHeld => ?_)
        clear hK K
        try simp only [Act.put, List.setIfInBounds_toArray, List.set_cons_zero, List.set_cons_succ, List.getElem_toArray, List.getElem_cons_zero, List.getElem_cons_succ]
        refine wpAnyH_ready (rs := [3]) (by kernel_rfl) (by simp) ?_
        refine AllReadyH.cons (o := _) rfl (fun K hK => ?_) ?_
        · refine step_store_row (by rfl) 54 (.tmp 3) (.tmp 13) (by rfl) (w.heap.size + 2) (arrG X2) (by rfl) (by rfl) 54 (arrG zero64) (by first | exact R2.out.drewN 1 | exact (R2.out.drewN 1).putOther (by omega) _) (by rw [L2.out]; exact info_grd) (by rw [L2.out, Z64.out]) (arrG_cells _) ?_
          refine hK.out _ _ trivial (fun hHeld => ?_)
          clear hK K
          try simp only [Act.put, List.setIfInBounds_toArray, List.set_cons_zero, List.set_cons_succ, List.getElem_toArray, List.getElem_cons_zero, List.getElem_cons_succ]
          refine wpAnyH_done (by kernel_rfl) ?_ _
          go_wp2_with fail
          refine bodyPost_ret (v := .tuple #[.agg (arrG X1), .agg (arrG X2)]) ?_ rfl ⟨rfl, below_setRow (below_setRow (below_drewN B5.out _) (by omega) _) (by omega) _⟩
          exact results_two (by rfl) _ _ (w.heap.size + 1) (w.heap.size + 2) 54 54 _ _ (0, 0) (0, 0) _ (by first | rfl | simp) (((R1.out.drewN 1).put _).putOther (by omega) _) (by first | rfl | simp) (((R2.out.drewN 1).putOther (by omega) _).put _) Try.underlying54 rfl (by rw [L1.out]; exact info_grd) (by rw [L2.out]; exact info_grd)
        exact AllReadyH.nil
      exact AllReadyH.nil
    exact AllReadyH.nil
  exact AllReadyH.nil
end Go.Proofs.Ytnnihdkhblbdgaa
